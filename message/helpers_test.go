package message_test

import (
	"bytes"
	"slices"
	"strings"
	"testing"

	"dialtone/api"
	"dialtone/message"
)

// text returns lines, each with its end, and an empty line.
func text(lines ...string) string {
	var b strings.Builder
	for _, line := range lines {
		b.WriteString(line + "\r\n")
	}
	return b.String() + "\r\n"
}

// headers returns headers with the names and values that are given in turn.
func headers(namesAndValues ...string) []api.Header {
	var l []api.Header
	for i := 0; i+1 < len(namesAndValues); i += 2 {
		l = append(l, api.Header{Name: namesAndValues[i], Value: namesAndValues[i+1]})
	}
	return l
}

// request returns an OPTIONS request with headers.
func request(namesAndValues ...string) api.Message {
	return api.Message{Method: "OPTIONS", URI: "sip:b", Headers: headers(namesAndValues...)}
}

// response returns a response with headers.
func response(namesAndValues ...string) api.Message {
	return api.Message{Code: 200, Reason: "OK", Headers: headers(namesAndValues...)}
}

// equal compares messages field by field, apart from message.Same.
func equal(a, b api.Message) bool {
	return a.Method == b.Method && a.URI == b.URI && a.Code == b.Code && a.Reason == b.Reason &&
		slices.Equal(a.Headers, b.Headers) && bytes.Equal(a.Body, b.Body)
}

// clone returns a copy of m that shares no memory with it.
func clone(m api.Message) api.Message {
	m.Headers = slices.Clone(m.Headers)
	m.Body = slices.Clone(m.Body)
	return m
}

// overwrite changes all headers and bytes of m, also those behind its slices.
func overwrite(m api.Message) {
	l := m.Headers[:cap(m.Headers)]
	for i := range l {
		l[i] = api.Header{Name: "Changed", Value: "changed"}
	}
	body := m.Body[:cap(m.Body)]
	for i := range body {
		body[i] = '#'
	}
}

// hasOwnMemory checks that change, called twice for m, leaves m alone and returns messages that share no memory with it or each other.
func hasOwnMemory(t *testing.T, what string, m api.Message, change func(api.Message) api.Message) {
	t.Helper()
	// Free room behind the slices must not be written to.
	m.Headers = append(slices.Grow(slices.Clone(m.Headers), 3), headers("Behind", "1", "Behind", "2")...)[:len(m.Headers)]
	m.Body = append(slices.Grow(slices.Clone(m.Body), 3), "12"...)[:len(m.Body)]
	before, behind := clone(m), slices.Clone(m.Headers[:len(m.Headers)+2])
	first := change(m)
	want := clone(first)
	second := change(m)
	if !equal(m, before) || !slices.Equal(m.Headers[:len(m.Headers)+2], behind) || string(m.Body[:len(m.Body)+2]) != string(before.Body)+"12" {
		t.Errorf("%s changes its argument %+v to %+v", what, before, m)
	}
	overwrite(m)
	if !equal(first, want) || !equal(second, want) {
		t.Errorf("%s returns memory of its argument: %+v, want %+v", what, first, want)
	}
	overwrite(first)
	if !equal(second, want) {
		t.Errorf("two results of %s share memory: %+v, want %+v", what, second, want)
	}
}

// mustParse reads a text that is a message.
func mustParse(t *testing.T, s string) api.Message {
	t.Helper()
	m, at, e := message.Parse([]byte(s))
	if e != api.OK || at != 0 {
		t.Fatalf("Parse(%q): %d at %d", s, e, at)
	}
	return m
}

// chooser chooses numbers by a fixed sequence.
type chooser uint32

func (c *chooser) below(n int) int {
	*c = *c*1664525 + 1013904223
	return int(*c>>8) % n
}

func (c *chooser) from(l []string) string { return l[c.below(len(l))] }

// some returns at most n elements of l.
func (c *chooser) some(l []string, n int) []string {
	var r []string
	for range c.below(n + 1) {
		r = append(r, c.from(l))
	}
	return r
}

// eachByte calls visit for every byte, as a text.
func eachByte(visit func(b string)) {
	for c := range 256 {
		visit(string([]byte{byte(c)}))
	}
}

func isControl(c byte) bool { return c < 32 && c != 9 || c == 127 }

func hasControl(s string) bool { return slices.ContainsFunc([]byte(s), isControl) }

// singles contains the chapter's names of single headers, with a value of each.
func singles() map[string]string {
	return map[string]string{
		"Call-ID": "x", "Content-Length": "0", "Content-Type": "a/b", "CSeq": "1 A", "Event": "a", "Expires": "1", "From": "<sip:a>", "Max-Forwards": "70",
		"Min-SE": "90", "RAck": "1 1 A", "Refer-To": "<sip:a>", "RSeq": "1", "Session-Expires": "90", "To": "<sip:a>",
	}
}

// lists contains the names whose values may be lists, with an element of each.
func lists() map[string]string {
	return map[string]string{
		"Contact": "<sip:a>", "Path": "<sip:a>", "Record-Route": "<sip:a>", "Route": "<sip:a>", "Service-Route": "<sip:a>", "Via": "SIP/2.0/UDP a",
		"Accept": "a", "Allow": "a", "Allow-Events": "a", "Proxy-Require": "a", "Require": "a", "Supported": "a", "Unsupported": "a",
	}
}

// repeatable contains names that are neither single nor of lists, with a value of each.
func repeatable() map[string]string {
	return map[string]string{
		"Min-Expires": "1", "Reply-To": "<sip:a>", "Referred-By": "<sip:a>", "Content-Disposition": "a", "Subscription-State": "a", "Subject": "a, b", "Content-Encoding": "a", "WWW-Authenticate": "a", "MIME-Version": "1.0", "Authorization": "x", "Q": "", "Date": "x",
	}
}

// sortedKeys returns the keys of a table in a fixed order.
func sortedKeys(m map[string]string) []string {
	var l []string
	for k := range m {
		l = append(l, k)
	}
	slices.Sort(l)
	return l
}
