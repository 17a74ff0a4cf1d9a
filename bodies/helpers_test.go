package bodies_test

import (
	"bytes"
	"slices"
	"strings"
	"testing"

	"dialtone/api"
	"dialtone/bodies"
)

// lines returns lines with CR LF between them.
func lines(l ...string) string { return strings.Join(l, "\r\n") }

// headers returns headers with the names and values that are given in turn.
func headers(namesAndValues ...string) []api.Header {
	var l []api.Header
	for i := 0; i+1 < len(namesAndValues); i += 2 {
		l = append(l, api.Header{Name: namesAndValues[i], Value: namesAndValues[i+1]})
	}
	return l
}

// part returns a part with a body and headers.
func part(body string, namesAndValues ...string) api.Part {
	return api.Part{Headers: headers(namesAndValues...), Body: []byte(body)}
}

// plain returns parts without headers.
func plain(all ...string) []api.Part {
	var l []api.Part
	for _, body := range all {
		l = append(l, part(body))
	}
	return l
}

// sent returns a message with a body and headers.
func sent(body string, namesAndValues ...string) api.Message {
	return api.Message{Method: "M", URI: "u", Code: 7, Reason: "r", Headers: headers(namesAndValues...), Body: []byte(body)}
}

// severalOf returns a message with the text of parts of the boundary b.
func severalOf(body string) api.Message { return sent(body, "c", "multipart/mixed;boundary=b") }

func equalPart(a, b api.Part) bool {
	return slices.Equal(a.Headers, b.Headers) && bytes.Equal(a.Body, b.Body)
}

func equalParts(a, b []api.Part) bool { return slices.EqualFunc(a, b, equalPart) }

func equal(a, b api.Message) bool {
	return a.Method == b.Method && a.URI == b.URI && a.Code == b.Code && a.Reason == b.Reason &&
		slices.Equal(a.Headers, b.Headers) && bytes.Equal(a.Body, b.Body)
}

// clonePart returns a copy of p that shares no memory with it, with free room behind its slices that is not empty.
func clonePart(p api.Part) api.Part {
	l := append(slices.Clone(p.Headers), headers("Behind", "1", "Behind", "2")...)
	body := append(slices.Clone(p.Body), "12"...)
	return api.Part{Headers: l[:len(p.Headers)], Body: body[:len(p.Body)]}
}

func cloneParts(parts []api.Part) []api.Part {
	var l []api.Part
	for _, p := range parts {
		l = append(l, clonePart(p))
	}
	return l
}

func clone(m api.Message) api.Message {
	p := clonePart(api.Part{Headers: m.Headers, Body: m.Body})
	m.Headers, m.Body = p.Headers, p.Body
	return m
}

// behind returns what is in the free room of a clone.
func behind(p api.Part) string {
	l, body := p.Headers[:len(p.Headers)+2], p.Body[:len(p.Body)+2]
	return l[len(p.Headers)].Name + l[len(p.Headers)+1].Value + string(body[len(p.Body):])
}

// unchanged checks that the parts are still the clones of before, with what is behind their slices.
func unchanged(t *testing.T, what string, parts, before []api.Part) {
	t.Helper()
	if !equalParts(parts, before) {
		t.Errorf("%s changes its argument %q to %q", what, before, parts)
	}
	for _, p := range parts {
		if behind(p) != "Behind212" {
			t.Errorf("%s writes behind its argument: %q", what, behind(p))
		}
	}
}

// overwrite changes all headers and bytes of p, also those behind its slices.
func overwrite(p api.Part) {
	l := p.Headers[:cap(p.Headers)]
	for i := range l {
		l[i] = api.Header{Name: "Changed", Value: "changed"}
	}
	body := p.Body[:cap(p.Body)]
	for i := range body {
		body[i] = '#'
	}
}

func overwriteAll(parts []api.Part) {
	for _, p := range parts {
		overwrite(p)
	}
}

// checkOwn checks that parts share no memory with each other. It overwrites them.
func checkOwn(t *testing.T, what string, parts []api.Part) {
	t.Helper()
	for len(parts) > 0 {
		rest := cloneParts(parts[1:])
		overwrite(parts[0])
		if !equalParts(parts[1:], rest) {
			t.Errorf("the parts of %s share memory: %q, want %q", what, parts[1:], rest)
		}
		parts = parts[1:]
	}
}

// mustSplit reads a text of parts.
func mustSplit(t *testing.T, s, boundary string) []api.Part {
	t.Helper()
	l, at, e := bodies.Split([]byte(s), boundary)
	if at != 0 || e != api.OK {
		t.Fatalf("Split(%q, %q): %d at %d", s, boundary, e, at)
	}
	return l
}

// mustJoin returns the text of parts.
func mustJoin(t *testing.T, parts []api.Part, boundary string) string {
	t.Helper()
	b, e := bodies.Join(parts, boundary)
	if e != api.OK {
		t.Fatalf("Join(%q, %q): %d", parts, boundary, e)
	}
	return string(b)
}

// chooser chooses numbers by a fixed sequence.
type chooser uint32

func (c *chooser) below(n int) int {
	*c = *c*1664525 + 1013904223
	return int(*c>>8) % n
}

func (c *chooser) from(l []string) string { return l[c.below(len(l))] }

// text returns at most n elements of l, joined.
func (c *chooser) text(l []string, n int) string {
	var b strings.Builder
	for range c.below(n + 1) {
		b.WriteString(c.from(l))
	}
	return b.String()
}

// allTexts calls visit for all texts of at most n of the pieces.
func allTexts(pieces []string, n int, visit func(string)) {
	var extend func(string, int)
	extend = func(s string, n int) {
		visit(s)
		if n == 0 {
			return
		}
		for _, p := range pieces {
			extend(s+p, n-1)
		}
	}
	extend("", n)
}

// eachByte calls visit for every byte, as a text.
func eachByte(visit func(b string)) {
	for c := range 256 {
		visit(string([]byte{byte(c)}))
	}
}

func isControl(c byte) bool { return c < 32 && c != 9 || c == 127 }

// tokenBytes are the characters of tokens.
const tokenBytes = "ABCDEFGHIJKLMNOPQRSTUVWXYZabcdefghijklmnopqrstuvwxyz0123456789-.!%*_+'~`"
