package message_test

import (
	"slices"
	"strings"
	"testing"

	"dialtone/api"
	"dialtone/header"
	"dialtone/message"
)

// values contains values of names that are accepted; the blanks in them are of one byte, so that a line may be folded there.
func values() map[string][]string {
	return map[string][]string{
		"Via":              {"SIP/2.0/UDP h;branch=z1", "sip/2.0/tcp H:05 ; x, SIP/2.0/UDP i", `SIP/2.0/UDP h;b=2;a=",";branch=z2`, "SIP/2.0/UDP h;x=" + strings.Repeat("v", 500)},
		"From":             {"sip:a;tag=1", `"A, \" B" <SIP:A@B;y;x>;z;Tag=2`, "A B C <tel:+1-2>"},
		"To":               {"<sip:b>", "sip:b ;tag=2;a"},
		"Call-ID":          {"x", "a b@c", ""},
		"CSeq":             {"007 INVITE", "1 ACK"},
		"Contact":          {"*", "sip:a,<sip:b;c>;q=1 , *", "<sip:" + strings.Repeat("c", 600) + "@h>"},
		"Content-Type":     {"application/SDP", "a/b;Z;y=1"},
		"Content-Encoding": {"x, y"},
		"Event":            {"e;ID=1"},
		"Refer-To":         {"sip:r?h=1"},
		"Referred-By":      {"sip:r"},
		"Session-Expires":  {"090;Refresher=uac"},
		"Subject":          {"", "one two three", `"`, "\u00e9\xff", strings.Repeat("long ", 200)},
		"Supported":        {"a,b;X=1 , c", "100rel", strings.Repeat("s", 700)},
		"Allow-Events":     {"a", "b ,c"},
		"Route":            {"<sip:r;lr>", "sip:s, sip:t"},
		"Record-Route":     {"<sip:r;lr>", "sip:s ,sip:t"},
		"Max-Forwards":     {"070"},
		"RAck":             {"01 02 X"},
		"Min-Expires":      {"05"},
		"MIME-Version":     {"1.0"},
		"X-Other":          {"a:b, c", ""},
		"Q":                {"q"},
	}
}

// shortNames contains the names that one letter stands for.
func shortNames() map[string]string {
	return map[string]string{
		"Referred-By": "b", "Content-Type": "c", "Content-Encoding": "e", "From": "f", "Call-ID": "i", "Supported": "k", "Content-Length": "l",
		"Contact": "m", "Event": "o", "Refer-To": "r", "Subject": "s", "To": "t", "Allow-Events": "u", "Via": "v", "Session-Expires": "x",
	}
}

func valueNames() []string {
	var l []string
	for name := range values() {
		l = append(l, name)
	}
	slices.Sort(l)
	return l
}

func starts() []string {
	return []string{"INVITE sip:B@C SIP/2.0", "ACK SIP:a;Y;X SIP/2.0", "X tel:+1-2 SIP/2.0", "SIP/2.0 200 OK", "SIP/2.0 404 Not found here", "SIP/2.0 100"}
}

func bodies() []string {
	return []string{"", "", "a", "\r\n\r\n", "v=0\r\no=x\r\n", "\x00\xff", strings.Repeat("b", 3000)}
}

// spelled returns a name as it is, in another spelling, or as a short name.
func (c *chooser) spelled(name string) string {
	switch c.below(4) {
	case 0:
		return strings.ToUpper(name)
	case 1:
		return strings.ToLower(name)
	case 2:
		if short := shortNames()[name]; short != "" {
			return c.from([]string{short, strings.ToUpper(short)})
		}
	}
	return name
}

// folded returns a line with some of its blanks, or what is put beside its ends, divided into lines.
func (c *chooser) folded(line string) string {
	var b strings.Builder
	for _, word := range strings.SplitAfter(line, " ") {
		if strings.HasSuffix(word, " ") && !strings.Contains(word, "\r\n") && c.below(3) == 0 {
			word = strings.TrimSuffix(word, " ") + c.from([]string{"\r\n ", "\r\n\t ", " \t\r\n \t", " \r\n \r\n\t\r\n "})
		}
		b.WriteString(word)
	}
	return b.String() + c.from([]string{"", "", " ", "\t \t", "\r\n ", " \r\n\t"})
}

// headersOfText returns the names and values of headers that may stand in one message: no single one twice.
func (c *chooser) headersOfText(most int) []api.Header {
	var l []api.Header
	names := valueNames()
	for range c.below(most + 1) {
		name := c.from(names)
		_, single := singles()[name]
		if !single || countOf(l, name) == 0 {
			l = append(l, headers(name, c.from(values()[name]))...)
		}
	}
	return l
}

// written returns a text of a start line, headers and a body; with spell, spelled and folded somehow.
func (c *chooser) written(start string, l []api.Header, body string, spell bool) string {
	lines := []string{start}
	for _, h := range l {
		lines = append(lines, h.Name+": "+h.Value)
		if spell {
			lines[len(lines)-1] = c.folded(c.spelled(h.Name) + c.from([]string{"", "", " ", "\t"}) + ":" + c.from([]string{"", " ", "\t", " \r\n  "}) + h.Value)
		}
	}
	return text(lines...) + body
}

// P4.14: Parse of what Print returns is the normal form; Print of what Parse returns is read and printed as the same; Normal changes a normal form no more. A text is read alike if its headers have other names, or are folded. The results are those of the definition.
func TestParseAll(t *testing.T) {
	choose := chooser(1)
	for range 3000 {
		start, l, body := choose.from(starts()), choose.headersOfText(12), choose.from(bodies())
		plain := choose.written(start, l, body, false)
		want, wantAt, wantError := parsed(plain)
		for _, s := range []string{plain, choose.written(start, l, body, true), choose.written(start, l, body, true)} {
			if len(s) > 8192 {
				continue
			}
			m, at, e := message.Parse([]byte(s))
			if wantError == api.OK && (!equal(m, want) || e != api.OK || at != 0) {
				t.Fatalf("Parse(%q) = %+v, %d, %d; want %+v", s, m, at, e, want)
			}
			if e != wantError || s == plain && at != wantAt {
				t.Fatalf("Parse(%q): %d at %d; want %d at %d", s, e, at, wantError, wantAt)
			}
		}
		if wantError == api.OK {
			checkStable(t, want)
		}
	}
}

// checkStable checks the properties of a message in normal form.
func checkStable(t *testing.T, n api.Message) {
	t.Helper()
	if again, e := message.Normal(n); !equal(again, n) || e != api.OK {
		t.Errorf("Normal changes the normal form %+v to %+v, %d", n, again, e)
	}
	b, e := message.Print(n)
	if string(b) != textOf(n) || e != api.OK {
		t.Errorf("Print(%+v) = %q, %d", n, b, e)
	}
	m, _, e := message.Parse(b)
	if !equal(m, n) || e != api.OK || !message.Same(m, n) {
		t.Errorf("what Print(%+v) returns is read as %+v, %d", n, m, e)
	}
	if again, e := message.Print(m); string(again) != string(b) || e != api.OK {
		t.Errorf("Print(%+v) = %q, %d; want %q", m, again, e, b)
	}
}

// P4.1: against the definition, for texts of which many are wrong in one place or another
func TestParseWrong(t *testing.T) {
	choose := chooser(2)
	pieces := []string{"\r\n", "\r\n\r\n", " ", "\t", ":", ",", "\x00", "\r", "\n", "l: 1\r\n", "L:3\r\n", "x\r\n", "To: sip:a\r\n", "To: sip:a:0\r\n", "k:\r\n", "k: a;b=\"\r\n", "z: " + strings.Repeat("z", 1025) + "\r\n", "0", "SIP/2.0", "\"", "<", "sip:a", "7", "a b: c\r\n"}
	for range 20000 {
		s := choose.written(choose.from(starts()), choose.headersOfText(4), choose.from(bodies()), choose.below(2) == 0)
		for range choose.below(3) {
			at := choose.below(len(s) + 1)
			if choose.below(2) == 0 { // at the beginning of a line
				at = max(strings.LastIndex(s[:at], "\r\n")+2, 0) % (len(s) + 1)
			}
			s = s[:at] + choose.from(pieces) + s[min(at+choose.below(3)*choose.below(3), len(s)):]
		}
		want, wantAt, wantError := parsed(s)
		if m, at, e := message.Parse([]byte(s)); !equal(m, want) || at != wantAt || e != wantError {
			t.Fatalf("Parse(%q) = %+v, %d, %d; want %+v, %d, %d", s, m, at, e, want, wantAt, wantError)
		}
	}
}

// P4.1: against the definition, for all short texts
func TestParseShort(t *testing.T) {
	parts := []string{"\r\n", "\r\n\r\n", " ", "SIP/2.0", "A", "sip:a", "200", ":", "l", "1"}
	var extend func(s string, n int)
	extend = func(s string, n int) {
		for _, s := range []string{s, s + "\r\n\r\n", "SIP/2.0 200" + s + "\r\n\r\n"} {
			want, wantAt, wantError := parsed(s)
			if m, at, e := message.Parse([]byte(s)); !equal(m, want) || at != wantAt || e != wantError {
				t.Fatalf("Parse(%q) = %+v, %d, %d; want %+v, %d, %d", s, m, at, e, want, wantAt, wantError)
			}
		}
		if n == 0 {
			return
		}
		for _, p := range parts {
			extend(s+p, n-1)
		}
	}
	extend("", 5)
}

// message returns a message; about a half of them are valid.
func (c *chooser) message() api.Message {
	var m api.Message
	if c.below(2) == 0 {
		m.Method = c.from([]string{"INVITE", "ACK", "x", "INVITE", "CANCEL", "BYE", "A B", ""})
		m.URI = c.from([]string{"sip:a", "SIP:A@B;y;x", "tel:+1-2", "sips:h", "sip:h?b=1&a=2", "sip:c", "http:a", ""})
	} else {
		m.Code = 100 + c.below(605)
		m.Reason = c.from([]string{"", "OK", "Not found", "a\tb", "\u00e9", "x", "y", " z", "a\nb"})
	}
	m.Headers = c.headersOfText(12)
	for i := range m.Headers {
		m.Headers[i].Name = c.spelled(m.Headers[i].Name)
		if c.below(4) == 0 {
			m.Headers[i].Value = c.from([]string{" ", "\t", "  "}) + m.Headers[i].Value + " "
		}
	}
	if c.below(3) == 0 {
		m.Headers = slices.Insert(m.Headers, c.below(len(m.Headers)+1), c.oddHeaders()...)
	}
	m.Body = []byte(c.from(bodies()))
	return m
}

// oddHeaders returns one or two headers that stand rarely in a message, or must not.
func (c *chooser) oddHeaders() []api.Header {
	l := []api.Header{
		{Name: "l", Value: "7"}, {Name: "Content-Length", Value: " 07"}, {Name: "a b", Value: "x"}, {Name: "", Value: ""}, {Name: "z", Value: "a\nb"}, {Name: "To", Value: "x"}, {Name: "f", Value: "sip:z"},
		{Name: "k", Value: "a,,b"}, {Name: "Via", Value: ""}, {Name: "m", Value: "sip:a, <"}, {Name: "z", Value: strings.Repeat("z", 1025)}, {Name: "k", Value: strings.Repeat("k,", 400) + "k"},
	}
	if c.below(2) == 0 {
		return []api.Header{l[c.below(2)]}
	}
	return []api.Header{l[c.below(len(l))], l[c.below(len(l))]}
}

// P4.2, P4.3 against the definition, P4.14 for what is valid, and P4.11 for what is not
func TestNormalAll(t *testing.T) {
	choose := chooser(3)
	valid := 0
	for range 6000 {
		m := choose.message()
		n, ok := normalOf(m)
		if !ok {
			checkNotValid(t, m)
			continue
		}
		valid++
		checkNormal(t, m, n)
		checkStable(t, n)
	}
	if valid < 2000 {
		t.Errorf("only %d messages were valid", valid)
	}
}

// others returns the headers of m whose names are not equal to name.
func others(m api.Message, name string) []api.Header {
	canon, e := header.Canon(name)
	var l []api.Header
	for _, h := range m.Headers {
		if other, f := header.Canon(h.Name); e != api.OK || f != api.OK || other != canon {
			l = append(l, h)
		}
	}
	return l
}

// P4.14: Set, Push, Drop and DropFirst change no headers of other names; and what P4.5 to P4.10 say of each other
func TestChangeAll(t *testing.T) {
	choose := chooser(4)
	names := append(valueNames(), "Content-Length", "Z")
	for range 6000 {
		m := choose.message()
		name := choose.spelled(choose.from(names))
		before, rest := message.All(m, name), others(m, name)
		first, had := message.Get(m, name)
		set, push, drop, dropFirst := message.Set(m, name, "new"), message.Push(m, name, "new"), message.Drop(m, name), message.DropFirst(m, name)
		for what, x := range map[string]api.Message{"Set": set, "Push": push, "Drop": drop, "DropFirst": dropFirst} {
			if !slices.Equal(others(x, name), rest) || x.Method != m.Method || x.URI != m.URI || x.Code != m.Code || x.Reason != m.Reason || string(x.Body) != string(m.Body) {
				t.Fatalf("%s of %q in %+v changes more: %+v", what, name, m, x)
			}
		}
		if got := message.All(set, name); !slices.Equal(got, []string{"new"}) {
			t.Errorf("behind Set of %q in %+v, All = %q", name, m, got)
		}
		if got := message.All(push, name); !slices.Equal(got, append([]string{"new"}, before...)) {
			t.Errorf("behind Push of %q in %+v, All = %q", name, m, got)
		}
		if got := message.All(drop, name); len(got) > 0 || len(drop.Headers) != len(rest) {
			t.Errorf("behind Drop of %q in %+v, All = %q", name, m, got)
		}
		if got := message.All(dropFirst, name); had && !slices.Equal(got, before[1:]) || !had && !equal(dropFirst, m) {
			t.Errorf("behind DropFirst of %q in %+v, All = %q; want %q", name, m, got, before)
		}
		if had != (len(before) > 0) || had && len(others(m, name)) == len(m.Headers) || !had && first != "" {
			t.Errorf("Get of %q in %+v = %q, %v; All = %q", name, m, first, had, before)
		}
		if back := message.DropFirst(push, name); !equal(back, m) {
			t.Errorf("Push and DropFirst of %q change %+v to %+v", name, m, back)
		}
	}
}

// P4.12: a response to a request has the headers that its normal form has, and is in normal form itself.
func TestReplyAll(t *testing.T) {
	choose := chooser(5)
	for range 3000 {
		m := choose.message()
		code := 100 + choose.below(3)*choose.below(300)
		n, ok := normalOf(m)
		r, e := message.Reply(m, code, "", "")
		if !ok || m.Code != 0 {
			if e != api.ErrArg || !equal(r, api.Message{}) {
				t.Errorf("Reply(%+v, %d) = %+v, %d", m, code, r, e)
			}
			continue
		}
		want := api.Message{Code: code}
		for _, h := range n.Headers {
			if slices.Contains([]string{"Via", "From", "To", "Call-ID", "CSeq"}, h.Name) || h.Name == "Record-Route" && code > 100 && code < 300 {
				want.Headers = append(want.Headers, h)
			}
		}
		want.Headers = append(want.Headers, headers("Content-Length", "0")...)
		if !equal(r, want) || e != api.OK {
			t.Errorf("Reply(%+v, %d) = %+v, %d; want %+v", m, code, r, e, want)
		}
		checkStable(t, r)
	}
}
