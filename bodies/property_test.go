package bodies_test

import (
	"strings"
	"testing"

	"dialtone/api"
	"dialtone/bodies"
)

// sameSplit checks Split against the definition, and returns whether the text is accepted.
func sameSplit(t *testing.T, s, boundary string) bool {
	t.Helper()
	l, at, e := bodies.Split([]byte(s), boundary)
	want, wantAt, wantError := splitOf(s, boundary)
	if !equalParts(l, want) || at != wantAt || e != wantError {
		t.Fatalf("Split(%q, %q) = %q, %d, %d; want %q, %d, %d", s, boundary, l, at, e, want, wantAt, wantError)
	}
	return e == api.OK
}

// P5.1: against the definition, for all short texts
func TestSplitShortTexts(t *testing.T) {
	accepted := 0
	count := func(boundary string) func(string) {
		return func(s string) {
			if sameSplit(t, s, boundary) {
				accepted++
			}
		}
	}
	allTexts([]string{"\r\n", "--b", "--", "b", " ", "w:", "\r"}, 6, count("b"))
	allTexts([]string{"\r\n", "--b\r\n", "\r\n--b--", "k:a", "\r\n\r\n"}, 7, count("b"))
	allTexts([]string{"\r\n", "--", "-", " "}, 7, count("--"))
	if accepted < 1000 {
		t.Errorf("only %d texts were accepted", accepted)
	}
}

// pieces are parts of texts of parts, among them what is wrong.
func pieces() []string {
	return []string{"\r\n", "\r\n\r\n", "--b", "--b\r\n", "--b--", "--b--\r\n", "--", "b", " ", "\t", "\r", "\n", ":", "w: 1\r\n", "c: A/B;x\r\n", "l: 1\r\n", "l: x\r\n", "k: a;b=\"\r\n", " folded\r\n", "\x00", "\xff", "hi", "w", strings.Repeat("v", 1020), "w:" + strings.Repeat("v", 1025) + "\r\n", strings.Repeat("z:\r\n", 60)}
}

// written returns the text of at most n parts, some of them not valid, with the boundary b.
func (c *chooser) written(n int) string {
	heads := []string{"", "", "w: 1\r\n", "c: A/B;x\r\n", "w:\r\n a\r\n\tb\r\n", "k : a,b\r\nw:\r\n", "l: 07\r\n", "z\r\n", " w: 1\r\n", "w: \x00\r\n", "c:\r\n", strings.Repeat("z:\r\n", 64), strings.Repeat("z:\r\n", 65), "w:" + strings.Repeat("v", 1020) + "\r\n  vvv\r\n"}
	inner := []string{"", "hi", "\r\n", "\r\n\r\n", "-b", "--bb", "\r\n--b-", "\r\n--a", "w: 1\r\n\r\n", "\r", "\n", "\x00\xff"}
	var b strings.Builder
	b.WriteString(c.from([]string{"", "", "x\r\n", "\r\n", "--bb\r\n", "x"}))
	for range c.below(n + 1) {
		b.WriteString("--b" + c.from([]string{"", "", "", " ", "\t "}) + "\r\n" + c.from(heads[:2+c.below(len(heads)-1)]))
		if c.below(12) > 0 {
			b.WriteString("\r\n" + c.from(inner))
		}
		b.WriteString("\r\n")
	}
	return b.String() + c.from([]string{"--b--", "--b--\r\n", "--b-- \r\nbehind\r\n--b\r\n", "--b", "", "--b\r\n", "--b--x"})
}

// P5.1: against the definition, for texts of which many are wrong in one place or another
func TestSplitTexts(t *testing.T) {
	choose := chooser(1)
	accepted := 0
	for range 20000 {
		s := choose.written(10)
		for range choose.below(3) {
			at := choose.below(len(s) + 1)
			if choose.below(2) == 0 { // at the beginning of a line
				at = max(strings.LastIndex(s[:at], "\r\n")+2, 0) % (len(s) + 1)
			}
			s = s[:at] + choose.from(pieces()) + s[min(at+choose.below(3)*choose.below(3), len(s)):]
		}
		if sameSplit(t, s, "b") {
			accepted++
		}
	}
	for range 5000 {
		sameSplit(t, choose.text(pieces(), 20), "b")
	}
	if accepted < 1000 {
		t.Errorf("only %d texts were accepted", accepted)
	}
}

// part returns a part, which is valid if odd is 0, and may not be otherwise.
func (c *chooser) part(odd int) api.Part {
	var p api.Part
	names := []string{"c", "Content-Type", "CONTENT-type", "w", "W-x", "k", "e", "Content-X", "l", "v", "--b", "b0", "Content-Disposition"}
	values := map[string][]string{
		"c": {"a/b", " A/B;Y ; x", "token", "multipart/mixed", "text/plain", "Multipart/x;Boundary=b0", `multipart/y;boundary="b"`}, "w": {"", " ", "1", "a b\tc", "--b0", "\u00e9\xff"}, "k": {"a,b", "c ;D , e"}, "l": {"0", "007"},
		"v": {"sip/2.0/udp H", "SIP/2.0/UDP h;branch=1,SIP/2.0/TCP i"}, "d": {"session;Handling=x"},
	}
	for range c.below(4) {
		name := c.from(names)
		kind := map[string]string{"c": "c", "Content-Type": "c", "CONTENT-type": "c", "k": "k", "l": "l", "v": "v", "Content-Disposition": "d"}[name]
		if kind == "" {
			kind = "w"
		}
		p.Headers = append(p.Headers, headers(name, c.from(values[kind]))...)
	}
	if c.below(10) < odd {
		p.Headers = append(p.Headers, headers(c.from([]string{"w", "w ", "", "l", "k", "c", "Content-Y"}), c.from([]string{"", "x", "a\nb", "a,,b", `"`, strings.Repeat("v", 1025)}))...)
	}
	p.Body = []byte(c.text([]string{"hi", "\r\n", "--b", "--b0", "--b1", "--b2", "0", "1", "-", "\r", "\x00", "w: 1\r\n\r\n", " "}, 5))
	return p
}

func (c *chooser) parts(most, odd int) []api.Part {
	var l []api.Part
	for range c.below(most + 1) {
		l = append(l, c.part(odd))
	}
	return l
}

// P5.2 and P5.3 against the definitions
func TestJoinAll(t *testing.T) {
	choose := chooser(2)
	joined := 0
	for range 20000 {
		l := choose.parts(10, 1)
		boundary := choose.from([]string{"b", "b0", "b1", "b2", "b3", "-", "q", "", "a b"})
		want, e := joinOf(l, boundary)
		checkJoin(t, l, boundary, want, e)
		if got, want := bodies.Boundary(l), newBoundaryOf(l); got != want {
			t.Fatalf("Boundary(%q) = %q; want %q", l, got, want)
		}
		if e == api.OK {
			joined++
		}
	}
	if joined < 2000 {
		t.Errorf("only %d were joined", joined)
	}
}

// P5.7: Split of what Join returns gives the normal forms, also with anything behind it; Join with what Boundary returns is never a duplicate; and a text that is cut before its last delimiter is refused.
func TestSplitOfJoin(t *testing.T) {
	choose := chooser(3)
	for i := range 4000 {
		l := choose.parts(7, 0)
		l = append(l, choose.part(0))
		want, ok := normalsOf(l)
		if !ok {
			t.Fatalf("%q are not valid", l)
		}
		boundary := bodies.Boundary(l)
		if i%2 == 0 {
			boundary = choose.from([]string{"b", "b0", "q", "-", "x--", strings.Repeat("b", 70)})
		}
		b, e := bodies.Join(l, boundary)
		if i%2 == 0 && e == api.ErrDuplicate {
			continue
		}
		if e != api.OK {
			t.Fatalf("Join(%q, %q): %d", l, boundary, e)
		}
		for _, behind := range []string{"", "x", "\r\n", "--" + boundary + "\r\n", "--" + boundary + "--\r\n", choose.text(pieces(), 2)} {
			if got := mustSplit(t, string(b)+behind, boundary); !equalParts(got, want) {
				t.Fatalf("Split of %q = %q; want %q", string(b)+behind, got, want)
			}
		}
		checkCut(t, string(b), boundary, choose)
	}
}

// checkCut checks that a text of parts is refused if it ends before its last delimiter does.
func checkCut(t *testing.T, s, boundary string, choose chooser) {
	t.Helper()
	whole := len(s) - len("\r\n")
	for _, n := range []int{0, choose.below(whole), choose.below(whole), choose.below(whole), whole - 2 - len(boundary) - 2, whole - 2, whole - 1} {
		if l, at, e := bodies.Split([]byte(s[:n]), boundary); e == api.OK || len(l) > 0 || at > n {
			t.Fatalf("Split(%q, %q) = %q, %d, %d", s[:n], boundary, l, at, e)
		}
	}
}

// P5.7: every text that is cut
func TestSplitCut(t *testing.T) {
	s := mustJoin(t, []api.Part{part("one\r\n\r\n", "c", "a/b", "w", ""), part("--b"), part("", "k", "a,b"), part("\r\n")}, "b1")
	for n := range len(s) - len("--b1--\r\n") + 1 {
		if l, at, e := bodies.Split([]byte(s[:n]), "b1"); e != api.ErrShort && e != api.ErrSyntax || len(l) > 0 || at > n {
			t.Errorf("Split(%q) = %q, %d, %d", s[:n], l, at, e)
		}
	}
}

// message returns a message with headers of all sorts, some of them wrong.
func (c *chooser) message() api.Message {
	names := []string{"Subject", "s", "a b", "Content", "Call-ID", "X-Content-Type"}
	m := sent(c.written(4))
	for range c.below(4) {
		m.Headers = append(m.Headers, headers(c.from(names), c.from([]string{"", "x", "\n"}))...)
	}
	if c.below(5) > 0 {
		m.Headers = append(m.Headers, headers(c.from([]string{"c", "Content-Type", "content-TYPE"}), c.from([]string{"multipart/x;boundary=b", "multipart/x; Boundary = b;z", "MULTIPART/y;a=1;boundary=\"b\"", "multipart/z", "a/b", "text/plain;boundary=b", "@", "multipart/x;boundary", "multipart/x;boundary=c"}))...)
	}
	for range c.below(3) {
		m.Headers = append(m.Headers, headers(c.from([]string{"c", "e", "l", "Content-X"}), c.from([]string{"", "x", "multipart/x;boundary=b", "\n"}))...)
	}
	if c.below(2) > 0 {
		m.Body = []byte(c.within(4))
	}
	return m
}

// within returns a text of parts of the boundary b, with further ones within.
func (c *chooser) within(levels int) string {
	types := []string{"", "", "c: a/b\r\n", "c: A/b;x\r\n", "c: c/d\r\ne: x\r\n", "e: x\r\n", "c: @\r\n", "c: multipart/x\r\n", "c: text/plain\r\n"}
	if c.below(3) == 0 {
		types = append(types[:3:3], "c: @\r\n", "c: multipart/x\r\n")
	}
	var b strings.Builder
	for range 1 + c.below(3) {
		b.WriteString("--b\r\n")
		if levels > 0 && c.below(2) == 0 {
			inner := strings.NewReplacer("--b", "--bb", "boundary=b", "boundary=bb").Replace(c.within(levels - 1))
			b.WriteString("c: Multipart/x;boundary=bb\r\n\r\n" + inner + "\r\n")
			continue
		}
		b.WriteString(c.from(types) + "\r\n" + c.from([]string{"1", "2", "3", "--c"}) + "\r\n")
	}
	return b.String() + c.from([]string{"--b--", "--b--", "--b--", "--b--\r\n", "--b-- \r\nx", "--b"})
}

func kinds() []string {
	return []string{"a/b", "A/B", "c/d", "text/plain", "Text/PLAIN", "multipart/x", "multipart/z", "x", "", "q/q", "a/b;x"}
}

// P5.4 and P5.5 against the definitions
func TestOfAndFindAll(t *testing.T) {
	choose := chooser(4)
	found := 0
	for range 20000 {
		m := choose.message()
		want, e := ofOf(m)
		checkOf(t, m, want, e)
		kind := choose.from(kinds())
		p, e := findOf(m, kind)
		checkFind(t, m, kind, p, e)
		if e == api.OK {
			found++
		}
	}
	if found < 2000 {
		t.Errorf("only %d parts were found", found)
	}
}

// P5.6 against the definition, and P5.7: what Put puts into a message, Of finds in it
func TestPutAll(t *testing.T) {
	choose := chooser(5)
	put := 0
	for range 20000 {
		m := choose.message()
		l := choose.parts(1+choose.below(10), 1)
		want, e := putOf(m, l)
		checkPut(t, m, l, want, e)
		if e != api.OK {
			continue
		}
		put++
		normal, _ := normalsOf(l)
		if len(l) == 1 && !isFound(normal[0]) {
			continue
		}
		r, _ := bodies.Put(m, l)
		if got, e := bodies.Of(r); !equalParts(got, normal) || e != api.OK {
			t.Fatalf("Of finds %q, %d in what Put made of %q", got, e, l)
		}
	}
	if put < 3000 {
		t.Errorf("only %d messages got their parts", put)
	}
}

// isFound reports whether Of finds a single part in normal form that Put put into a message.
func isFound(p api.Part) bool {
	_, several := boundaryOf(p.Headers)
	for _, h := range p.Headers {
		if h.Name == "Content-Type" {
			return !several
		}
	}
	return len(p.Body) > 0
}
