package bodies_test

import (
	"slices"
	"strings"
	"testing"

	"dialtone/api"
	"dialtone/bodies"
)

// splitCase is a text of the boundary b with its parts, or with an error and its offset.
type splitCase struct {
	s     string
	parts []api.Part
	at    int
	e     api.Errno
}

func checkSplits(t *testing.T, boundary string, cases []splitCase) {
	t.Helper()
	for _, c := range cases {
		l, at, e := bodies.Split([]byte(c.s), boundary)
		if !equalParts(l, c.parts) || at != c.at || e != c.e {
			t.Errorf("Split(%q, %q) = %q, %d, %d; want %q, %d, %d", c.s, boundary, l, at, e, c.parts, c.at, c.e)
		}
	}
}

// P5.1
func TestSplit(t *testing.T) {
	checkSplits(t, "b", []splitCase{
		{s: lines("--b", "c: text/plain", "", "hi", "--b--"), parts: []api.Part{part("hi", "Content-Type", "text/plain")}},
		{s: lines("--b", "c: text/plain", "", "hi", "--b--", ""), parts: []api.Part{part("hi", "Content-Type", "text/plain")}},
		{s: lines("--b", "", "1", "--b", "", "2", "--b", "", "3", "--b--"), parts: plain("1", "2", "3")},
		{s: lines("--b", "", "", "--b--"), parts: plain("")},
		{s: lines("--b", "", "", "", "--b--"), parts: plain("\r\n")},
		{s: lines("--b", "", "\r\n", "--b--"), parts: plain("\r\n")},
		{s: lines("--b", "", "one", "two", "", "--b--"), parts: plain("one\r\ntwo\r\n")},
		{s: lines("--b", "w: 1", "", "", "--b--"), parts: []api.Part{part("", "W", "1")}},
		{s: lines("--b", "w: 1", "", "", "", "--b--"), parts: []api.Part{part("\r\n", "W", "1")}},
		{s: lines("--b", "", "w: 1", "", "y", "--b--"), parts: plain("w: 1\r\n\r\ny")},
		{s: lines("--b", "", "\x00\r\n\xff\r", "--b--"), parts: plain("\x00\r\n\xff\r")},
		{s: lines("--b", "V : sip/2.0/udp H , SIP/2.0/tcp i", "call-id:\tx\t", "w:", "W:  ", "l: 007", "", "hi", "--b--"),
			parts: []api.Part{part("hi", "Via", "SIP/2.0/UDP h, SIP/2.0/TCP i", "Call-ID", "x", "W", "", "W", "", "Content-Length", "7")}},
		{s: lines("--b", "w: a:b", " c", "\t d \t", " ", "y:", " e", "", "hi", "--b--"), parts: []api.Part{part("hi", "W", "a:b c d", "Y", "e")}},
		{s: lines("--b", "c: a/b", "c: c/d", "", "hi", "--b--"), parts: []api.Part{part("hi", "Content-Type", "a/b", "Content-Type", "c/d")}},
	})
}

// P5.1: what a delimiter is, what is before the first one, and what is behind the last one
func TestSplitDelimiters(t *testing.T) {
	one := plain("hi")
	checkSplits(t, "b", []splitCase{
		{s: lines("before", "--b", "", "hi", "--b--"), parts: one},
		{s: lines("", "--b", "", "hi", "--b--"), parts: one},
		{s: lines("--b \t", "", "hi", "--b-- \t "), parts: one},
		{s: lines("--b", "", "hi", "--b--\t", "behind", "--b", "--b--", "--b"), parts: one},
		{s: lines("--b", "", "hi", "--b-- ", "\x00"), parts: one},
		{s: lines(" --b", "-b", "--B--", "---b", "--bb", "--b-", "--b---", "--b --", "--b \r", "--b", "", "hi", "--b--"), parts: one},
		{s: lines("--b", "", " --b--", "-b--", "--B--", "--bb--", "--b-", "--b---", "--b----", "--b-- -", "--b --", "--b--\r", "x--b--", "\n--b--", "--b--"),
			parts: plain(lines(" --b--", "-b--", "--B--", "--bb--", "--b-", "--b---", "--b----", "--b-- -", "--b --", "--b--\r", "x--b--", "\n--b--"))},
		{s: lines("--b", "", "hi\r", "--b--"), parts: plain("hi\r")},
		{s: "--b\n\r\n--b\r\n\r\nhi\r\n--b--\n\r\n--b--", parts: plain("hi\r\n--b--\n")},
		{s: "--b\r\n\r\nhi\r--b--\n--b--\r\n--b--", parts: plain("hi\r--b--\n--b--")},
	})
	checkSplits(t, "b--", []splitCase{
		{s: lines("--b----", ""), e: api.ErrSyntax},
		{s: lines("--b--", "", "hi", "--b---", "--b----"), parts: plain("hi\r\n--b---")},
	})
	checkSplits(t, "-", []splitCase{
		{s: lines("---", "", "hi", "--", "----", "-----"), parts: plain("hi\r\n--\r\n----")},
	})
	checkSplits(t, "a.b", []splitCase{
		{s: lines("--axb", "--a.b", "", "--a-b--", "--a.b--"), parts: plain("--a-b--")},
	})
}

// P5.1: every byte behind two hyphens and the boundary, and before them
func TestSplitEachByte(t *testing.T) {
	eachByte(func(b string) {
		within, first := splitCase{parts: plain("hi\r\n--b--" + b)}, splitCase{at: 10, e: api.ErrSyntax}
		if b == " " || b == "\t" {
			within, first = splitCase{parts: plain("hi")}, splitCase{parts: plain("")}
		}
		within.s, first.s = lines("--b", "", "hi", "--b--"+b, "--b--"), lines("--b"+b, "", "", "--b--")
		checkSplits(t, "b", []splitCase{
			within, first,
			{s: lines("--b", "", "hi"+b, "--b--"), parts: plain("hi" + b)},
			{s: lines("--b", "", "hi", b+"--b--", "--b--"), parts: plain("hi\r\n" + b + "--b--")},
		})
	})
}

// P5.1: ErrArg
func TestSplitBoundary(t *testing.T) {
	long := strings.Repeat("w", 70)
	checkSplits(t, long, []splitCase{{s: lines("--"+long, "", "hi", "--"+long+"--"), parts: plain("hi")}})
	large := strings.Repeat("a", 8193)
	for _, boundary := range []string{"", long + "w", "a b", " b", "b ", "b:", "b/c", "a\x00", "\u00e9", "b\r\n", `"b"`, "a,b", strings.Repeat("y", 9000)} {
		for _, s := range []string{lines("--"+boundary, "", "hi", "--"+boundary+"--"), "", large} {
			checkSplits(t, boundary, []splitCase{{s: s, e: api.ErrArg}})
		}
	}
	eachByte(func(b string) {
		s := lines("--w"+b, "", "hi", "--w"+b+"--")
		if strings.Contains(tokenBytes, b) {
			checkSplits(t, "w"+b, []splitCase{{s: s, parts: plain("hi")}})
		} else {
			checkSplits(t, "w"+b, []splitCase{{s: s, e: api.ErrArg}})
		}
	})
}

// P5.1: ErrLimit for the length
func TestSplitLength(t *testing.T) {
	s := lines("--b", "", "hi", "--b--", "")
	for _, c := range []struct {
		n  int
		at int
		e  api.Errno
	}{{8191, 0, api.OK}, {8192, 0, api.OK}, {8193, 8192, api.ErrLimit}, {100000, 8192, api.ErrLimit}} {
		full := s + strings.Repeat("z", c.n-len(s))
		var want []api.Part
		if c.e == api.OK {
			want = plain("hi")
		}
		checkSplits(t, "b", []splitCase{{s: full, parts: want, at: c.at, e: c.e}})
		short := strings.Repeat("z", c.n)
		if c.e == api.OK {
			checkSplits(t, "b", []splitCase{{s: short, at: c.n, e: api.ErrShort}})
		} else {
			checkSplits(t, "b", []splitCase{{s: short, at: 8192, e: api.ErrLimit}})
		}
	}
}

// P5.1: ErrShort, and ErrSyntax for a last delimiter
func TestSplitShort(t *testing.T) {
	for _, s := range []string{"", "w", "\r\n", "--", "--b-", "x--b", " --b", "--bb\r\n--b--x", "\n--b", "--b", "--b\r\n", "--b \t", "--b\r\n\r\n", "--b\r\n\r\nhi\r\n", "--b\r\n\r\nhi\r\n--b", "--b\r\n\r\nhi\r\n--b\r\n", "--b\r\n\r\nhi\n--b--", "--b\r\n \x00: wrong", "--b\r\n\r\nhi\r\n--b\r\n \x00"} {
		checkSplits(t, "b", []splitCase{{s: s, at: len(s), e: api.ErrShort}})
	}
	checkSplits(t, "b", []splitCase{
		{s: "--b--", at: 0, e: api.ErrSyntax},
		{s: "--b--\t\r\n--b\r\n\r\n--b--", at: 0, e: api.ErrSyntax},
		{s: "\r\n--b--", at: 2, e: api.ErrSyntax},
		{s: "before\r\n--b-\r\n--b-- \r\n--b", at: 14, e: api.ErrSyntax},
	})
}

// P5.1: ErrSyntax without an empty line, and the errors of lexis.Unfold
func TestSplitHead(t *testing.T) {
	checkSplits(t, "b", []splitCase{
		{s: lines("--b", "--b--"), at: 5, e: api.ErrSyntax},
		{s: lines("--b", "", "--b--"), at: 5, e: api.ErrSyntax},
		{s: lines("--b", "w: 1", "--b--"), at: 5, e: api.ErrSyntax},
		{s: lines("--b", "w: 1", "", "--b--"), at: 5, e: api.ErrSyntax},
		{s: lines("--b", "w: 1", " ", "hi", "--b--"), at: 5, e: api.ErrSyntax},
		{s: lines("--b", "w: 1\n\nhi", "--b--"), at: 5, e: api.ErrSyntax},
		{s: lines("--b", "w: 1\x00", "--b--"), at: 5, e: api.ErrSyntax},
		{s: lines("before", "--b \t", "hi", "--b--"), at: 15, e: api.ErrSyntax},
		{s: lines("--b", "", "1", "--b", "", "2", "--b", "hi", "--b--"), at: 25, e: api.ErrSyntax},
		{s: lines("--b", " x: 1", "", "hi", "--b--"), at: 5, e: api.ErrSyntax},
		{s: lines("--b", " ", "", "hi", "--b--"), at: 5, e: api.ErrSyntax},
		{s: lines("--b", "w: 1", "\r", "", "hi", "--b--"), at: 11, e: api.ErrSyntax},
		{s: lines("--b", "w", "y: \x7f", "", "hi", "--b--"), at: 11, e: api.ErrSyntax},
		{s: lines("before", "--b", "", "\x00", "--b ", "w: 1", "y: \n", "", "hi", "--b--"), at: 33, e: api.ErrSyntax},
	})
	eachByte(func(b string) {
		s := lines("--b", "w: 1", "y: "+b+"z", "", b, "--b--")
		if isControl(b[0]) {
			checkSplits(t, "b", []splitCase{{s: s, at: 14, e: api.ErrSyntax}})
		} else {
			checkSplits(t, "b", []splitCase{{s: s, parts: []api.Part{part(b, "W", "1", "Y", strings.Trim(b, " \t")+"z")}}})
		}
	})
}

// P5.1: the errors of the header lines
func TestSplitHeaders(t *testing.T) {
	long := strings.Repeat("v", 1024)
	name := strings.Repeat("n", 64)
	for _, c := range []struct {
		line string
		e    api.Errno
	}{
		{"w", api.ErrSyntax}, {"w 1", api.ErrSyntax}, {":", api.ErrSyntax}, {": 1", api.ErrSyntax}, {"a b: 1", api.ErrSyntax}, {"x/y: 1", api.ErrSyntax}, {"\u00e9: 1", api.ErrSyntax}, {name + "n: 1", api.ErrSyntax},
		{"w: " + long + "v", api.ErrLimit}, {"l: " + long + "v", api.ErrLimit}, {"a b: " + long + "v", api.ErrSyntax},
		{"l: x", api.ErrSyntax}, {"l: 2147483648", api.ErrRange}, {"c:", api.ErrSyntax}, {"c: a/", api.ErrSyntax}, {"v: SIP/2.0/UDP h:0", api.ErrRange}, {"t: sip:a;;", api.ErrSyntax},
		{"k: a;x=\"", api.ErrShort}, {"k: a,,b", api.ErrSyntax}, {"c: a;x;X", api.ErrDuplicate}, {"c: a" + manyParams(17), api.ErrLimit}, {"t: <http:a>", api.ErrUnsupported},
		{"k: " + strings.Repeat("a,", 400) + "a", api.ErrLimit},
	} {
		checkSplits(t, "b", []splitCase{
			{s: lines("--b", c.line, "", "hi", "--b--"), at: 5, e: c.e},
			{s: lines("--b", "", "1", "--b", "Y: 2", " 3", "z :4", c.line+" ", "also wrong", "", "hi", "--b--", "w"), at: 31, e: c.e},
		})
	}
	checkSplits(t, "b", []splitCase{
		{s: lines("--b", "w: \t "+long+" \t", "y:", " "+long, name+":", "", "hi", "--b--"), parts: []api.Part{part("hi", "W", long, "Y", long, "N"+name[1:], "")}},
		{s: lines("--b", "w: "+long[1:], " v", "", "hi", "--b--"), at: 5, e: api.ErrLimit},
		{s: lines("--b", "w: "+long[2:], " v", "", "hi", "--b--"), parts: []api.Part{part("hi", "W", long[2:]+" v")}},
	})
}

// manyParams returns n parameters.
func manyParams(n int) string {
	var b strings.Builder
	for i := range n {
		b.WriteString(";p" + string(rune('a'+i)))
	}
	return b.String()
}

// P5.1: the sixty-fifth header
func TestSplitManyHeaders(t *testing.T) {
	var want api.Part
	var l []string
	for i := range 64 {
		n := i%9 + 1
		l = append(l, strings.Repeat("w", n)+": 1")
		want.Headers = append(want.Headers, headers("W"+strings.Repeat("w", n-1), "1")...)
	}
	head := lines(l...)
	offset := len("--b\r\n" + head + "\r\n")
	checkSplits(t, "b", []splitCase{
		{s: lines("--b", head, "", "", "--b--"), parts: []api.Part{want}},
		{s: lines("--b", head, "l: 0", "", "", "--b--"), at: offset, e: api.ErrLimit},
		{s: lines("--b", head, "w", "", "", "--b--"), at: offset, e: api.ErrSyntax},
		{s: lines("--b", head, "l: 2147483648", "", "", "--b--"), at: offset, e: api.ErrRange},
		{s: lines("--b", head, " 1", "", "", "--b--"), parts: []api.Part{{Headers: append(want.Headers[:63:63], headers(want.Headers[63].Name, "1 1")...)}}},
		{s: lines("--b", head, "w: 1", "w", "", "", "--b--"), at: offset, e: api.ErrLimit},
		{s: lines("--b", head, "", "", "--b", head, "", "", "--b--"), parts: []api.Part{want, clonePart(want)}},
	})
}

// P5.1: the ninth part
func TestSplitManyParts(t *testing.T) {
	eight := "x\r\n" + strings.Repeat("--b\r\n\r\n1\r\n", 8)
	offset := len(eight)
	checkSplits(t, "b", []splitCase{
		{s: eight + "--b--", parts: plain("1", "1", "1", "1", "1", "1", "1", "1")},
		{s: eight + "--b", at: offset, e: api.ErrLimit},
		{s: eight + "--b\r\n", at: offset, e: api.ErrLimit},
		{s: eight + "--b\r\n\r\n1\r\n--b--", at: offset, e: api.ErrLimit},
		{s: eight + "--b\r\nwrong\r\n--b--", at: offset, e: api.ErrLimit},
		{s: eight + "--b\r\n\r\n1\r\n--b\r\n\r\n1\r\n--b--", at: offset, e: api.ErrLimit},
		{s: eight, at: offset, e: api.ErrShort},
		{s: strings.Replace(eight, "\r\n\r\n1", "\r\nwrong", 1) + "--b", at: 8, e: api.ErrSyntax},
	})
}

// P5.1: errors of an earlier part come before those of a later one, and before those of what is behind it.
func TestSplitOrder(t *testing.T) {
	checkSplits(t, "b", []splitCase{
		{s: lines("--b", "w", "", "1", "--b"), at: 5, e: api.ErrSyntax},
		{s: lines("--b", "w", "", "1"), at: 11, e: api.ErrShort},
		{s: lines("--b", "w", "", "1", "--b", "", "2", "--b"), at: 5, e: api.ErrSyntax},
		{s: lines("--b", "l: 2147483648", "", "1", "--b", "--b--"), at: 5, e: api.ErrRange},
		{s: lines("--b", "", "1", "--b", "l: 2147483648", "", "2", "--b", "--b--"), at: 15, e: api.ErrRange},
		{s: lines("--b", "", "1", "--b", "--b", "l: 2147483648", "", "2", "--b--"), at: 15, e: api.ErrSyntax},
	})
}

// Rules 4 and 5
func TestSplitMemory(t *testing.T) {
	s := lines("--b", "c: a/b", "k: x", "", "one", "--b", "", "two", "--b", "x:1", "", "three", "--b--")
	body := append([]byte(s), "12"...)[:len(s)]
	first, _, e := bodies.Split(body, "b")
	second, _, f := bodies.Split(body, "b")
	want := cloneParts(first)
	if string(body[:len(s)+2]) != s+"12" || e != api.OK || f != api.OK || len(want) != 3 {
		t.Fatalf("Split changes its argument: %q, %d, %d", body[:len(s)+2], e, f)
	}
	for i := range body[:cap(body)] {
		body[:cap(body)][i] = '#'
	}
	if !equalParts(first, want) || !equalParts(second, want) {
		t.Errorf("Split returns memory of its argument: %q, %q; want %q", first, second, want)
	}
	checkOwn(t, "Split", slices.Clone(first))
	if !equalParts(second, want) {
		t.Errorf("two results of Split share memory: %q; want %q", second, want)
	}
}
