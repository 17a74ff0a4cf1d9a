package bodies_test

import (
	"slices"
	"strings"
	"testing"

	"dialtone/api"
	"dialtone/bodies"
)

func checkOf(t *testing.T, m api.Message, want []api.Part, e api.Errno) {
	t.Helper()
	l, f := bodies.Of(m)
	if !equalParts(l, want) || e != f {
		t.Errorf("Of(%q, %q) = %q, %d; want %q, %d", m.Headers, m.Body, l, f, want, e)
	}
}

// P5.4: messages that are not of several parts
func TestOfOne(t *testing.T) {
	checkOf(t, api.Message{}, nil, api.OK)
	checkOf(t, sent("", "Subject", "x", "e", "gzip", "l", "7"), nil, api.OK)
	checkOf(t, sent("hi"), plain("hi"), api.OK)
	checkOf(t, sent("\r\n"), plain("\r\n"), api.OK)
	checkOf(t, sent("hi", "Subject", "x", "l", "2"), plain("hi"), api.OK)
	for _, name := range []string{"c", "C", "Content-Type", "content-TYPE"} {
		for _, value := range []string{"a/b", "Text/Plain;x", "", " ", "a b", "multipart/mixed", "multipart;boundary=b", "xmultipart/mixed;boundary=b", "multipart-x;boundary=b", "a/multipart;boundary=b", "multipart/mixed;boundary2=b", "multipart/mixed;x=boundary", "multipart/;boundary=b", "multipart/mixed;boundary=b;boundary=b"} {
			for _, body := range []string{"", "hi", "\x00\xff", lines("--b", "", "hi", "--b--")} {
				checkOf(t, sent(body, name, value), []api.Part{part(body, name, value)}, api.OK)
			}
		}
	}
	checkOf(t, sent("hi", "e", " x\n", "Subject", "x", "a b", "Content-A", "CONTENT-x-Y", "", "L", "5", "content-", "z", "Content", "1", "Contents-X", "2", "content-length", "x", "c", "a/B;X", "X-Content-Type", "1", "Content-Type", "c/d", "", "1", "Content-Length-", "3", "content-l", "4"),
		[]api.Part{part("hi", "e", " x\n", "CONTENT-x-Y", "", "content-", "z", "c", "a/B;X", "Content-Type", "c/d", "Content-Length-", "3", "content-l", "4")}, api.OK)
	checkOf(t, sent("hi", "Content-Type ", "multipart/mixed;boundary=b", "Content-\u00e9", "1", "Content-"+strings.Repeat("n", 57), "2"), plain("hi"), api.OK)
	long := "Content-" + strings.Repeat("n", 56)
	checkOf(t, sent("hi", long, "2"), []api.Part{part("hi", long, "2")}, api.OK)
	large := strings.Repeat("a", 20000)
	checkOf(t, sent(large), plain(large), api.OK)
	var many []string
	for range 100 {
		many = append(many, "c", strings.Repeat(" ", 2000))
	}
	checkOf(t, sent("hi", many...), []api.Part{part("hi", many...)}, api.OK)
}

// P5.4: messages of several parts
func TestOfSeveral(t *testing.T) {
	s := lines("x", "--b", "c:A/B", "l: 02", "", "1", "--b", "", "2", "--b--", "y")
	want := []api.Part{part("1", "Content-Type", "A/B", "Content-Length", "2"), part("2")}
	for _, value := range []string{"multipart/mixed;boundary=b", "MULTIPART/Mixed ; a=1; BOUNDARY = b", "\tMultiPart/x;boundary=\"b\" ", "multipart/b;boundary=b;z"} {
		for _, name := range []string{"c", "C", "Content-Type", "content-TYPE"} {
			checkOf(t, sent(s, name, value), want, api.OK)
			checkOf(t, sent(s, "Subject", "x", "e", "gzip", name, value, "c", "text/plain", "l", "1"), want, api.OK)
			checkOf(t, sent(s, "c", "text/plain", name, value), []api.Part{part(s, "c", "text/plain", name, value)}, api.OK)
		}
	}
	for _, c := range []struct {
		body, value string
		e           api.Errno
	}{
		{s, "multipart/mixed;boundary", api.ErrArg}, {s, `multipart/mixed;boundary=""`, api.ErrArg}, {s, `multipart/mixed;boundary="b "`, api.ErrArg}, {s, "multipart/mixed;boundary=[::1]", api.ErrArg}, {s, "multipart/mixed;boundary=" + strings.Repeat("b", 71), api.ErrArg},
		{s, "multipart/mixed;boundary=B", api.ErrShort}, {s, "multipart/mixed;boundary=c", api.ErrShort}, {"", "multipart/mixed;boundary=b", api.ErrShort}, {"--b--", "multipart/mixed;boundary=b", api.ErrSyntax},
		{strings.Repeat("a", 8193), "multipart/mixed;boundary=b", api.ErrLimit}, {"--b\r\nl: 9999999999\r\n\r\n\r\n--b--", "multipart/mixed;boundary=b", api.ErrRange}, {"--b\r\nk: a;b=\"\r\n\r\n\r\n--b--", "multipart/mixed;boundary=b", api.ErrShort},
		{"--b\r\nk: a;b;B\r\n\r\n\r\n--b--", "multipart/mixed;boundary=b", api.ErrDuplicate}, {"--b\r\nt: <http:a>\r\n\r\n\r\n--b--", "multipart/mixed;boundary=b", api.ErrUnsupported},
	} {
		checkOf(t, sent(c.body, "c", c.value), nil, c.e)
	}
}

func checkFind(t *testing.T, m api.Message, kind string, want api.Part, e api.Errno) {
	t.Helper()
	p, f := bodies.Find(m, kind)
	if !equalPart(p, want) || e != f {
		t.Errorf("Find(%q, %q) in %q = %q, %d; want %q, %d", m.Headers, kind, m.Body, p, f, want, e)
	}
}

// P5.5: types
func TestFind(t *testing.T) {
	m := severalOf(lines("--b", "c: A/b;x", "", "1", "--b", "", "2", "--b", "c: text/plain", "", "3", "--b", "e: x", "c: a/B", "c: d/e", "", "4", "--b", "c: token", "", "5", "--b", "c: f/g;boundary=b", "", "6", "--b", "c: multipart/x", "", "7", "--b--"))
	want := []api.Part{part("1", "Content-Type", "A/b;x"), part("2"), part("3", "Content-Type", "text/plain"), part("4", "Content-Encoding", "x", "Content-Type", "a/B", "Content-Type", "d/e"), part("5", "Content-Type", "token"), part("6", "Content-Type", "f/g;boundary=b"), part("7", "Content-Type", "multipart/x")}
	checkOf(t, m, want, api.OK)
	for kind, i := range map[string]int{"a/b": 0, "A/B": 0, "a/B": 0, "text/plain": 1, "TEXT/Plain": 1, "token": 4, "TOKEN": 4, "f/g": 5, "multipart/x": 6} {
		checkFind(t, m, kind, want[i], api.OK)
	}
	for _, kind := range []string{"", "a", "a/b;x", " a/b", "a/b ", "d/e", "text", "text/plain2", "/", "to\u212aen", "x\x00", "multipart/mixed", "f/g;boundary=b"} {
		checkFind(t, m, kind, api.Part{}, api.ErrNone)
	}
	eachByte(func(b string) {
		if b != "a" && b != "A" {
			checkFind(t, m, b+"/b", api.Part{}, api.ErrNone)
		}
	})
	checkFind(t, severalOf(lines("--b", "c: @/b", "", "1", "--b--")), "text/plain", api.Part{}, api.ErrSyntax)
}

// P5.5: the letter case of every letter, and of no other byte
func TestFindLetters(t *testing.T) {
	for _, c := range tokenBytes {
		kind := string(c) + "/x"
		m := sent("hi", "c", kind)
		eachByte(func(b string) {
			same := b == string(c) || isLetter(c) && isLetter(rune(b[0])) && rune(b[0])|32 == c|32
			if same {
				checkFind(t, m, b+"/X", part("hi", "c", kind), api.OK)
			} else {
				checkFind(t, m, b+"/X", api.Part{}, api.ErrNone)
			}
		})
	}
}

func isLetter(c rune) bool { return 'a' <= c && c <= 'z' || 'A' <= c && c <= 'Z' }

// P5.5: messages that are not of several parts
func TestFindOne(t *testing.T) {
	checkFind(t, api.Message{}, "text/plain", api.Part{}, api.ErrNone)
	checkFind(t, sent("", "e", "x"), "text/plain", api.Part{}, api.ErrNone)
	checkFind(t, sent("hi"), "text/plain", part("hi"), api.OK)
	checkFind(t, sent("hi"), "TEXT/PLAIN", part("hi"), api.OK)
	checkFind(t, sent("hi"), "", api.Part{}, api.ErrNone)
	checkFind(t, sent("hi", "Subject", "x", "c", "Application/SDP ; x", "l", "9"), "application/sdp", part("hi", "c", "Application/SDP ; x"), api.OK)
	checkFind(t, sent("", "c", "Application/SDP"), "aPPLICATION/sdp", part("", "c", "Application/SDP"), api.OK)
	checkFind(t, sent("hi", "c", "Application/SDP"), "text/plain", api.Part{}, api.ErrNone)
	checkFind(t, sent("hi", "c", "a b", "c", "x/y"), "text/plain", part("hi", "c", "a b", "c", "x/y"), api.OK)
	checkFind(t, sent("hi", "c", "a b", "c", "x/y"), "x/y", api.Part{}, api.ErrNone)
	checkFind(t, sent("hi", "c", "multipart/mixed"), "multipart/MIXED", part("hi", "c", "multipart/mixed"), api.OK)
	for _, kind := range []string{"text/plain", "multipart/mixed", "", "a/b"} {
		checkFind(t, severalOf("--b--"), kind, api.Part{}, api.ErrSyntax)
		checkFind(t, severalOf("hi"), kind, api.Part{}, api.ErrShort)
		checkFind(t, sent("hi", "c", "multipart/mixed;boundary"), kind, api.Part{}, api.ErrArg)
		checkFind(t, severalOf(strings.Repeat("a", 8193)), kind, api.Part{}, api.ErrLimit)
	}
}

// nested returns the text of a part of several parts with a boundary: an a/level before, and behind, what is within.
func nested(boundary, within string) string {
	return lines("c: multipart/"+boundary+";boundary="+boundary, "", "--"+boundary, "c: a/"+boundary, "", "before", "--"+boundary, within, "--"+boundary, "c: z/"+boundary, "", "behind", "--"+boundary+"--")
}

// P5.5: parts within parts, and in which order they are visited
func TestFindWithin(t *testing.T) {
	deep := nested("b1", nested("b2", nested("b3", nested("b4", "c: a/deepest\r\n\r\nhi"))))
	_, body, _ := strings.Cut(deep, "\r\n\r\n")
	m := sent(body, "c", "multipart/b1;boundary=b1")
	for _, level := range []string{"b1", "b2", "b3"} {
		checkFind(t, m, "a/"+level, part("before", "Content-Type", "a/"+level), api.OK)
		checkFind(t, m, "z/"+level, part("behind", "Content-Type", "z/"+level), api.OK)
	}
	for _, kind := range []string{"a/b4", "z/b4", "a/deepest", "multipart/b1"} {
		checkFind(t, m, kind, api.Part{}, api.ErrNone)
	}
	for _, boundary := range []string{"b2", "b3", "b4"} {
		p, e := bodies.Find(m, "multipart/"+boundary)
		if e != api.OK || p.Headers[0].Value != "multipart/"+boundary+";boundary="+boundary || !strings.HasPrefix(string(p.Body), "--"+boundary+"\r\n") {
			t.Errorf("Find of the part with boundary %s = %q, %d", boundary, p, e)
		}
	}
	order := []struct{ kind, body string }{{"text/plain", "2"}, {"a/b", "4"}, {"c/d", "5"}, {"multipart/y", "broken"}, {"e/f", "8"}}
	m = severalOf(lines("--b", "c: multipart/x;boundary=d", "", "--d", "c: multipart/x;boundary=e", "", "--e", "", "2", "--e", "c: multipart/x", "", "3", "--e--", "--d", "c: a/b", "", "4", "--d--", "--b", "c: c/d", "", "5", "--b", "c: multipart/y;boundary=q", "", "broken", "--b", "c: a/b", "", "6", "--b", "c: multipart/y;boundary=q", "", "--q--", "--b", "", "7", "--b", "c: e/f", "", "8", "--b--"))
	for _, c := range order {
		if p, e := bodies.Find(m, c.kind); string(p.Body) != c.body || e != api.OK {
			t.Errorf("Find of %s = %q, %d; want %q", c.kind, p, e, c.body)
		}
	}
	if p, e := bodies.Find(m, "multipart/x"); !strings.HasPrefix(string(p.Body), "--d\r\n") || e != api.OK {
		t.Errorf("a part of several parts is not visited before its parts: %q, %d", p, e)
	}
}

// P5.5: a part of several parts whose body Split does not accept has no parts, and is not an error.
func TestFindBroken(t *testing.T) {
	for _, c := range []struct{ value, body string }{
		{"multipart/x;boundary=d", ""}, {"multipart/x;boundary=d", "--d--"}, {"multipart/x;boundary=d", lines("--d", "c: a/b", "", "1", "--d")}, {"multipart/x;boundary=d", lines("--d", "c: a/b", "", "1", "--d", "--d--")},
		{"multipart/x;boundary", lines("--", "c: a/b", "", "1", "----")}, {`multipart/x;boundary="d "`, lines("--d ", "c: a/b", "", "1", "--d --")}, {"multipart/x", lines("--d", "c: a/b", "", "1", "--d--")}, {"x/multipart;boundary=d", lines("--d", "c: a/b", "", "1", "--d--")},
	} {
		m := severalOf(lines("--b", "c: "+c.value, "", c.body, "--b", "c: e/f", "", "2", "--b--"))
		checkFind(t, m, "a/b", api.Part{}, api.ErrNone)
		checkFind(t, m, "e/f", part("2", "Content-Type", "e/f"), api.OK)
	}
}

func checkPut(t *testing.T, m api.Message, parts []api.Part, want api.Message, e api.Errno) {
	t.Helper()
	r, f := bodies.Put(m, parts)
	if !equal(r, want) || e != f {
		t.Errorf("Put(%+v, %q) = %+v, %d; want %+v, %d", m, parts, r, f, want, e)
	}
}

// full returns a message with a body and headers of all sorts.
func full() api.Message {
	return sent("old", "c", "x/y", "Subject", " s\n", "E", "gzip", "a b", "1", "CONTENT-x", "", "", "2", "content-length", "x", "Content", "3", "s", "", "content-", "4", "Content-Type", "m/n", "X-Content-X", "5", "l", "1", "Content-\u00e9", "6")
}

// rest contains the headers of full that are no content headers.
func rest() []api.Header {
	return headers("Subject", " s\n", "a b", "1", "", "2", "Content", "3", "s", "", "X-Content-X", "5", "Content-\u00e9", "6")
}

// with returns full without its content, and with other headers and a body.
func with(body string, namesAndValues ...string) api.Message {
	m := full()
	m.Headers = append(rest(), headers(namesAndValues...)...)
	m.Body = []byte(body)
	return m
}

// P5.6
func TestPut(t *testing.T) {
	checkPut(t, full(), nil, with(""), api.OK)
	checkPut(t, full(), []api.Part{}, with(""), api.OK)
	checkPut(t, api.Message{}, nil, api.Message{}, api.OK)
	checkPut(t, full(), plain("new"), with("new"), api.OK)
	checkPut(t, full(), plain(""), with(""), api.OK)
	checkPut(t, api.Message{}, plain("new"), sentOnly("new"), api.OK)
	checkPut(t, full(), []api.Part{part("\x00--b0", "c", "A/B ; z; Y", "content-x-y", " 1 ", "E", "", "C", "c")}, with("\x00--b0", "Content-Type", "A/B;y;z", "Content-X-Y", "1", "Content-Encoding", "", "Content-Type", "c"), api.OK)
	checkPut(t, full(), plain("1", "2"), with(lines("--b0", "", "1", "--b0", "", "2", "--b0--", ""), "Content-Type", "multipart/mixed;boundary=b0"), api.OK)
	checkPut(t, api.Message{}, plain("1", "2"), sentOnly(lines("--b0", "", "1", "--b0", "", "2", "--b0--", ""), "Content-Type", "multipart/mixed;boundary=b0"), api.OK)
	checkPut(t, full(), []api.Part{part("--b0", "c", "a/B"), part("--b2", "w", "1", "l", "07"), part("--b1")},
		with(lines("--b3", "Content-Type: a/B", "", "--b0", "--b3", "W: 1", "Content-Length: 7", "", "--b2", "--b3", "", "--b1", "--b3--", ""), "Content-Type", "multipart/mixed;boundary=b3"), api.OK)
	checkPut(t, full(), make([]api.Part, 8), with(strings.Repeat("--b0\r\n\r\n\r\n", 8)+"--b0--\r\n", "Content-Type", "multipart/mixed;boundary=b0"), api.OK)
	large := strings.Repeat("a", 20000)
	checkPut(t, full(), plain(large), with(large), api.OK)
	many := make([]string, 128)
	for i := range many {
		many[i] = "Content-Type"
	}
	checkPut(t, full(), []api.Part{part("hi", many...)}, with("hi", many...), api.OK)
}

// sentOnly returns an empty message with a body and headers.
func sentOnly(body string, namesAndValues ...string) api.Message {
	return api.Message{Headers: headers(namesAndValues...), Body: []byte(body)}
}

// P5.6: errors
func TestPutErrors(t *testing.T) {
	for n := 9; n < 12; n++ {
		checkPut(t, full(), make([]api.Part, n), api.Message{}, api.ErrArg)
	}
	large := part(strings.Repeat("a", 9000))
	for _, p := range notValid() {
		for _, l := range [][]api.Part{{p}, {p, part("1")}, {part("1"), p}, {large, p}} {
			checkPut(t, full(), l, api.Message{}, api.ErrArg)
		}
	}
	for _, name := range []string{"l", "Content-Length", "content-LENGTH", "w", "Subject", "Content", "X-Content-Type", "s", "Contents-A"} {
		p := part("hi", name, "1")
		checkPut(t, full(), []api.Part{p}, api.Message{}, api.ErrArg)
		checkPut(t, full(), []api.Part{part("hi", "c", "a/b", name, "1")}, api.Message{}, api.ErrArg)
		checkPut(t, full(), []api.Part{part("hi", name, "1", "c", "a/b")}, api.Message{}, api.ErrArg)
		if r, e := bodies.Put(full(), []api.Part{p, p}); e != api.OK || len(r.Headers) != 8 {
			t.Errorf("Put of two parts with the header %s: %+v, %d", name, r, e)
		}
	}
	checkPut(t, full(), []api.Part{large, part("")}, api.Message{}, api.ErrLimit)
	checkPut(t, full(), []api.Part{part(strings.Repeat("--b0", 2100)), part("")}, api.Message{}, api.ErrLimit)
	free := 8192 - len(lines("--b0", "", "", "--b0", "", "", "--b0--", ""))
	if r, e := bodies.Put(full(), plain(strings.Repeat("a", free), "")); e != api.OK || len(r.Body) != 8192 {
		t.Errorf("Put of parts with just enough room: %d bytes, %d", len(r.Body), e)
	}
	checkPut(t, full(), plain(strings.Repeat("a", free), "a"), api.Message{}, api.ErrLimit)
}

// Rules 4 and 5
func TestMessageMemory(t *testing.T) {
	for what, m := range map[string]api.Message{
		"one":     sent("hi", "c", "a/b", "e", "x", "Subject", "s", "l", "1"),
		"several": severalOf(lines("--b", "c: a/b", "", "1", "--b", "e: x", "c: multipart/y;boundary=d", "", "--d", "c: c/d", "", "2", "--d--", "--b--")),
	} {
		m = clone(m)
		before := clone(m)
		first, _ := bodies.Of(m)
		second, _ := bodies.Of(m)
		found, _ := bodies.Find(m, "c/d")
		one, _ := bodies.Find(m, "a/b")
		want, wantFound, wantOne := cloneParts(first), clonePart(found), clonePart(one)
		asPart := api.Part{Headers: m.Headers, Body: m.Body}
		unchanged(t, "Of or Find", []api.Part{asPart}, []api.Part{{Headers: before.Headers, Body: before.Body}})
		overwrite(asPart)
		if !equalParts(first, want) || !equalParts(second, want) || !equalPart(found, wantFound) || !equalPart(one, wantOne) {
			t.Errorf("%s: Of or Find returns memory of its argument: %q, %q, %q; want %q", what, first, found, one, want)
		}
		checkOwn(t, "Of", first)
		if !equalParts(second, want) {
			t.Errorf("%s: two results of Of share memory: %q; want %q", what, second, want)
		}
	}
}

// Rules 4 and 5
func TestPutMemory(t *testing.T) {
	for _, l := range [][]api.Part{nil, {part("new", "c", "A/B", "e", "x")}, {part("1", "c", "A/B"), part("2")}} {
		m, parts := clone(full()), cloneParts(l)
		first, _ := bodies.Put(m, parts)
		second, _ := bodies.Put(m, parts)
		want := clone(first)
		asPart := api.Part{Headers: m.Headers, Body: m.Body}
		unchanged(t, "Put", append(slices.Clone(parts), asPart), append(slices.Clone(l), api.Part{Headers: full().Headers, Body: full().Body}))
		overwrite(asPart)
		overwriteAll(parts)
		if !equal(first, want) {
			t.Errorf("Put returns memory of its arguments: %+v; want %+v", first, want)
		}
		overwrite(api.Part{Headers: first.Headers, Body: first.Body})
		if !equal(second, want) {
			t.Errorf("two results of Put share memory: %+v; want %+v", second, want)
		}
	}
}
