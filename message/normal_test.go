package message_test

import (
	"slices"
	"strconv"
	"strings"
	"testing"

	"dialtone/api"
	"dialtone/message"
)

// checkNormal compares Normal and Print of m with a normal form.
func checkNormal(t *testing.T, m, want api.Message) {
	t.Helper()
	if n, e := message.Normal(m); !equal(n, want) || e != api.OK {
		t.Errorf("Normal(%+v) = %+v, %d; want %+v", m, n, e, want)
	}
	if b, e := message.Print(m); string(b) != textOf(want) || e != api.OK {
		t.Errorf("Print(%+v) = %q, %d; want %q", m, b, e, textOf(want))
	}
}

// checkNotValid checks that Normal, Print and Check return ErrArg, and nothing else.
func checkNotValid(t *testing.T, m api.Message) {
	t.Helper()
	if n, e := message.Normal(m); !equal(n, api.Message{}) || e != api.ErrArg {
		t.Errorf("Normal(%+v) = %+v, %d", m, n, e)
	}
	if b, e := message.Print(m); len(b) != 0 || e != api.ErrArg {
		t.Errorf("Print(%+v) = %q, %d", m, b, e)
	}
	if e := message.Check(m); e != api.ErrArg {
		t.Errorf("Check(%+v) = %d", m, e)
	}
}

// P4.3: examples
func TestNormal(t *testing.T) {
	checkNormal(t, api.Message{
		Method: "oPTIONS", URI: "SIP:%41@B:05;Y=1;X", Body: []byte("\r\n\x00"),
		Headers: headers("l", " 7", "t", "A<sip:b>;z;tag=1", "SUBJECT", "\t a  b ", "V", "sip/2.0/udp  H", "allow", "b;X=1,a", "subject", "c", "via", "SIP/2.0/TCP i,SIP/2.0/TCP j", "x-a", "", "Allow", "c"),
	}, api.Message{
		Method: "oPTIONS", URI: "sip:A@b:5;x;y=1", Body: []byte("\r\n\x00"),
		Headers: headers("To", `"A" <sip:b>;tag=1;z`, "Subject", "a  b", "Via", "SIP/2.0/UDP h, SIP/2.0/TCP i, SIP/2.0/TCP j", "Allow", "b;x=1, a, c", "Subject", "c", "X-A", "", "Content-Length", "3"),
	})
	checkNormal(t, api.Message{Method: "X", URI: "tel:+1-2"}, api.Message{Method: "X", URI: "tel:+12", Headers: headers("Content-Length", "0")})
	checkNormal(t, api.Message{Code: 100}, api.Message{Code: 100, Headers: headers("Content-Length", "0")})
	checkNormal(t, api.Message{Code: 699, Reason: "a  \t\u00e9\xff:"}, api.Message{Code: 699, Reason: "a  \t\u00e9\xff:", Headers: headers("Content-Length", "0")})
	checkNormal(t, response("Content-Length", "2147483647", "Z", "z"), response("Z", "z", "Content-Length", "0"))
	checkNormal(t, response("m", "*", "Contact", "sip:a , *"), response("Contact", "*, <sip:a>, *", "Content-Length", "0"))
	for _, name := range sortedKeys(repeatable()) {
		value := repeatable()[name]
		checkNormal(t, response(name, value, "Z", "z", strings.ToLower(name), value), response(name, value, "Z", "z", name, value, "Content-Length", "0"))
	}
	for _, name := range sortedKeys(lists()) {
		value := lists()[name]
		checkNormal(t, response(name, value, "Z", "z", strings.ToLower(name), value+" ,\t"+value), response(name, value+", "+value+", "+value, "Z", "z", "Content-Length", "0"))
	}
}

// P4.2
func TestPrint(t *testing.T) {
	for _, c := range []struct {
		m    api.Message
		want string
	}{
		{api.Message{Method: "INVITE", URI: "SIP:B@C", Headers: headers("v", "sip/2.0/udp h", "k", "a,b", "l", "9", "K", "c"), Body: []byte("hi")}, "INVITE sip:B@c SIP/2.0\r\nVia: SIP/2.0/UDP h\r\nSupported: a, b, c\r\nContent-Length: 2\r\n\r\nhi"},
		{api.Message{Code: 180}, "SIP/2.0 180 \r\nContent-Length: 0\r\n\r\n"},
		{api.Message{Code: 486, Reason: "Busy  Here", Headers: headers("s", "")}, "SIP/2.0 486 Busy  Here\r\nSubject: \r\nContent-Length: 0\r\n\r\n"},
		{api.Message{Method: "x", URI: "tel:1", Headers: headers("s", strings.Repeat("word ", 200)), Body: []byte("\x00\r\n\r\n\xff")}, "x tel:1 SIP/2.0\r\nSubject: " + strings.Repeat("word ", 199) + "word\r\nContent-Length: 6\r\n\r\n\x00\r\n\r\n\xff"},
	} {
		before := clone(c.m)
		b, e := message.Print(c.m)
		if string(b) != c.want || e != api.OK || !equal(c.m, before) {
			t.Errorf("Print(%+v) = %q, %d; want %q", c.m, b, e, c.want)
		}
		again, _ := message.Print(c.m)
		for i := range b {
			b[i] = '#'
		}
		if string(again) != c.want || !equal(c.m, before) {
			t.Errorf("the results of Print share memory: %q, %+v", again, c.m)
		}
	}
}

// P4.2, P4.3: start lines that are not valid
func TestNormalStart(t *testing.T) {
	for _, m := range []api.Message{
		{}, {Method: "A"}, {URI: "sip:a"}, {Reason: "OK"}, {Method: "A", URI: "sip:a", Reason: "OK"}, {Method: "A", URI: "sip:a", Reason: " "}, {Method: "A", URI: "sip:a", Code: 200}, {Method: "A", Code: 200}, {URI: "sip:a", Code: 200},
		{Method: "A B", URI: "sip:a"}, {Method: " A", URI: "sip:a"}, {Method: "A ", URI: "sip:a"}, {Method: "A/B", URI: "sip:a"}, {Method: "\u00e9", URI: "sip:a"}, {Method: "A\x00", URI: "sip:a"}, {Method: "SIP/2.0", URI: "sip:a"},
		{Method: "A", URI: " sip:a"}, {Method: "A", URI: "sip:a "}, {Method: "A", URI: "a"}, {Method: "A", URI: "http:a"}, {Method: "A", URI: "<sip:a>"}, {Method: "A", URI: "sip:a:0"}, {Method: "A", URI: "sip:a;x;x"}, {Method: "A", URI: "sip:" + strings.Repeat("a", 1019) + "@b"}, {Method: "A", URI: "*"},
		{Code: 99}, {Code: 700}, {Code: 1}, {Code: -1}, {Code: -200}, {Code: 1 << 40}, {Code: 99, Reason: "OK"},
		{Code: 200, Reason: " OK"}, {Code: 200, Reason: "OK "}, {Code: 200, Reason: "\tOK"}, {Code: 200, Reason: "OK\t"}, {Code: 200, Reason: " "}, {Code: 200, Reason: "\t"}, {Code: 200, Reason: "a\r\n b"}, {Code: 200, Reason: "OK\x00"},
	} {
		checkNotValid(t, m)
		m.Headers = headers("Z", "z")
		checkNotValid(t, m)
	}
	eachByte(func(b string) {
		if m := (api.Message{Code: 200, Reason: "x" + b + "y"}); hasControl(b) {
			checkNotValid(t, m)
		} else {
			checkNormal(t, m, api.Message{Code: 200, Reason: "x" + b + "y", Headers: headers("Content-Length", "0")})
		}
		if m := (api.Message{Method: "x" + b, URI: "sip:a"}); !tokenOnly.MatchString(b) {
			checkNotValid(t, m)
		} else {
			checkNormal(t, m, api.Message{Method: "x" + b, URI: "sip:a", Headers: headers("Content-Length", "0")})
		}
	})
}

// P4.2, P4.3: headers that are not valid, and those that are so just about
func TestNormalHeaders(t *testing.T) {
	long := strings.Repeat("a", 1024)
	for _, l := range [][]api.Header{
		headers("", "a"), headers(" ", "a"), headers("a ", "a"), headers(" a", "a"), headers("a b", "a"), headers("a:", "a"), headers("\u00e9", "a"), headers("a/b", ""), headers(long[:65], "a"),
		headers("z", "a\x00"), headers("z", "a\r\n b"), headers("z", "\n"), headers("z", "a\x7f"), headers("z", "\r\nTo: sip:a"),
		headers("t", ""), headers("t", "a"), headers("t", "sip:a, sip:b"), headers("k", ""), headers("k", "a,"), headers("v", "SIP/2.0/UDP a:0"), headers("l", ""), headers("l", "x"), headers("l", "2147483648"), headers("CSeq", "1"), headers("RAck", "1 A"), headers("c", "a;b=\""),
		headers("z", long+"a"), headers("z", long+" "), headers("z", "\t"+long), headers("l", strings.Repeat(" ", 1024)+"0"), headers("k", strings.Repeat("a,", 512)+"a"), headers("k", strings.Repeat("a,", 341)+"aa"), headers("t", long[:1015]+"<sip:b>"), headers("m", "sip:a, sip:"+long[:1008]+"@b"),
	} {
		m := response()
		m.Headers = l
		checkNotValid(t, m)
		m.Headers = slices.Concat(headers("Subject", "a", "Via", "SIP/2.0/UDP a"), l, headers("To", "sip:a"))
		checkNotValid(t, m)
	}
	for _, c := range []struct{ before, normal []api.Header }{
		{headers(long[:64], "a"), headers("A"+long[:63], "a")},
		{headers("z", long), headers("Z", long)},
		{headers("z", " "+long[:1022]+"\t"), headers("Z", long[:1022])},
		{headers("k", strings.Repeat("a,", 341)+"a"), headers("Supported", strings.Repeat("a, ", 341)+"a")},
		{headers("t", long[:1014]+"<sip:b>"), headers("To", `"`+long[:1014]+`" <sip:b>`)},
	} {
		m, n := response(), response()
		m.Headers, n.Headers = c.before, append(c.normal, headers("Content-Length", "0")...)
		checkNormal(t, m, n)
	}
}

// P4.2, P4.3: single headers, and at most sixty-four headers beside Content-Length
func TestNormalMany(t *testing.T) {
	for _, name := range sortedKeys(singles()) {
		value := singles()[name]
		checkNotValid(t, response(name, value, "Z", "z", strings.ToUpper(name), value))
		checkNotValid(t, response(name, value, name, value))
	}
	checkNotValid(t, response("i", "a", "Call-ID", "b"))
	checkNotValid(t, response("l", "0", "Content-Length", "0"))
	m, n := response(), response()
	for i := range 64 {
		m.Headers = append(m.Headers, headers("z", strconv.Itoa(i))...)
		n.Headers = append(n.Headers, headers("Z", strconv.Itoa(i))...)
	}
	n.Headers = append(n.Headers, headers("Content-Length", "0")...)
	checkNormal(t, m, n)
	for _, at := range []int{0, 1, 32, 63, 64} {
		more := clone(m)
		more.Headers = slices.Insert(more.Headers, at, headers("L", "1")...)
		checkNormal(t, more, n)
		more.Headers = slices.Insert(more.Headers, at, headers("z", "1")...)
		checkNotValid(t, more)
	}
	m.Headers = append(m.Headers, headers("z", "1")...)
	checkNotValid(t, m)
	m.Headers = slices.Repeat(headers("k", "a"), 64)
	checkNormal(t, m, response("Supported", strings.Repeat("a, ", 63)+"a", "Content-Length", "0"))
	m.Headers = slices.Repeat(headers("k", "a"), 65)
	checkNotValid(t, m)
	m.Headers = slices.Repeat(headers("k", "a"), 100000)
	checkNotValid(t, m)
}

// P4.2, P4.3: at most MaxMessage bytes
func TestNormalLimit(t *testing.T) {
	for _, m := range []api.Message{response(), request("k", "a,b", "t", "A<sip:a>"), {Code: 200}, {Method: "A", URI: "SIP:A@B"}} {
		n, _ := normalOf(m)
		room := 8192 - len(textOf(n)) - 3 // the length has four digits then
		m.Body = []byte(strings.Repeat("x", room))
		n, _ = normalOf(m)
		checkNormal(t, m, n)
		if b, _ := message.Print(m); len(b) != 8192 {
			t.Errorf("Print of the longest message: %d bytes", len(b))
		}
		m.Body = append(m.Body, 'x')
		checkNotValid(t, m)
	}
	for _, m := range []api.Message{
		{Code: 200, Reason: strings.Repeat("x", 8192)}, {Method: strings.Repeat("x", 8192), URI: "sip:a"}, {Code: 200, Body: make([]byte, 1<<20)},
		{Code: 200, Headers: slices.Repeat(headers("z", strings.Repeat("x", 1000)), 9)},
	} {
		checkNotValid(t, m)
	}
	most := 8192 - len("SIP/2.0 200 \r\nContent-Length: 0\r\n\r\n")
	long := api.Message{Code: 200, Reason: strings.Repeat("x", most)}
	checkNormal(t, long, api.Message{Code: 200, Reason: long.Reason, Headers: headers("Content-Length", "0")})
	// As they are joined, the headers are short enough.
	m := response()
	m.Headers = slices.Repeat(headers("Proxy-Require", strings.Repeat("a", 120)), 64)
	n, ok := normalOf(m)
	if len(textOf(m)) <= 8192 || !ok {
		t.Fatal("the example is not what it should be")
	}
	checkNormal(t, m, n)
}

// P4.3: lists are joined as long as there is room
func TestNormalJoin(t *testing.T) {
	a, b := strings.Repeat("a", 500), strings.Repeat("b", 522)
	c := strings.Repeat("c", 1024)
	for _, x := range []struct{ before, normal []api.Header }{
		// 500 + 2 + 522 = 1024 bytes fit, one more does not.
		{headers("k", a, "z", "z", "k", b), headers("Supported", a+", "+b, "Z", "z")},
		{headers("k", a, "z", "z", "k", b+"b"), headers("Supported", a, "Supported", b+"b", "Z", "z")},
		{headers("k", a+"a", "z", "z", "k", b), headers("Supported", a+"a", "Supported", b, "Z", "z")},
		// What follows goes behind the last element, even if there is room before it.
		{headers("k", "x", "z", "z", "k", c, "k", "y"), headers("Supported", "x", "Supported", c, "Supported", "y", "Z", "z")},
		{headers("k", "x", "k", c[1:], "z", "z", "k", "y,w"), headers("Supported", "x", "Supported", c[1:], "Supported", "y, w", "Z", "z")},
		{headers("k", a+",x", "k", b, "k", "y"), headers("Supported", a+", x", "Supported", b+", y")},
		// A list may be divided elsewhere than before, and a header may go away.
		{headers("k", "x", "k", a+","+b), headers("Supported", "x, "+a, "Supported", b)},
		{headers("k", c, "k", "x", "z", "z", "k", "y"), headers("Supported", c, "Supported", "x, y", "Z", "z")},
		{headers("k", a, "k", a, "k", a, "k", a), headers("Supported", a+", "+a, "Supported", a+", "+a)},
		{headers("k", a+", "+a+", x", "k", a+","+a), headers("Supported", a+", "+a+", x", "Supported", a+", "+a)},
		// Names are joined each by itself, where they stand first.
		{headers("k", "a", "u", "b", "z", "z", "k", "c", "u", "d", "y", "y", "K", "e"), headers("Supported", "a, c, e", "Allow-Events", "b, d", "Z", "z", "Y", "y")},
		{headers("u", a, "k", c, "u", b+"b", "k", "x"), headers("Allow-Events", a, "Allow-Events", b+"b", "Supported", c, "Supported", "x")},
		// A comma within quotation marks or angle brackets divides nothing.
		{headers("m", `"a, b" <sip:a,b@c>;x=",", sip:d`, "m", "*"), headers("Contact", `"a, b" <sip:a,b@c>;x=",", <sip:d>, *`)},
	} {
		m, n := response(), response()
		m.Headers, n.Headers = x.before, append(x.normal, headers("Content-Length", "0")...)
		checkNormal(t, m, n)
		checkNormal(t, n, n)
	}
	// Every header that an element begins stands directly behind the one before.
	m := response("k", c, "k", "x", "Subject", c[:300], "k", c, "subject", "x", "k", "y", "k", c)
	checkNormal(t, m, response("Supported", c, "Supported", "x", "Supported", c, "Supported", "y", "Supported", c, "Subject", c[:300], "Subject", "x", "Content-Length", "0"))
}

// Rules 4 and 5 for P4.3
func TestNormalMemory(t *testing.T) {
	m := response("k", "a", "z", "z", "k", "b")
	m.Body = []byte("body")
	hasOwnMemory(t, "Normal", m, func(m api.Message) api.Message {
		n, _ := message.Normal(m)
		return n
	})
	n, _ := message.Normal(m)
	hasOwnMemory(t, "Normal of a normal form", n, func(m api.Message) api.Message {
		n, _ := message.Normal(m)
		return n
	})
}

// P4.4
func TestSame(t *testing.T) {
	m := api.Message{Method: "A", URI: "sip:a", Code: 7, Reason: "x", Headers: headers("Z", "a", "Y", "b"), Body: []byte("ab")}
	if !message.Same(m, m) || !message.Same(m, clone(m)) {
		t.Errorf("Same of %+v and itself is false", m)
	}
	for what, change := range map[string]func(*api.Message){
		"method":              func(x *api.Message) { x.Method = "a" },
		"URI":                 func(x *api.Message) { x.URI = "sip:A" },
		"code":                func(x *api.Message) { x.Code = 8 },
		"reason":              func(x *api.Message) { x.Reason = "" },
		"name":                func(x *api.Message) { x.Headers = headers("z", "a", "Y", "b") },
		"value":               func(x *api.Message) { x.Headers = headers("Z", "a", "Y", "b ") },
		"order":               func(x *api.Message) { x.Headers = headers("Y", "b", "Z", "a") },
		"fewer":               func(x *api.Message) { x.Headers = headers("Z", "a") },
		"more":                func(x *api.Message) { x.Headers = headers("Z", "a", "Y", "b", "", "") },
		"no headers":          func(x *api.Message) { x.Headers = nil },
		"name and value":      func(x *api.Message) { x.Headers = headers("a", "Z", "Y", "b") },
		"body":                func(x *api.Message) { x.Body = []byte("aB") },
		"shorter body":        func(x *api.Message) { x.Body = []byte("a") },
		"longer body":         func(x *api.Message) { x.Body = []byte("ab\x00") },
		"no body":             func(x *api.Message) { x.Body = nil },
		"method and URI":      func(x *api.Message) { x.Method, x.URI = x.URI, x.Method },
		"no code, no headers": func(x *api.Message) { x.Code, x.Headers = 0, nil },
	} {
		x := clone(m)
		change(&x)
		if message.Same(m, x) || message.Same(x, m) {
			t.Errorf("Same of %+v and another %s is true", m, what)
		}
		if !message.Same(x, x) {
			t.Errorf("Same of %+v and itself is false", x)
		}
	}
	if !message.Same(api.Message{}, api.Message{Headers: []api.Header{}, Body: []byte{}}) || !message.Same(api.Message{Headers: []api.Header{}, Body: []byte{}}, api.Message{}) {
		t.Error("Same of nil and empty slices is false")
	}
}
