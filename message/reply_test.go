package message_test

import (
	"slices"
	"strconv"
	"strings"
	"testing"

	"dialtone/api"
	"dialtone/message"
)

// complete returns an INVITE request that lacks nothing.
func complete() api.Message {
	return api.Message{Method: "INVITE", URI: "sip:b", Headers: headers(
		"v", "SIP/2.0/UDP h;branch=z1", "Via", "SIP/2.0/UDP i", "f", "sip:a;tag=1", "t", "sip:b", "i", "x", "CSeq", "1 INVITE", "Max-Forwards", "70", "m", "sip:a@h",
	)}
}

// without returns complete without the headers of the names.
func without(names ...string) api.Message {
	m := complete()
	for _, name := range names {
		m = message.Drop(m, name)
	}
	return m
}

// answered returns complete as a response, with its headers.
func answered() api.Message { return api.Message{Code: 200, Headers: complete().Headers} }

func checkCheck(t *testing.T, what string, m api.Message, want api.Errno) {
	t.Helper()
	before := clone(m)
	if e := message.Check(m); e != want || !equal(m, before) {
		t.Errorf("Check of a message with %s (%+v) = %d, want %d", what, m, e, want)
	}
}

// P4.11: what is needed
func TestCheck(t *testing.T) {
	checkCheck(t, "all", complete(), api.OK)
	normal, _ := message.Normal(complete())
	checkCheck(t, "all, in normal form", normal, api.OK)
	checkCheck(t, "all, as a response", answered(), api.OK)
	other := complete()
	other.Method = "OPTIONS"
	other = message.Set(other, "CSeq", "0 OPTIONS")
	checkCheck(t, "another method", other, api.OK)
	for _, name := range []string{"Via", "From", "To", "Call-ID", "CSeq"} {
		checkCheck(t, "no "+name, without(name), api.ErrNone)
		checkCheck(t, "no "+name+" in a response", message.Drop(answered(), name), api.ErrNone)
		checkCheck(t, "no "+name+" and another method", message.Drop(other, name), api.ErrNone)
	}
	checkCheck(t, "no Max-Forwards", without("Max-Forwards"), api.ErrNone)
	checkCheck(t, "no Max-Forwards and another method", message.Drop(other, "Max-Forwards"), api.ErrNone)
	checkCheck(t, "no Max-Forwards in a response", message.Drop(answered(), "Max-Forwards"), api.OK)
	checkCheck(t, "no Contact", without("Contact"), api.ErrNone)
	checkCheck(t, "no Contact and another method", message.Drop(other, "Contact"), api.OK)
	checkCheck(t, "no Contact in a response", message.Drop(answered(), "Contact"), api.OK)
	lower := message.Set(without("Contact"), "CSeq", "1 invite")
	lower.Method = "invite" // it is another method
	checkCheck(t, "no Contact and the method invite", lower, api.OK)
	checkCheck(t, "nothing", api.Message{Code: 200}, api.ErrNone)
}

// P4.11: branch, tag, Call-ID and CSeq
func TestCheckValues(t *testing.T) {
	set := func(name, value string) api.Message { return message.Set(complete(), name, value) }
	for _, value := range []string{"SIP/2.0/UDP h", "SIP/2.0/UDP h;branch", `SIP/2.0/UDP h;branch=""`, "SIP/2.0/UDP h;x=1, SIP/2.0/UDP i;branch=z"} {
		checkCheck(t, "the Via "+value, set("Via", value), api.ErrNone)
		checkCheck(t, "the Via "+value+" in a response", message.Set(answered(), "Via", value), api.ErrNone)
	}
	checkCheck(t, "a branch in the second Via", message.Push(complete(), "Via", "SIP/2.0/UDP j"), api.ErrNone)
	checkCheck(t, "a branch in the first Via", message.Push(set("Via", "SIP/2.0/UDP i"), "Via", "SIP/2.0/UDP j;x;Branch=1"), api.OK)
	for _, value := range []string{"sip:a", "sip:a;tag", `sip:a;tag=""`, "<sip:a;tag=1>", "<sip:a;tag=1>;x"} {
		checkCheck(t, "the From "+value, set("From", value), api.ErrNone)
		checkCheck(t, "the From "+value+" in a response", message.Set(answered(), "From", value), api.ErrNone)
	}
	checkCheck(t, "a tag in To", set("To", "sip:b;tag=2"), api.OK)
	checkCheck(t, "another From", set("From", `"x" <sip:a>;x;TAG="y z"`), api.OK)
	for _, value := range []string{"", " ", "\t \t"} {
		checkCheck(t, "an empty Call-ID", set("Call-ID", value), api.ErrSyntax)
		checkCheck(t, "an empty Call-ID in a response", message.Set(answered(), "Call-ID", value), api.ErrSyntax)
	}
	checkCheck(t, "a short Call-ID", set("Call-ID", " 0 "), api.OK)
	for _, value := range []string{"1 ACK", "1 invite", "1 INVITED", "1 INVIT"} {
		checkCheck(t, "the CSeq "+value, set("CSeq", value), api.ErrArg)
		checkCheck(t, "the CSeq "+value+" in a response", message.Set(answered(), "CSeq", value), api.OK)
	}
	checkCheck(t, "another CSeq", set("CSeq", "007 \t INVITE"), api.OK)
}

// P4.11: which error comes first
func TestCheckOrder(t *testing.T) {
	wrong := complete()
	wrong.Headers = append(wrong.Headers, headers("Expires", "x")...)
	checkCheck(t, "a value that is not valid", wrong, api.ErrArg)
	wrong.Headers = wrong.Headers[1:]
	checkCheck(t, "a value that is not valid and no branch", wrong, api.ErrArg)
	wrong.Headers = headers("Expires", "x")
	checkCheck(t, "a value that is not valid and nothing else", wrong, api.ErrArg)
	checkCheck(t, "nothing at all", api.Message{}, api.ErrArg)
	checkCheck(t, "two of To", message.Push(complete(), "Z", "z"), api.OK)
	empty := message.Set(message.Set(complete(), "Call-ID", ""), "CSeq", "1 ACK")
	checkCheck(t, "an empty Call-ID and another CSeq", empty, api.ErrSyntax)
	for _, name := range []string{"Via", "From", "To", "Max-Forwards", "Contact"} {
		checkCheck(t, "an empty Call-ID and no "+name, message.Drop(empty, name), api.ErrNone)
		checkCheck(t, "another CSeq and no "+name, message.Drop(message.Set(complete(), "CSeq", "1 ACK"), name), api.ErrNone)
	}
	checkCheck(t, "an empty Call-ID and no branch", message.Set(empty, "Via", "SIP/2.0/UDP h"), api.ErrNone)
	checkCheck(t, "an empty Call-ID and no tag", message.Set(empty, "From", "sip:a"), api.ErrNone)
	for _, name := range []string{"To", "From", "Call-ID", "CSeq", "Max-Forwards"} {
		twice := complete()
		value, _ := message.Get(twice, name)
		twice.Headers = append(twice.Headers, headers(name, value)...)
		checkCheck(t, "two of "+name, twice, api.ErrArg)
	}
}

// routed returns a request with headers of all sorts.
func routed() api.Message {
	m := api.Message{Method: "INVITE", URI: "SIP:b@H", Body: []byte("body")}
	m.Headers = headers(
		"l", "4", "cseq", "007  INVITE", "Subject", "s", "record-route", "<sip:R;lr>", "v", "sip/2.0/udp h;branch=z1", "c", "a/b", "t", "Bob<sip:b>;x",
		"Max-Forwards", "70", "Route", "<sip:x>", "VIA", "SIP/2.0/TCP i , SIP/2.0/TCP j", "k", "a", "i", " x y ", "m", "sip:a", "Record-Route", "sip:q", "f", "sip:a;Z;tag=1", "z", "z", "Require", "a", "RSeq", "1")
	return m
}

// replied returns the headers of a response to routed, with or without Record-Route.
func replied(to string, record bool) []api.Header {
	l := headers("CSeq", "7 INVITE", "Record-Route", "<sip:r;lr>, <sip:q>", "Via", "SIP/2.0/UDP h;branch=z1, SIP/2.0/TCP i, SIP/2.0/TCP j", "To", to, "Call-ID", "x y", "From", "<sip:a>;tag=1;z", "Content-Length", "0")
	if !record {
		l = slices.Delete(l, 1, 2)
	}
	return l
}

func checkReply(t *testing.T, m api.Message, code int, reason, tag string, want []api.Header) {
	t.Helper()
	before := clone(m)
	r, e := message.Reply(m, code, reason, tag)
	if !equal(r, api.Message{Code: code, Reason: reason, Headers: want}) || e != api.OK || !equal(m, before) {
		t.Errorf("Reply(%+v, %d, %q, %q) = %+v, %d; want %q", m, code, reason, tag, r, e, want)
	}
}

func checkNoReply(t *testing.T, m api.Message, code int, reason, tag string) {
	t.Helper()
	if r, e := message.Reply(m, code, reason, tag); !equal(r, api.Message{}) || e != api.ErrArg {
		t.Errorf("Reply(%+v, %d, %q, %q) = %+v, %d", m, code, reason, tag, r, e)
	}
}

// P4.12
func TestReply(t *testing.T) {
	for code := 100; code <= 699; code++ {
		checkReply(t, routed(), code, "Two  words\t\u00e9\xff:", "t1", replied(`"Bob" <sip:b>;tag=t1;x`, code > 100 && code < 300))
	}
	checkReply(t, routed(), 200, "", "", replied(`"Bob" <sip:b>;x`, true))
	checkReply(t, api.Message{Method: "A", URI: "sip:a"}, 200, "OK", "t", headers("Content-Length", "0"))
	checkReply(t, request("Subject", "x"), 200, "OK", "t", headers("Content-Length", "0"))
	checkReply(t, request("t", "sip:b"), 404, "OK", "t", headers("To", "<sip:b>;tag=t", "Content-Length", "0"))
	a := strings.Repeat("a", 1000)
	checkReply(t, request("v", "SIP/2.0/UDP h;x="+a, "z", "z", "f", "sip:b", "v", "SIP/2.0/UDP h;x="+a), 200, "OK", "t", headers("Via", "SIP/2.0/UDP h;x="+a, "Via", "SIP/2.0/UDP h;x="+a, "From", "<sip:b>", "Content-Length", "0"))
	hasOwnMemory(t, "Reply", routed(), func(m api.Message) api.Message {
		r, _ := message.Reply(m, 200, "OK", "t1")
		return r
	})
}

// P4.12: the tag of To
func TestReplyTag(t *testing.T) {
	for _, c := range []struct{ to, tag, want string }{
		{"sip:b;tag=1", "2", "<sip:b>;tag=1"}, {"sip:b;Tag=1", "", "<sip:b>;tag=1"}, {"sip:b", "", "<sip:b>"}, {"sip:b;tag", "", "<sip:b>;tag"}, {`sip:b;tag=""`, "", `<sip:b>;tag=""`},
		{"sip:b", "2", "<sip:b>;tag=2"}, {"sip:b;tag", "2", "<sip:b>;tag=2"}, {`sip:b;TAG="";a;z`, "2", "<sip:b>;a;tag=2;z"}, {"<sip:b;tag=1>", "2", "<sip:b;tag=1>;tag=2"}, {`"x" <sip:b>;z=1;a=2`, "A-b", `"x" <sip:b>;a=2;tag=A-b;z=1`},
		{"sip:b", "a b", `<sip:b>;tag="a b"`}, {"sip:b", "\t", "<sip:b>;tag=\"\t\""}, {"sip:b", `"\;,<>`, `<sip:b>;tag="\"\\;,<>"`}, {"sip:b", "[::A]", `<sip:b>;tag="[::A]"`}, {"sip:b", "[::a]", "<sip:b>;tag=[::a]"}, {"sip:b", "\u00e9\xff", "<sip:b>;tag=\"\u00e9\xff\""},
	} {
		checkReply(t, request("t", c.to), 200, "", c.tag, headers("To", c.want, "Content-Length", "0"))
	}
	eachByte(func(b string) {
		m, tagged := request("t", "sip:b"), request("t", "sip:b;tag=1")
		if hasControl(b) {
			checkNoReply(t, m, 200, "", "x"+b)
			checkNoReply(t, tagged, 200, "", b+"x") // though the tag is not used
			checkNoReply(t, request(), 200, "", b)
			return
		}
		if r, e := message.Reply(m, 200, "", "x"+b); e != api.OK || len(r.Headers) != 2 {
			t.Errorf("Reply with the tag %q = %+v, %d", "x"+b, r, e)
		}
		checkReply(t, tagged, 200, "", b, headers("To", "<sip:b>;tag=1", "Content-Length", "0"))
		checkReply(t, request(), 200, "", b, headers("Content-Length", "0"))
	})
	fifteen := ""
	for i := range 15 {
		fifteen += ";p" + strconv.Itoa(10+i)
	}
	checkReply(t, request("t", "sip:b"+fifteen), 200, "", "1", headers("To", "<sip:b>"+fifteen+";tag=1", "Content-Length", "0"))
	checkReply(t, request("t", "sip:b"+fifteen+";tag"), 200, "", "1", headers("To", "<sip:b>"+fifteen+";tag=1", "Content-Length", "0"))
	checkReply(t, request("t", "sip:b"+fifteen+";q"), 200, "", "", headers("To", "<sip:b>"+fifteen+";q", "Content-Length", "0"))
	checkNoReply(t, request("t", "sip:b"+fifteen+";q"), 200, "", "1")
	long := strings.Repeat("a", 1024-len("<sip:b>;tag="))
	checkReply(t, request("t", "sip:b"), 200, "", long, headers("To", "<sip:b>;tag="+long, "Content-Length", "0"))
	checkNoReply(t, request("t", "sip:b"), 200, "", long+"a")
	checkNoReply(t, request("t", "sip:b"), 200, "", strings.Repeat("a", 100000))
	checkReply(t, request("t", "sip:b;tag=1"), 200, "", strings.Repeat("a", 100000), headers("To", "<sip:b>;tag=1", "Content-Length", "0"))
}

// P4.12, error by error
func TestReplyErrors(t *testing.T) {
	for _, m := range []api.Message{
		{}, response("t", "sip:b"), {Method: "A", URI: "x"}, {Method: "A", URI: "sip:a", Code: 200}, {Method: "A", URI: "sip:a", Reason: "x"}, request("z", "\x00"), request("t", "sip:b", "t", "sip:b"), request("Subject", "s", "Expires", "x"),
		{Method: "A", URI: "sip:a", Body: make([]byte, 8192)},
	} {
		checkNoReply(t, m, 200, "OK", "t")
		checkNoReply(t, m, 200, "OK", "")
	}
	for _, code := range []int{0, 1, -1, 99, 700, 999, 1000, -200, 1 << 40} {
		checkNoReply(t, routed(), code, "OK", "t")
		checkNoReply(t, routed(), code, "", "")
		checkNoReply(t, request(), code, "", "")
	}
	for _, reason := range []string{" ", "\t", " OK", "OK ", "OK\t", "\tOK", "a\r\nb", "a\nb", "\x00", "a\x7f"} {
		checkNoReply(t, routed(), 200, reason, "t")
	}
	// The response is longer than the request, and too long.
	m := request()
	for range 7 {
		m.Headers = append(m.Headers, headers("v", "SIP/2.0/UDP h;x="+strings.Repeat("a", 1000))...)
	}
	r, _ := message.Reply(m, 200, "", "")
	b, _ := message.Print(r)
	most := strings.Repeat("x", 8192-len(b))
	r, e := message.Reply(m, 200, most, "")
	if b, _ := message.Print(r); len(b) != 8192 || e != api.OK {
		t.Errorf("the longest response is %q, %d", b, e)
	}
	checkNoReply(t, m, 200, most+"x", "")
	checkNoReply(t, request(), 200, strings.Repeat("x", 8192), "")
}

// P4.13
func TestBranch(t *testing.T) {
	for _, c := range []struct {
		values []string
		want   string
	}{
		{[]string{"SIP/2.0/UDP h;branch=z1"}, "z1"}, {[]string{" sip/2.0/udp h:5 ; x ; BRANCH = Z1 , SIP/2.0/UDP i;branch=z2"}, "Z1"}, {[]string{`SIP/2.0/UDP h;branch="a, b"`, "x"}, "a, b"}, {[]string{"SIP/2.0/UDP h;branch=1", "SIP/2.0/UDP h;branch=2"}, "1"}, {[]string{"SIP/2.0/UDP h;branch=1, x"}, "1"}, {[]string{"SIP/2.0/UDP h;branch=[::0A]"}, "[::a]"},
		{nil, ""}, {[]string{""}, ""}, {[]string{"x", "SIP/2.0/UDP h;branch=1"}, ""}, {[]string{"SIP/2.0/UDP h", "SIP/2.0/UDP h;branch=1"}, ""}, {[]string{"SIP/2.0/UDP h, SIP/2.0/UDP h;branch=1"}, ""}, {[]string{"SIP/2.0/UDP h;branch"}, ""}, {[]string{`SIP/2.0/UDP h;branch=""`}, ""}, {[]string{"SIP/2.0/UDP h;branch=1,"}, ""}, {[]string{", SIP/2.0/UDP h;branch=1"}, ""}, {[]string{"SIP/2.0/UDP h:0;branch=1"}, ""}, {[]string{"SIP/2.0/UDP h;branch=1;x;x"}, ""}, {[]string{`SIP/2.0/UDP h;branch=1;x="`}, ""}, {[]string{"h;branch=1"}, ""},
	} {
		for _, name := range []string{"Via", "v", "vIA"} {
			m := request("Subject", "SIP/2.0/UDP h;branch=9", "via\x00", "SIP/2.0/UDP h;branch=9")
			for _, value := range c.values {
				m.Headers = append(m.Headers, headers(name, value, "z", "z")...)
			}
			if got, ok := message.Branch(m); got != c.want || ok != (c.want != "") {
				t.Errorf("Branch of %q = %q, %v; want %q", m.Headers, got, ok, c.want)
			}
		}
	}
}
