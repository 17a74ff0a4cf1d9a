package message_test

import (
	"slices"
	"strconv"
	"strings"
	"testing"

	"dialtone/api"
	"dialtone/message"
)

const (
	start  = "OPTIONS sip:b SIP/2.0"
	status = "SIP/2.0 200 OK"
)

// checkParse compares Parse of s with a message.
func checkParse(t *testing.T, s string, want api.Message) {
	t.Helper()
	if m, at, e := message.Parse([]byte(s)); !equal(m, want) || at != 0 || e != api.OK {
		t.Errorf("Parse(%q) = %+v, %d, %d; want %+v", s, m, at, e, want)
	}
}

// checkParseError checks that Parse of s returns an error and nothing else.
func checkParseError(t *testing.T, s string, wantAt int, want api.Errno) {
	t.Helper()
	if m, at, e := message.Parse([]byte(s)); !equal(m, api.Message{}) || at != wantAt || e != want {
		t.Errorf("Parse(%q) = %+v, %d, %d; want %d at %d", s, m, at, e, want, wantAt)
	}
}

// P4.1: the chapter's example, and one with everything
func TestParse(t *testing.T) {
	checkParse(t, text("INVITE sip:B@C SIP/2.0", "v: SIP/2.0/UDP h", "l: 2")+"hi!", api.Message{
		Method: "INVITE", URI: "sip:B@c", Headers: headers("Via", "SIP/2.0/UDP h", "Content-Length", "2"), Body: []byte("hi"),
	})
	checkParse(t, text("Sip/2.0  486\tBusy  Here ", "l:004", "x-my-HEADER\t : \t a:b \t", "Allow: A ,B;X=1", "v: sip/2.0/udp H", "subject:", "FROM:A<sip:b>;z;tag=1", "allow:", "\tC", " ,", " D", "Via : SIP/2.0/tcp i")+"\r\n\x00\xff", api.Message{
		Code: 486, Reason: "Busy  Here", Body: []byte("\r\n\x00\xff"),
		Headers: headers("X-My-Header", "a:b", "Allow", "A, B;x=1, C, D", "Via", "SIP/2.0/UDP h, SIP/2.0/TCP i", "Subject", "", "From", `"A" <sip:b>;tag=1;z`, "Content-Length", "4"),
	})
}

// P4.1: start lines
func TestParseStart(t *testing.T) {
	length := headers("Content-Length", "0")
	for line, want := range map[string]api.Message{
		"INVITE sip:a SIP/2.0":                      {Method: "INVITE", URI: "sip:a"},
		"invite \t SIP:A@B;X;a?h=1 \t sIp/2.0":      {Method: "invite", URI: "sip:A@b;a;x?h=1"},
		"INVITE\tsip:a\tSIP/2.0 \t":                 {Method: "INVITE", URI: "sip:a"},
		"-.!%*_+'~`9aZ TEL:+1-2 SIP/2.0":            {Method: "-.!%*_+'~`9aZ", URI: "tel:+12"},
		"A\r\n sips:%41@b:05\r\n\t\r\n\tSIP/2.0":    {Method: "A", URI: "sips:A@b:5"},
		"SIP sip:a SIP/2.0":                         {Method: "SIP", URI: "sip:a"},
		"SIP/2.0 200 OK":                            {Code: 200, Reason: "OK"},
		"SIP/2.0 100":                               {Code: 100},
		"sip/2.0\t699 ":                             {Code: 699},
		"SiP/2.0 \t 101 \t 7 words,\tof: <two>  \"": {Code: 101, Reason: "7 words,\tof: <two>  \""},
		"sIP/2.0\r\n 404\r\n not\r\n \r\n found":    {Code: 404, Reason: "not found"},
		"SIP/2.0 200 SIP/2.0":                       {Code: 200, Reason: "SIP/2.0"},
		"SIP/2.0 200 \u00e9\xff":                    {Code: 200, Reason: "\u00e9\xff"},
		"SIP/2.0 200 200":                           {Code: 200, Reason: "200"},
	} {
		want.Headers = length
		checkParse(t, text(line), want)
	}
	checkParse(t, text("A sip:"+strings.Repeat("a", 1018)+"@b SIP/2.0"), api.Message{Method: "A", URI: "sip:" + strings.Repeat("a", 1018) + "@b", Headers: length})
}

// P4.1, error by error: start lines
func TestParseStartErrors(t *testing.T) {
	sixteen := ""
	for i := range 16 {
		sixteen += ";p" + strconv.Itoa(i)
	}
	for _, c := range []struct {
		line string
		e    api.Errno
	}{
		{"", api.ErrSyntax}, {"X", api.ErrSyntax}, {"X sip:a", api.ErrSyntax}, {"X SIP/2.0", api.ErrSyntax}, {"SIP/2.0", api.ErrSyntax}, {"sip:a SIP/2.0", api.ErrSyntax}, {"X sip:a SIP/2.0 x", api.ErrSyntax}, {"X sip:a x SIP/2.0", api.ErrSyntax}, {"X x sip:a SIP/2.0", api.ErrSyntax},
		{"X/Y sip:a SIP/2.0", api.ErrSyntax}, {"X: sip:a SIP/2.0", api.ErrSyntax}, {"(X) sip:a SIP/2.0", api.ErrSyntax}, {"\u00e9 sip:a SIP/2.0", api.ErrSyntax}, {"Xsip:aSIP/2.0", api.ErrSyntax},
		{"X sip:a SIP/2", api.ErrSyntax}, {"X sip:a SIP/2.00", api.ErrSyntax}, {"X sip:a SIP/1.0", api.ErrSyntax}, {"X sip:a SIP/2:0", api.ErrSyntax}, {"X sip:a SIP 2.0", api.ErrSyntax}, {"X sip:a SIP/ 2.0", api.ErrSyntax}, {"X sip:a HTTP/2.0", api.ErrSyntax}, {"X sip:a \u017fIP/2.0", api.ErrSyntax}, {"X sip:a \u017fIP/2.", api.ErrSyntax}, {"X sip:a SIP/2.0\u00a0", api.ErrSyntax}, {"X\u00a0sip:a\u00a0SIP/2.0", api.ErrSyntax}, {"X\u0085sip:a\u0085SIP/2.0", api.ErrSyntax},
		{"SIP/2.0 ", api.ErrSyntax}, {"SIP/2.0 20", api.ErrSyntax}, {"SIP/2.0 2000", api.ErrSyntax}, {"SIP/2.0 0200", api.ErrSyntax}, {"SIP/2.0 2 00", api.ErrSyntax}, {"SIP/2.0 20x", api.ErrSyntax}, {"SIP/2.0 +20", api.ErrSyntax}, {"SIP/2.0 -20", api.ErrSyntax}, {"SIP/2.0 200OK", api.ErrSyntax}, {"SIP/2.0 OK 200", api.ErrSyntax}, {"SIP/2.0 x", api.ErrSyntax}, {"SIP/2.0200 OK", api.ErrSyntax}, {"SIP/2.0/200 OK", api.ErrSyntax}, {"SIP/1.0 200 OK", api.ErrSyntax}, {"200 OK", api.ErrSyntax}, {"\u017fIP/2.0 200 OK", api.ErrSyntax}, {"SIP/2.0 sip:a SIP/2.0", api.ErrSyntax}, {"SIP/2.0 \u0661\u0662\u0663", api.ErrSyntax}, {"SIP/2.0 0x1", api.ErrSyntax}, {"SIP/2.0 1e2", api.ErrSyntax}, {"SIP/2.0 1", api.ErrSyntax},
		{"SIP/2.0 000", api.ErrRange}, {"SIP/2.0 099 x", api.ErrRange}, {"SIP/2.0 001", api.ErrRange}, {"SIP/2.0 700", api.ErrRange}, {"SIP/2.0 999 OK", api.ErrRange}, {"SIP/2.0 018 x", api.ErrRange},
		{"X x SIP/2.0", api.ErrSyntax}, {"X sip: SIP/2.0", api.ErrSyntax}, {"X http:a SIP/2.0", api.ErrUnsupported}, {"X sip:a:b@c SIP/2.0", api.ErrUnsupported}, {"X sip:a:0 SIP/2.0", api.ErrRange}, {"X sip:a;x;X SIP/2.0", api.ErrDuplicate}, {"X sip:a" + sixteen + ";p16 SIP/2.0", api.ErrLimit}, {"X sip:" + strings.Repeat("a", 1019) + "@b SIP/2.0", api.ErrLimit}, {"X <sip:a> SIP/2.0", api.ErrUnsupported}, {"X * SIP/2.0", api.ErrSyntax},
		// That it is no start line comes before what is wrong with its URI or code.
		{"X/Y sip:a:0 SIP/2.0", api.ErrSyntax}, {"X http:a SIP/1.0", api.ErrSyntax}, {"X sip:a:0 SIP/2.0 x", api.ErrSyntax}, {"SIP/2.0 0999 x", api.ErrSyntax}, {"SIP/2.0 700x", api.ErrSyntax},
	} {
		checkParseError(t, text(c.line), 0, c.e)
		// What is wrong with the start line comes before all that is behind it.
		checkParseError(t, text(c.line, "no header"), 0, c.e)
		checkParseError(t, text(c.line, "l: 9"), 0, c.e)
	}
}

// P4.1: every byte within a start line
func TestParseStartBytes(t *testing.T) {
	isToken := func(b string) bool { return tokenOnly.MatchString(b) }
	eachByte(func(b string) {
		if hasControl(b) {
			checkParseError(t, text("X"+b+" sip:a SIP/2.0"), 1, api.ErrSyntax)
			checkParseError(t, text("SIP/2.0 200 x"+b+"y"), 13, api.ErrSyntax)
			return
		}
		_, _, e := message.Parse([]byte(text("X" + b + " sip:a SIP/2.0")))
		if want := isToken(b) || b == " " || b == "\t"; want != (e == api.OK) {
			t.Errorf("the method X%s: %d", b, e)
		}
		_, _, e = message.Parse([]byte(text("X sip:a " + b + "IP/2.0")))
		if want := b == "s" || b == "S"; want != (e == api.OK) {
			t.Errorf("the version %qIP/2.0: %d", b, e)
		}
		_, _, e = message.Parse([]byte(text("X" + b + "sip:a" + b + "SIP/2.0")))
		if want := b == " " || b == "\t"; want != (e == api.OK) {
			t.Errorf("%q between words: %d", b, e)
		}
		_, _, e = message.Parse([]byte(text("SIP/2.0 20" + b)))
		if want := b >= "0" && b <= "9"; want != (e == api.OK) {
			t.Errorf("the code 20%s: %d", b, e)
		}
		_, _, e = message.Parse([]byte(text("SIP/2.0 200" + b + "x")))
		if want := b == " " || b == "\t"; want != (e == api.OK) {
			t.Errorf("%q behind the code: %d", b, e)
		}
		checkParse(t, text("SIP/2.0 200 x"+b+"y"), api.Message{Code: 200, Reason: "x" + b + "y", Headers: headers("Content-Length", "0")})
	})
}

// P4.1: where the head ends, and how it is divided into lines
func TestParseHead(t *testing.T) {
	for _, s := range []string{"", "X", start, start + "\r\n", start + "\r\nTo: sip:a\r\n", start + "\r\n\r", start + "\n\n", start + "\r\r", "\r\n\r", start + "\r\n \r\n", start + "\r\n\n\r\n", " ", "\x00", start + "\r\n\r\x00\n"} {
		checkParseError(t, s, len(s), api.ErrShort)
	}
	for s, at := range map[string]int{
		"\r\n\r\n":                                0, // an empty start line
		"\r\n" + text(start):                      0, // another one; the head ends at two ends in succession
		"\r\n\r\n" + text(start):                  0,
		" " + text(start):                         0,
		"\t" + text(start):                        0,
		" " + text("X\x00"):                       0,
		" \r\n" + text(start):                     0,
		text("\x00" + start):                      0,
		text(start + "\x00"):                      len(start),
		text(start+"\r", "To: sip:a"):             len(start),
		text(start, "Subject: a\nb"):              len(start) + 2 + 10,
		text(start, "Subject: a\rb"):              len(start) + 2 + 10,
		text(start, "Subject: a", " b\x7f"):       len(start) + 2 + 12 + 2,
		text(start, "no header", "a: \x01"):       len(start) + 2 + 11 + 3,
		text("no start", "Subject: \x1f"):         10 + 9,
		text("SIP/2.0 000", "Subject: \v"):        13 + 9,
		text(start+"\r", "\r\r") + "\r\n\r\n":     len(start),
		text(status, "a: b\r", "l: 9") + "\x00\n": len(status) + 2 + 4,
	} {
		checkParseError(t, s, at, api.ErrSyntax)
	}
	// The first place counts; what is behind it is the body, whatever it is.
	checkParse(t, text(status)+text(start)+"\x00\r", api.Message{Code: 200, Reason: "OK", Headers: headers("Content-Length", strconv.Itoa(len(text(start))+2)), Body: []byte(text(start) + "\x00\r")})
	checkParse(t, text(status)+"\r\n", api.Message{Code: 200, Reason: "OK", Headers: headers("Content-Length", "2"), Body: []byte("\r\n")})
	checkParse(t, text(status, "a: 1", " ", "\t2", "  "), response("A", "1 2", "Content-Length", "0"))
}

// P4.1: header lines
func TestParseHeaders(t *testing.T) {
	for line, want := range map[string][]api.Header{
		"s:a":                           headers("Subject", "a"),
		"S:":                            headers("Subject", ""),
		"Subject \t : \t a  b \t":       headers("Subject", "a  b"),
		"sUBJECT:: a":                   headers("Subject", ": a"),
		"Subject\r\n :\r\n\ta\r\n b":    headers("Subject", "a b"),
		"a:b:c":                         headers("A", "b:c"),
		"-.!%*_+'~`9: \xff\u00e9\tx":    headers("-.!%*_+'~`9", "\xff\u00e9\tx"),
		"i:\t":                          headers("Call-ID", ""),
		"t: sip:A@B;TAG=1;a":            headers("To", "<sip:A@b>;a;tag=1"),
		"cseq: 007 \t INVITE":           headers("CSeq", "7 INVITE"),
		"rack:1\r\n 02\r\n X":           headers("RAck", "1 2 X"),
		"m: *":                          headers("Contact", "*"),
		"M: *,sip:a":                    headers("Contact", "*, <sip:a>"),
		"expires: 0000000005":           headers("Expires", "5"),
		"x: 90;Refresher=uac":           headers("Session-Expires", "90;refresher=uac"),
		"authorization: Digest a=\"b\"": headers("Authorization", "Digest a=\"b\""),
	} {
		checkParse(t, text(status, line), api.Message{Code: 200, Reason: "OK", Headers: append(want, headers("Content-Length", "0")...)})
		checkParse(t, text(status, "z: 1", line, "y: 2"), api.Message{Code: 200, Reason: "OK", Headers: slices.Concat(headers("Z", "1"), want, headers("Y", "2", "Content-Length", "0"))})
	}
	// Repeated headers stay where they are, unless their values may be lists.
	for _, name := range sortedKeys(repeatable()) {
		value := repeatable()[name]
		checkParse(t, text(status, name+": "+value, "z: 1", strings.ToUpper(name)+":"+value), response(name, value, "Z", "1", name, value, "Content-Length", "0"))
	}
	for _, name := range sortedKeys(lists()) {
		value := lists()[name]
		checkParse(t, text(status, name+": "+value, "z: 1", strings.ToUpper(name)+":"+value), response(name, value+", "+value, "Z", "1", "Content-Length", "0"))
	}
}

// P4.1, error by error: header lines
func TestParseHeaderErrors(t *testing.T) {
	sixteen := ""
	for i := range 16 {
		sixteen += ";p" + strconv.Itoa(i)
	}
	long := strings.Repeat("a", 1025)
	for _, c := range []struct {
		line string
		e    api.Errno
	}{
		{"x", api.ErrSyntax}, {"Subject", api.ErrSyntax}, {"Subject a", api.ErrSyntax}, {long, api.ErrSyntax},
		{":", api.ErrSyntax}, {": a", api.ErrSyntax}, {"a b: c", api.ErrSyntax}, {"a/b: c", api.ErrSyntax}, {"(a): c", api.ErrSyntax}, {"\"a\": c", api.ErrSyntax}, {"\u00e9: c", api.ErrSyntax}, {"a,b: c", api.ErrSyntax}, {"a\tb: c", api.ErrSyntax}, {"a\r\n b: c", api.ErrSyntax}, {"a\u00a0: c", api.ErrSyntax},
		{strings.Repeat("a", 65) + ": c", api.ErrSyntax}, {strings.Repeat("a", 65) + ":" + long, api.ErrSyntax}, {"a b:" + long, api.ErrSyntax},
		{"a: " + long, api.ErrLimit}, {"l: " + long, api.ErrLimit}, {"t: sip:a:0;" + long, api.ErrLimit}, {"To:" + strings.Repeat("a", 600) + "\r\n " + strings.Repeat("a", 424), api.ErrLimit}, {"Supported:" + strings.Repeat("a,", 513), api.ErrLimit},
		{"t:", api.ErrSyntax}, {"To: <", api.ErrSyntax}, {"t: http:a", api.ErrUnsupported}, {"f: sip:a:0", api.ErrRange}, {"f: sip:a;x;X", api.ErrDuplicate}, {"f: sip:a" + sixteen + ";p16", api.ErrLimit}, {"v: x", api.ErrSyntax}, {"v: SIP/2.0/UDP a:0", api.ErrRange}, {"l: x", api.ErrSyntax}, {"l: -1", api.ErrSyntax}, {"l:", api.ErrSyntax}, {"l: 2147483648", api.ErrRange}, {"l: 1, 1", api.ErrSyntax}, {"CSeq: 1", api.ErrSyntax}, {"CSeq: 2147483648 A", api.ErrRange}, {"RAck: 1 A", api.ErrSyntax}, {"Supported:", api.ErrSyntax}, {"k: ,", api.ErrSyntax}, {"k: a,,b", api.ErrSyntax}, {"k: a;b=\"", api.ErrShort}, {"m: <sip:a", api.ErrShort}, {"c: a b", api.ErrSyntax}, {"c: a;b=\"", api.ErrShort}, {"c: a;b=\"\\\t", api.ErrShort}, {"Expires: 1;x", api.ErrSyntax},
		// As it is written into quotation marks, or angle brackets, the value is too long.
		{"t: " + strings.Repeat("a", 1015) + "<sip:b>", api.ErrLimit}, {"m: sip:a, sip:" + strings.Repeat("a", 1008) + "@b", api.ErrLimit}, {"k:" + strings.Repeat("a,", 342) + "a", api.ErrLimit},
	} {
		checkParseError(t, text(status, c.line), len(status)+2, c.e)
		checkParseError(t, text(start, "a: b", " c", c.line), len(start)+2+6+4, c.e)
		// The first line with an error counts.
		checkParseError(t, text(start, c.line, "no header"), len(start)+2, c.e)
		checkParseError(t, text(start, c.line, "l: 1"), len(start)+2, c.e)
		checkParseError(t, text(start, "a", c.line), len(start)+2, api.ErrSyntax)
	}
	checkParse(t, text(status, "a: \t"+long[1:]+" "), response("A", long[1:], "Content-Length", "0"))
	checkParse(t, text(status, strings.Repeat("a", 64)+" \t: c"), response("A"+strings.Repeat("a", 63), "c", "Content-Length", "0"))
	checkParse(t, text(status, "t: "+strings.Repeat("a", 1014)+"<sip:b>"), response("To", `"`+strings.Repeat("a", 1014)+`" <sip:b>`, "Content-Length", "0"))
}

// P4.1: every byte in the name and in the value of a header
func TestParseHeaderBytes(t *testing.T) {
	at := len(status) + 2
	eachByte(func(b string) {
		name, value := text(status, "Q"+b+": y"), text(status, "Q: y"+b+"z")
		switch {
		case hasControl(b):
			checkParseError(t, name, at+1, api.ErrSyntax)
			checkParseError(t, value, at+4, api.ErrSyntax)
			return
		case b == " " || b == "\t":
			checkParse(t, name, response("Q", "y", "Content-Length", "0"))
		case b == ":":
			checkParse(t, name, response("Q", ": y", "Content-Length", "0"))
		case tokenOnly.MatchString(b):
			checkParse(t, name, response("Q"+strings.ToLower(b), "y", "Content-Length", "0"))
		default:
			checkParseError(t, name, at, api.ErrSyntax)
		}
		checkParse(t, value, response("Q", "y"+b+"z", "Content-Length", "0"))
	})
}

// P4.1: single headers
func TestParseDuplicate(t *testing.T) {
	shorts := map[string]string{"Call-ID": "i", "Content-Length": "L", "Content-Type": "c", "Event": "O", "From": "f", "Refer-To": "R", "Session-Expires": "X", "To": "t"}
	for _, name := range sortedKeys(singles()) {
		line := name + ": " + singles()[name]
		other := shorts[name]
		if other == "" {
			other = strings.ToLower(name)
		}
		at := len(status) + 2 + len(line) + 2 + 6
		checkParseError(t, text(status, line, "z: z", other+":"+singles()[name]), at, api.ErrDuplicate)
		// What is wrong with the value, or an earlier line, comes first.
		checkParseError(t, text(status, line, "z: z", other+": "+strings.Repeat("a", 1025)), at, api.ErrLimit)
		if name != "Call-ID" {
			checkParseError(t, text(status, line, "z: z", other+":"), at, api.ErrSyntax)
		}
		checkParseError(t, text(status, line, "zzzz", other+":"+singles()[name]), at-6, api.ErrSyntax)
		checkParseError(t, text(status, line, "z: z", other+":"+singles()[name], "zz"), at, api.ErrDuplicate)
	}
	long := "t: " + strings.Repeat("a", 1015) + "<sip:b>"
	checkParseError(t, text(status, "t: sip:a", long), len(status)+2+10, api.ErrLimit)
}

// P4.1: sixty-four headers, beside Content-Length
func TestParseMany(t *testing.T) {
	var lines []string
	want := api.Message{Code: 200, Reason: "OK"}
	for i := range 64 {
		lines = append(lines, "z: "+strconv.Itoa(100+i))
		want.Headers = append(want.Headers, headers("Z", strconv.Itoa(100+i))...)
	}
	want.Headers = append(want.Headers, headers("Content-Length", "0")...)
	checkParse(t, text(slices.Concat([]string{status}, lines)...), want)
	for at := range 65 {
		checkParse(t, text(slices.Concat([]string{status}, slices.Insert(slices.Clone(lines), at, "l: 0"))...), want)
	}
	at := len(status) + 2 + 64*8
	more := slices.Concat([]string{status}, lines)
	checkParseError(t, text(slices.Concat(more, []string{"z: z"})...), at, api.ErrLimit)
	checkParseError(t, text(slices.Concat(more, []string{"k: a"})...), at, api.ErrLimit)
	checkParseError(t, text(slices.Concat(more, []string{"l: 0", "z: z"})...), at+6, api.ErrLimit)
	checkParseError(t, text(slices.Concat(more, []string{"l: 0", "z: z", "z"})...), at+6, api.ErrLimit)
	// The other errors of that line come first.
	checkParseError(t, text(slices.Concat(more, []string{"k: ,"})...), at, api.ErrSyntax)
	checkParseError(t, text(slices.Concat(more, []string{"t: http:a"})...), at, api.ErrUnsupported)
	checkParseError(t, text(slices.Concat(more, []string{"l: 0", "L: 0"})...), at+6, api.ErrDuplicate)
	single := slices.Concat([]string{status, "i: 00"}, lines[1:])
	checkParseError(t, text(slices.Concat(single, []string{"i: a"})...), at-1, api.ErrDuplicate)
	checkParseError(t, text(slices.Concat(single, []string{"t: sip:a"})...), at-1, api.ErrLimit)
	// Those that are joined later count, too.
	tokens := slices.Repeat([]string{"k: a"}, 64)
	checkParse(t, text(slices.Concat([]string{status}, tokens)...), response("Supported", strings.Repeat("a, ", 63)+"a", "Content-Length", "0"))
	checkParseError(t, text(slices.Concat([]string{status, "k: a"}, tokens)...), len(status)+2+64*6, api.ErrLimit)
}

// P4.1: the body
func TestParseBody(t *testing.T) {
	for _, c := range []struct{ length, behind, body string }{
		{"", "", ""}, {"", "a", "a"}, {"", "\r\n\r\n", "\r\n\r\n"}, {"", "\x00\xff\n", "\x00\xff\n"},
		{"l: 0", "", ""}, {"l: 0", "abc", ""}, {"Content-length:\r\n 003", "abc", "abc"}, {"l:2", "abc", "ab"}, {"l: 5", "a\r\n\r\nb", "a\r\n\r\n"}, {"L : 0000000001 ", "\r\n", "\r"},
	} {
		lines := []string{status, "z: z"}
		if c.length != "" {
			lines = slices.Insert(lines, 1, c.length)
		}
		want := response("Z", "z", "Content-Length", strconv.Itoa(len(c.body)))
		want.Body = []byte(c.body)
		checkParse(t, text(lines...)+c.behind, want)
	}
	for _, c := range []struct{ length, behind string }{{"1", ""}, {"4", "abc"}, {"2147483647", "abc"}, {"2", "\n"}, {"0000000003", "\r\n"}} {
		s := text(status, "l: "+c.length, "z: z") + c.behind
		checkParseError(t, s, len(s), api.ErrShort)
		// What is wrong with the head comes first.
		checkParseError(t, text(status, "l: "+c.length, "z")+c.behind, len(status)+2+5+len(c.length), api.ErrSyntax)
	}
	b := []byte(text(status) + "abc")
	m, _, _ := message.Parse(b)
	again, _, _ := message.Parse(b)
	copy(b[len(b)-3:], "xyz")
	m.Body[0] = '#'
	if string(again.Body) != "abc" || string(m.Body) != "#bc" || !strings.HasSuffix(string(b), "xyz") {
		t.Errorf("Parse shares memory: %q, %q, %q", b, m.Body, again.Body)
	}
	overwrite(m)
	if !slices.Equal(again.Headers, headers("Content-Length", "3")) {
		t.Errorf("two calls of Parse share memory: %q", again.Headers)
	}
}

// P4.1: at most MaxMessage bytes, also of the normal form
func TestParseLimit(t *testing.T) {
	const length = "Content-Length: 0000\r\n\r\n"
	room := 8192 - len(status+"\r\n"+length)
	full := text(status, "Content-Length: "+strconv.Itoa(room)) + strings.Repeat("x", room)
	if m := mustParse(t, full); len(full) != 8192 || string(m.Body) != strings.Repeat("x", room) {
		t.Errorf("the longest message, of %d bytes, is read as %+v", len(full), m)
	}
	for _, s := range []string{full + "x", strings.Repeat("x", 8193), strings.Repeat(" ", 8193), strings.Repeat("\r\n", 5000), full + strings.Repeat("x", 100000)} {
		checkParseError(t, s, 8192, api.ErrLimit)
	}
	checkParseError(t, strings.Repeat("x", 8192), 8192, api.ErrShort)
	// What is behind the body counts for the text, but not for the normal form.
	checkParse(t, text(status, "l:0")+strings.Repeat("x", 8192-len(text(status, "l:0"))), response("Content-Length", "0"))
	// The normal form is longer than the text: by Content-Length, by long names, by quotation marks, by spaces.
	for _, c := range []struct{ head, normal string }{
		{text(status), status + "\r\n"},
		{text(start, "z:z"), start + "\r\nZ: z\r\n"},
		{text(start, "k:a,b", "i:c"), start + "\r\nSupported: a, b\r\nCall-ID: c\r\n"},
		{text("SIP/2.0 200", "t:A<sip:b>"), "SIP/2.0 200 \r\nTo: \"A\" <sip:b>\r\n"},
	} {
		room := 8192 - len(c.normal+length)
		m := mustParse(t, c.head+strings.Repeat("x", room))
		if len(m.Body) != room {
			t.Errorf("the longest message with %q is read as %+v", c.head, m)
		}
		checkParseError(t, c.head+strings.Repeat("x", room+1), 0, api.ErrLimit)
		// A body that is too short comes first.
		s := strings.TrimSuffix(c.head, "\r\n") + "l:8191\r\n\r\n"
		s += strings.Repeat("x", 8191-len(s))
		checkParseError(t, s, len(s), api.ErrShort)
	}
}
