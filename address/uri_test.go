package address_test

import (
	"strings"
	"testing"

	"dialtone/address"
	"dialtone/api"
)

// P2.8
func TestParse(t *testing.T) {
	sixteen, list := numbered(16)
	for s, want := range map[string]api.URI{
		"SIP:Al%69ce@Example.com:5070;LR;a=%41": {Scheme: "sip", User: "Alice", Host: "example.com", Port: 5070, Params: params(valued("a", "A"), flag("lr"))},

		"sip:h":                      {Scheme: "sip", Host: "h"},
		"sIPs:u@H":                   {Scheme: "sips", User: "u", Host: "h"},
		"sip:10.0.0.1:1":             {Scheme: "sip", Host: "10.0.0.1", Port: 1},
		"sip:h:65535":                {Scheme: "sip", Host: "h", Port: 65535},
		"sip:h:0000005060":           {Scheme: "sip", Host: "h", Port: 5060},
		"sip:[::0A]":                 {Scheme: "sip", Host: "[::a]"},
		"sip:u@[1:2::]:7;x?y=z":      {Scheme: "sip", User: "u", Host: "[1:2::]", Port: 7, Params: params(flag("x")), Heads: params(valued("y", "z"))},
		"sip:[::1];x":                {Scheme: "sip", Host: "[::1]", Params: params(flag("x"))},
		"sip:[::1]?x=":               {Scheme: "sip", Host: "[::1]", Heads: params(valued("x", ""))},
		"sip:h?x=":                   {Scheme: "sip", Host: "h", Heads: params(valued("x", ""))},
		"sip:h:5?x=":                 {Scheme: "sip", Host: "h", Port: 5, Heads: params(valued("x", ""))},
		"sip:&=+$,;?/-_.!~*'()aZ9@h": {Scheme: "sip", User: "&=+$,;?/-_.!~*'()aZ9", Host: "h"},
		"sip:%40%3a%25%2F%09%80@h":   {Scheme: "sip", User: "@:%/\t\x80", Host: "h"},
		"sip:h;x=a@b":                {Scheme: "sip", User: "h;x=a", Host: "b"},
		"sip:h?x=a@b":                {Scheme: "sip", User: "h?x=a", Host: "b"},

		"sip:h;z;y=1;X=Q;a%5B=%5b":             {Scheme: "sip", Host: "h", Params: params(valued("a[", "["), valued("x", "Q"), valued("y", "1"), flag("z"))},
		"sip:h;[]/:&+$a=[]/:&+$b":              {Scheme: "sip", Host: "h", Params: params(valued("[]/:&+$a", "[]/:&+$b"))},
		"sip:h;%41=%3B%3D%3f%40":               {Scheme: "sip", Host: "h", Params: params(valued("a", ";=?@"))},
		"sip:h;%C3%89":                         {Scheme: "sip", Host: "h", Params: params(flag("\u00c9"))},
		"sip:h" + sixteen:                      {Scheme: "sip", Host: "h", Params: list},
		"sip:h?B=1&a=&C=%20":                   {Scheme: "sip", Host: "h", Heads: params(valued("a", ""), valued("b", "1"), valued("c", " "))},
		"sip:h?[]/?:+$=[]/?:+$":                {Scheme: "sip", Host: "h", Heads: params(valued("[]/?:+$", "[]/?:+$"))},
		"sip:h;x=1?x=2":                        {Scheme: "sip", Host: "h", Params: params(valued("x", "1")), Heads: params(valued("x", "2"))},
		"sip:h?%26=%3d":                        {Scheme: "sip", Host: "h", Heads: params(valued("&", "="))},
		"tel:+1-(201).555;Ext=7":               {Scheme: "tel", User: "+1201555", Params: params(valued("ext", "7"))},
		"TEL:*#06#":                            {Scheme: "tel", User: "*#06#"},
		"tel:(0)-.1":                           {Scheme: "tel", User: "01"},
		"tel:+" + strings.Repeat("1-", 30):     {Scheme: "tel", User: "+" + strings.Repeat("1", 30)},
		"tel:" + strings.Repeat("*", 30):       {Scheme: "tel", User: strings.Repeat("*", 30)},
		"tel:+(9);b=:;a":                       {Scheme: "tel", User: "+9", Params: params(flag("a"), valued("b", ":"))},
		"sip:h;a=" + strings.Repeat("b", 1016): {Scheme: "sip", Host: "h", Params: params(valued("a", strings.Repeat("b", 1016)))},
	} {
		if got, at, e := address.Parse(s); !sameURI(got, want) || at != 0 || e != api.OK {
			t.Errorf("Parse(%q) = %+v, %d, %d; want %+v", s, got, at, e, want)
		}
	}
}

// uriError is a text that is no address text, with its error and the offset of that.
type uriError struct {
	s  string
	at int
	e  api.Errno
}

func checkErrors(t *testing.T, cases []uriError) {
	t.Helper()
	for _, c := range cases {
		if got, at, e := address.Parse(c.s); !sameURI(got, api.URI{}) || at != c.at || e != c.e {
			t.Errorf("Parse(%q) = %+v, %d, %d; want %d, %d", c.s, got, at, e, c.at, c.e)
		}
	}
}

// P2.8: the length, the scheme, the user, the host and the port
func TestParsePlaceErrors(t *testing.T) {
	checkErrors(t, []uriError{
		{"sip:h;a=" + strings.Repeat("b", 1017), 1024, api.ErrLimit}, {strings.Repeat(" ", 1025), 1024, api.ErrLimit}, {strings.Repeat(" ", 1024), 1024, api.ErrSyntax},

		{"", 0, api.ErrSyntax}, {"sip", 3, api.ErrSyntax}, {"http", 4, api.ErrSyntax}, {"a@b", 3, api.ErrSyntax},
		{"http:a", 0, api.ErrUnsupported}, {":", 0, api.ErrUnsupported}, {" sip:h", 0, api.ErrUnsupported}, {"sip :h", 0, api.ErrUnsupported}, {"sipss:h", 0, api.ErrUnsupported}, {"si:h", 0, api.ErrUnsupported}, {"<sip:h>", 0, api.ErrUnsupported},

		{"sip:a:b@c", 5, api.ErrUnsupported}, {"sip::@c", 4, api.ErrUnsupported}, {"sip:a: @c", 5, api.ErrUnsupported}, {"sip:h:5;x=a@b", 5, api.ErrUnsupported},
		{"sip:a b@c", 5, api.ErrSyntax}, {"sip:a b:c@d", 5, api.ErrSyntax}, {"sip:a[@b", 5, api.ErrSyntax}, {"sip:a\x80@b", 5, api.ErrSyntax}, {"sip:a\x00@b", 5, api.ErrSyntax}, {"sip:a#@b", 5, api.ErrSyntax},
		{"sip:a%@b", 5, api.ErrSyntax}, {"sip:a%4@b", 5, api.ErrSyntax}, {"sip:a%4g@b", 5, api.ErrSyntax}, {"sip:a%0A@b", 5, api.ErrSyntax}, {"sip:%7f@b", 4, api.ErrSyntax}, {"sip:%00@b", 4, api.ErrSyntax}, {"sip:%1f:@b", 4, api.ErrSyntax},
		{"sip:@h", 4, api.ErrSyntax}, {"sips:@", 5, api.ErrSyntax},

		{"sip:", 4, api.ErrSyntax}, {"sip:a@", 6, api.ErrSyntax}, {"sip:a@@b", 6, api.ErrSyntax}, {"sip:a@b@c", 6, api.ErrSyntax}, {"sip:;x", 4, api.ErrSyntax}, {"sip:?x=1", 4, api.ErrSyntax}, {"sip::5", 4, api.ErrSyntax},
		{"sip:h_", 4, api.ErrSyntax}, {"sip:a@h ", 6, api.ErrSyntax}, {"sip:a@1.2.3", 6, api.ErrSyntax}, {"sip:a@b.:5", 6, api.ErrSyntax}, {"sip:h]", 4, api.ErrSyntax}, {"sip:h/x", 4, api.ErrSyntax},
		{"sip:a@[::1", 6, api.ErrSyntax}, {"sip:[", 4, api.ErrSyntax}, {"sip:[]", 4, api.ErrSyntax}, {"sip:[::1;x]", 4, api.ErrSyntax}, {"sip:[1:2:3:4:5:6:7]", 4, api.ErrSyntax},
		{"sip:[::1]x", 9, api.ErrSyntax}, {"sip:[::1]]", 9, api.ErrSyntax}, {"sip:a@[::1] :5", 11, api.ErrSyntax},

		{"sip:c:", 6, api.ErrSyntax}, {"sip:c:;x", 6, api.ErrSyntax}, {"sip:c:?x=", 6, api.ErrSyntax}, {"sip:c:x", 6, api.ErrSyntax}, {"sip:c:5x;y", 6, api.ErrSyntax}, {"sip:c:5:6", 6, api.ErrSyntax}, {"sip:c:+5", 6, api.ErrSyntax}, {"sip:c:00000000001", 6, api.ErrSyntax}, {"sip:[::1]:", 10, api.ErrSyntax},
		{"sip:c:0", 6, api.ErrRange}, {"sip:c:65536", 6, api.ErrRange}, {"sip:c:4294967297", 6, api.ErrRange}, {"sip:c:9999999999;", 6, api.ErrRange}, {"sip:a@b:65536", 8, api.ErrRange},
	})
}

// P2.8: parameters and heads
func TestParsePairErrors(t *testing.T) {
	sixteen, _ := numbered(16)
	heads := "?" + strings.ReplaceAll(sixteen[1:], ";", "=&") + "="
	checkErrors(t, []uriError{
		{"sip:h;", 6, api.ErrSyntax}, {"sip:h;;x", 6, api.ErrSyntax}, {"sip:h;=1", 6, api.ErrSyntax}, {"sip:h;x;", 8, api.ErrSyntax}, {"sip:h;?x=1", 6, api.ErrSyntax}, {"sip:h;= ", 6, api.ErrSyntax},
		{"sip:h;x=", 8, api.ErrSyntax}, {"sip:h;x=;y", 8, api.ErrSyntax}, {"sip:h;x=?y=1", 8, api.ErrSyntax},
		{"sip:h;x y", 7, api.ErrSyntax}, {"sip:h; x", 6, api.ErrSyntax}, {"sip:h;x,", 7, api.ErrSyntax}, {"sip:h;x\x00=", 7, api.ErrSyntax}, {"sip:h;x%1", 7, api.ErrSyntax}, {"sip:h;x%7F", 7, api.ErrSyntax}, {"sip:h;%0a=", 6, api.ErrSyntax}, {"sip:h;\x80", 6, api.ErrSyntax},
		{"sip:h;x==", 8, api.ErrSyntax}, {"sip:h;x=a=", 9, api.ErrSyntax}, {"sip:h;x=a b", 9, api.ErrSyntax}, {"sip:h;x=%1f", 8, api.ErrSyntax}, {"sip:h;x=a%", 9, api.ErrSyntax}, {"sip:h;x=\"a\"", 8, api.ErrSyntax},
		{"sip:a@b;x;X", 10, api.ErrDuplicate}, {"sip:h;a;b=1;%41=2;c", 12, api.ErrDuplicate}, {"sip:h;a;a= ", 10, api.ErrSyntax}, {"sip:h;a;a=", 10, api.ErrSyntax}, {"sip:h;a;a;;", 8, api.ErrDuplicate},
		{"sip:h" + sixteen + ";q", 54, api.ErrLimit}, {"sip:h" + sixteen + ";Pa", 54, api.ErrDuplicate}, {"sip:h" + sixteen + ";q=", 56, api.ErrSyntax}, {"sip:h" + sixteen + ";q?", 54, api.ErrLimit},

		{"sip:h?", 6, api.ErrSyntax}, {"sip:a@b?x", 9, api.ErrSyntax}, {"sip:h?x&y=1", 7, api.ErrSyntax}, {"sip:h?x=1&", 10, api.ErrSyntax}, {"sip:h?&x=1", 6, api.ErrSyntax}, {"sip:h?=1", 6, api.ErrSyntax}, {"sip:h?= ", 6, api.ErrSyntax}, {"sip:h?x=1&&", 10, api.ErrSyntax},
		{"sip:h?x;=1", 7, api.ErrSyntax}, {"sip:h?x=1;y", 9, api.ErrSyntax}, {"sip:h?x =1", 7, api.ErrSyntax}, {"sip:h?x%z", 7, api.ErrSyntax}, {"sip:h?%00", 6, api.ErrSyntax}, {"sip:h?x==", 8, api.ErrSyntax}, {"sip:h?x=,", 8, api.ErrSyntax}, {"sip:h?x=%0d", 8, api.ErrSyntax}, {"sip:h?x=%", 8, api.ErrSyntax},
		{"sip:h?x=1&X=2", 10, api.ErrDuplicate}, {"sip:h?x=&%58=&y", 9, api.ErrDuplicate}, {"sip:h?x=1&x", 11, api.ErrSyntax}, {"sip:h?x=1&x= ", 12, api.ErrSyntax},
		{"sip:h" + heads + "&q=", 70, api.ErrLimit}, {"sip:h" + heads + "&pA=", 70, api.ErrDuplicate}, {"sip:h" + heads + "&q", 71, api.ErrSyntax}, {"sip:h" + heads + "&q=&", 70, api.ErrLimit},
	})
	if u, _, e := address.Parse("sip:h" + sixteen + heads); len(u.Params) != 16 || len(u.Heads) != 16 || e != api.OK {
		t.Errorf("sixteen parameters and heads: %+v, %d", u, e)
	}
}

// P2.8: numbers
func TestParseNumberErrors(t *testing.T) {
	checkErrors(t, []uriError{
		{"tel:", 4, api.ErrSyntax}, {"tel:+", 4, api.ErrSyntax}, {"tel:-.()", 4, api.ErrSyntax}, {"tel:+-", 4, api.ErrSyntax}, {"tel:;x", 4, api.ErrSyntax}, {"tel:+;x", 4, api.ErrSyntax},
		{"tel:1a", 5, api.ErrSyntax}, {"tel: 1", 4, api.ErrSyntax}, {"tel:1+", 5, api.ErrSyntax}, {"tel:(+1", 5, api.ErrSyntax}, {"tel:++1", 5, api.ErrSyntax}, {"tel:+1*", 6, api.ErrSyntax}, {"tel:+#", 5, api.ErrSyntax}, {"tel:%31", 4, api.ErrSyntax}, {"tel:1?x=1", 5, api.ErrSyntax}, {"tel:1:5", 5, api.ErrSyntax}, {"tel:1@h", 5, api.ErrSyntax}, {"tel:1\x80", 5, api.ErrSyntax}, {"tel:a@b:c", 4, api.ErrSyntax}, {"tel:*a", 5, api.ErrSyntax},
		{"tel:" + strings.Repeat("1", 31), 4, api.ErrLimit}, {"tel:+" + strings.Repeat("1.", 31) + ";x;x", 4, api.ErrLimit}, {"tel:" + strings.Repeat("1", 31) + "a", 35, api.ErrSyntax},
		{"tel:1;", 6, api.ErrSyntax}, {"tel:1;x?", 7, api.ErrSyntax}, {"tel:1;?x=1", 6, api.ErrSyntax}, {"tel:1;x=?", 8, api.ErrSyntax}, {"tel:1;x=", 8, api.ErrSyntax}, {"tel:1;x;%58", 8, api.ErrDuplicate},
	})
}

// P2.8: each byte in each place
func TestParseBytes(t *testing.T) {
	for c := range 256 {
		b := string([]byte{byte(c)})
		if b != "@" && b != ":" {
			checkByte(t, "sip:x", b, "y@h", strings.Contains(classChars[address.ClassUser], b))
		}
		if b != ";" && b != "?" && b != "@" {
			checkByte(t, "sip:h;x=y", b, "z", strings.Contains(classChars[address.ClassParam], b))
			checkByte(t, "sip:h;x", b, "z", b == "=" || strings.Contains(classChars[address.ClassParam], b))
		}
		if b != "&" && b != "@" {
			checkByte(t, "sip:h?x=y", b, "z", strings.Contains(classChars[address.ClassHead], b))
			checkByte(t, "sip:h?x", b, "z=y", b == "=" || strings.Contains(classChars[address.ClassHead], b))
		}
		if b != ";" {
			checkByte(t, "tel:1", b, "2", strings.Contains("0123456789-.()*#", b))
			checkByte(t, "tel:+1", b, "2", strings.Contains("0123456789-.()", b))
		}
	}
	for c := range 256 {
		escape := address.Escape(string([]byte{byte(c)}), -1)
		if strings.HasPrefix(escape, "%") {
			checkByte(t, "sip:x", escape, "y@h", !isControl(byte(c)))
			checkByte(t, "sip:h;x=y", escape, "z", !isControl(byte(c)))
			checkByte(t, "sip:h?x=y", escape, "z", !isControl(byte(c)))
			checkByte(t, "sip:h?x", lowered(escape), "=z", !isControl(byte(c)))
		}
	}
}

func checkByte(t *testing.T, before, b, behind string, want bool) {
	t.Helper()
	s := before + b + behind
	_, at, e := address.Parse(s)
	if b == "=" && strings.HasSuffix(behind, "=y") {
		before += b + behind[:1] // the second = is the stray one
		want = false
	}
	if want && (at != 0 || e != api.OK) || !want && (at != len(before) || e != api.ErrSyntax) {
		t.Errorf("Parse(%q): %d, %d", s, at, e)
	}
}

// normalCase is a URI with its normal form and its text.
type normalCase struct {
	u, normal api.URI
	text      string
}

func normalCases() []normalCase {
	_, list := numbered(16)
	heads := params(valued("h", ""))
	for _, p := range list[:15] {
		heads = append(heads, valued(p.Name, "1"))
	}
	return []normalCase{
		{api.URI{Scheme: "sip", User: "a b", Host: "H", Params: params(flag("X"))}, api.URI{Scheme: "sip", User: "a b", Host: "h", Params: params(flag("x"))}, "sip:a%20b@h;x"},
		{api.URI{Scheme: "SIPS", Host: "[::0A]", Port: 65535}, api.URI{Scheme: "sips", Host: "[::a]", Port: 65535}, "sips:[::a]:65535"},
		{api.URI{Scheme: "sip", Host: "10.0.0.1", Port: 1}, api.URI{Scheme: "sip", Host: "10.0.0.1", Port: 1}, "sip:10.0.0.1:1"},
		{
			api.URI{Scheme: "sip", User: "@:\x80\t%", Host: "h", Params: params(valued("Z", ";"), flag("y"), valued("A=", "B")), Heads: params(valued("Q", ""), valued("&", "="))},
			api.URI{Scheme: "sip", User: "@:\x80\t%", Host: "h", Params: params(valued("a=", "B"), flag("y"), valued("z", ";")), Heads: params(valued("&", "="), valued("q", ""))},
			"sip:%40%3A%80%09%25@h;a%3D=B;y;z=%3B?%26=%3D&q=",
		},
		{api.URI{Scheme: "sip", User: "&;?/", Host: "h", Params: params(valued("&", "[?]")), Heads: params(valued("?", "[;]"))}, api.URI{Scheme: "sip", User: "&;?/", Host: "h", Params: params(valued("&", "[?]")), Heads: params(valued("?", "[;]"))}, "sip:&;?/@h;&=[%3F]??=[%3B]"},
		{api.URI{Scheme: "sip", Host: "h", Params: params(flag("\u00c9A"))}, api.URI{Scheme: "sip", Host: "h", Params: params(flag("\u00c9a"))}, "sip:h;%C3%89a"},
		{api.URI{Scheme: "sip", Host: "h", Params: params(flag("b"), flag("\xff"), flag("B-"), flag("_"), flag("A"))}, api.URI{Scheme: "sip", Host: "h", Params: params(flag("_"), flag("a"), flag("b"), flag("b-"), flag("\xff"))}, "sip:h;_;a;b;b-;%FF"},
		{api.URI{Scheme: "Tel", User: "+123", Params: params(valued("B", "1"), flag("a"))}, api.URI{Scheme: "tel", User: "+123", Params: params(flag("a"), valued("b", "1"))}, "tel:+123;a;b=1"},
		{api.URI{Scheme: "tel", User: "*#0#"}, api.URI{Scheme: "tel", User: "*#0#"}, "tel:*#0#"},
		{api.URI{Scheme: "tel", User: "+" + strings.Repeat("9", 30)}, api.URI{Scheme: "tel", User: "+" + strings.Repeat("9", 30)}, "tel:+" + strings.Repeat("9", 30)},
		{api.URI{Scheme: "tel", User: strings.Repeat("#", 30)}, api.URI{Scheme: "tel", User: strings.Repeat("#", 30)}, "tel:" + strings.Repeat("#", 30)},
		{api.URI{Scheme: "sip", Host: "h", Params: list, Heads: heads}, api.URI{Scheme: "sip", Host: "h", Params: list, Heads: heads}, "sip:h;pa;pb;pc;pd;pe;pf;pg;ph;pi;pj;pk;pl;pm;pn;po;pp?h=&pa=1&pb=1&pc=1&pd=1&pe=1&pf=1&pg=1&ph=1&pi=1&pj=1&pk=1&pl=1&pm=1&pn=1&po=1"},
		{api.URI{Scheme: "sip", User: strings.Repeat("a", 2000), Host: "h"}, api.URI{Scheme: "sip", User: strings.Repeat("a", 2000), Host: "h"}, "sip:" + strings.Repeat("a", 2000) + "@h"},
	}
}

func notValid() []api.URI {
	_, seventeen := numbered(17)
	heads := params()
	for _, p := range seventeen {
		heads = append(heads, valued(p.Name, ""))
	}
	return []api.URI{
		{}, {Host: "h"}, {Scheme: "http", Host: "h"}, {Scheme: "sip:", Host: "h"}, {Scheme: " sip", Host: "h"},
		{Scheme: "sip"}, {Scheme: "sip", User: "a"}, {Scheme: "sip", Host: "h "}, {Scheme: "sip", Host: "1.2.3"}, {Scheme: "sip", Host: "[::1"}, {Scheme: "sip", Host: "a;b"},
		{Scheme: "sip", Host: "h", Port: -1}, {Scheme: "sip", Host: "h", Port: 65536}, {Scheme: "sip", Host: "h", Port: -1 << 62}, {Scheme: "sip", Host: "h", Port: 1 << 62},
		{Scheme: "sip", Host: "h", User: "\x00"}, {Scheme: "sip", Host: "h", User: "a\r\n"}, {Scheme: "sips", Host: "h", User: "\x7f"},
		{Scheme: "sip", Host: "h", Params: params(flag(""))}, {Scheme: "sip", Host: "h", Params: params(valued("", "1"))}, {Scheme: "sip", Host: "h", Params: params(flag("a\x01"))}, {Scheme: "sip", Host: "h", Params: params(valued("a", "\x01"))},
		{Scheme: "sip", Host: "h", Params: params(valued("a", ""))}, {Scheme: "sip", Host: "h", Params: params(api.Param{Name: "a", Value: "1"})},
		{Scheme: "sip", Host: "h", Params: params(flag("a"), flag("A"))}, {Scheme: "sip", Host: "h", Params: params(flag("a"), flag("b"), valued("a", "1"))}, {Scheme: "sip", Host: "h", Params: seventeen},
		{Scheme: "sip", Host: "h", Heads: params(valued("", "1"))}, {Scheme: "sip", Host: "h", Heads: params(flag("a"))}, {Scheme: "sip", Host: "h", Heads: params(api.Param{Name: "a", Value: "1"})}, {Scheme: "sip", Host: "h", Heads: params(valued("a\x1f", ""))}, {Scheme: "sip", Host: "h", Heads: params(valued("a", "\n"))},
		{Scheme: "sip", Host: "h", Heads: params(valued("a", ""), valued("A", ""))}, {Scheme: "sip", Host: "h", Heads: heads},
		{Scheme: "tel"}, {Scheme: "tel", User: "+"}, {Scheme: "tel", User: "1-2"}, {Scheme: "tel", User: "(1)"}, {Scheme: "tel", User: "+1*"}, {Scheme: "tel", User: "1+"}, {Scheme: "tel", User: "a"}, {Scheme: "tel", User: "1;2"}, {Scheme: "tel", User: "1 "},
		{Scheme: "tel", User: strings.Repeat("1", 31)}, {Scheme: "tel", User: "+" + strings.Repeat("1", 31)},
		{Scheme: "tel", User: "1", Host: "h"}, {Scheme: "tel", User: "1", Port: 5060}, {Scheme: "tel", User: "1", Heads: params(valued("a", ""))}, {Scheme: "tel", User: "1", Params: params(flag("a"), flag("A"))}, {Scheme: "tel", User: "1", Params: params(flag(""))},
		{Scheme: "tel", Host: "h"}, {Scheme: "http", User: "1"},
	}
}

// P2.9 and P2.10
func TestNormalAndPrint(t *testing.T) {
	for _, c := range normalCases() {
		if got, e := address.Normal(c.u); !sameURI(got, c.normal) || e != api.OK {
			t.Errorf("Normal(%+v) = %+v, %d; want %+v", c.u, got, e, c.normal)
		}
		if got, e := address.Print(c.u); got != c.text || e != api.OK {
			t.Errorf("Print(%+v) = %q, %d; want %q", c.u, got, e, c.text)
		}
	}
	for _, u := range notValid() {
		if got, e := address.Normal(u); !sameURI(got, api.URI{}) || e != api.ErrArg {
			t.Errorf("Normal(%+v) = %+v, %d", u, got, e)
		}
		if got, e := address.Print(u); got != "" || e != api.ErrArg {
			t.Errorf("Print(%+v) = %q, %d", u, got, e)
		}
	}
}

// P2.11
func TestEqual(t *testing.T) {
	base := api.URI{Scheme: "sip", User: "a", Host: "h", Port: 5, Params: params(flag("x"), valued("y", "1")), Heads: params(valued("p", ""), valued("q", "2"))}
	same := api.URI{Scheme: "SIP", User: "a", Host: "H", Port: 5, Params: params(valued("Y", "1"), flag("X")), Heads: params(valued("Q", "2"), valued("P", ""))}
	if !address.Equal(base, base) || !address.Equal(base, same) || !address.Equal(same, base) {
		t.Error("Equal of the same URI is false")
	}
	for i, change := range []func(*api.URI){
		func(u *api.URI) { u.Scheme = "sips" },
		func(u *api.URI) { u.User = "A" },
		func(u *api.URI) { u.User = "" },
		func(u *api.URI) { u.Host = "g" },
		func(u *api.URI) { u.Port = 0 },
		func(u *api.URI) { u.Port = 6 },
		func(u *api.URI) { u.Params = nil },
		func(u *api.URI) { u.Params = params(flag("x"), valued("y", "2")) },
		func(u *api.URI) { u.Params = params(flag("x"), flag("y")) },
		func(u *api.URI) { u.Params = params(flag("z"), valued("y", "1")) },
		func(u *api.URI) { u.Heads = nil },
		func(u *api.URI) { u.Heads = params(valued("p", ""), valued("q", "")) },
		func(u *api.URI) { u.Heads, u.Params = nil, params(flag("x"), valued("y", "1"), valued("q", "2")) },
	} {
		other := base
		change(&other)
		if address.Equal(base, other) || address.Equal(other, base) || !address.Equal(other, other) {
			t.Errorf("Equal does not see the change %d", i)
		}
	}
	for _, u := range notValid() {
		if address.Equal(u, u) || address.Equal(u, base) || address.Equal(base, u) {
			t.Errorf("%+v is equal to something", u)
		}
	}
}

// The document's rules: arguments are not changed, and results are new memory.
func TestURIsAreNew(t *testing.T) {
	u := api.URI{Scheme: "SIP", Host: "H", Params: params(flag("B"), flag("A")), Heads: params(valued("D", "1"), valued("C", "1"))}
	n, _ := address.Normal(u)
	address.Print(u)
	address.Equal(u, u)
	n.Params[0].Name = "changed"
	n.Heads[0].Name = "changed"
	if u.Params[0].Name != "B" || u.Params[1].Name != "A" || u.Heads[0].Name != "D" || u.Heads[1].Name != "C" {
		t.Errorf("the argument was changed: %+v", u)
	}
	u = api.URI{Scheme: "sip", Host: "h", Params: params(flag("a")), Heads: params(valued("c", "1"))}
	n, _ = address.Normal(u)
	n.Params[0].Name = "changed"
	n.Heads[0].Name = "changed"
	if u.Params[0].Name != "a" || u.Heads[0].Name != "c" {
		t.Errorf("the result of Normal shares memory with its argument: %+v", u)
	}
}
