package address_test

import (
	"strings"
	"testing"

	"dialtone/address"
	"dialtone/api"
)

// P2.12
func TestParseAddress(t *testing.T) {
	plain := api.URI{Scheme: "sip", User: "a", Host: "b"}
	withX := api.URI{Scheme: "sip", User: "a", Host: "b", Params: params(flag("x"))}
	for s, want := range map[string]api.Address{
		`"A. B" <sip:a@b;x>;tag=1`: {Display: "A. B", URI: withX, Params: params(valued("tag", "1"))},
		"sip:a@b;tag=1":            {URI: plain, Params: params(valued("tag", "1"))},

		"sip:a@b":                         {URI: plain},
		" \t sip:a@b \t ":                 {URI: plain},
		"sip:a@b ;x":                      {URI: plain, Params: params(flag("x"))},
		"sip:a@b\t; X = \"y;?,z\" ":       {URI: plain, Params: params(valued("x", "y;?,z"))},
		"SIP:a@B;Z=1;A=2":                 {URI: plain, Params: params(valued("z", "1"), valued("a", "2"))},
		"sip:[::1]:5;a":                   {URI: api.URI{Scheme: "sip", Host: "[::1]", Port: 5}, Params: params(flag("a"))},
		"sip:h;x=a%40b":                   {URI: api.URI{Scheme: "sip", Host: "h"}, Params: params(valued("x", "a%40b"))},
		"tel:+1-2;z;y":                    {URI: api.URI{Scheme: "tel", User: "+12"}, Params: params(flag("z"), flag("y"))},
		"<sip:a@b>":                       {URI: plain},
		"<sip:a@b;x>":                     {URI: withX},
		"<sip:a@b;x>;x":                   {URI: withX, Params: params(flag("x"))},
		" \t<sip:a@b> \t; z ":             {URI: plain, Params: params(flag("z"))},
		"<sip:a@b>;z;y=\"c > d\";x=[::0]": {URI: plain, Params: params(flag("z"), valued("y", "c > d"), valued("x", "[::0]"))},
		"<sip:a@b>;x=\"<\"":               {URI: plain, Params: params(valued("x", "<"))},
		"<sip:a@b;x?q=1&p=>":              {URI: api.URI{Scheme: "sip", User: "a", Host: "b", Params: params(flag("x")), Heads: params(valued("p", ""), valued("q", "1"))}},
		"<sip:a,b;c?d@b;z;y>":             {URI: api.URI{Scheme: "sip", User: "a,b;c?d", Host: "b", Params: params(flag("y"), flag("z"))}},

		"Bob<sip:a@b>":                   {Display: "Bob", URI: plain},
		"Bob  Lee\tJr. \t<sip:a@b>":      {Display: "Bob Lee Jr.", URI: plain},
		" -.!%*_+'~` <sip:a@b>":          {Display: "-.!%*_+'~`", URI: plain},
		`"" <sip:a@b>`:                   {URI: plain},
		" \"a \\\"<\\\\\" \t <sip:a@b> ": {Display: `a "<\`, URI: plain},
		"\"a\tb\x80\"<sip:a@b>":          {Display: "a\tb\x80", URI: plain},
		"Home <tel:+1-2;z;y>":            {Display: "Home", URI: api.URI{Scheme: "tel", User: "+12", Params: params(flag("y"), flag("z"))}},

		"<sip:a@b>" + strings.Repeat(" ", api.MaxValue-9): {URI: plain},
	} {
		if got, at, e := address.ParseAddress(s); !sameAddress(got, want) || at != 0 || e != api.OK {
			t.Errorf("ParseAddress(%q) = %+v, %d, %d; want %+v", s, got, at, e, want)
		}
	}
}

// P2.12, error by error
func TestParseAddressErrors(t *testing.T) {
	sixteen, _ := numbered(16)
	for _, c := range []uriError{
		{"<sip:a@b>" + strings.Repeat(" ", api.MaxValue-8), 1024, api.ErrLimit}, {strings.Repeat("?", 1025), 1024, api.ErrLimit}, {strings.Repeat(" ", 1025), 1024, api.ErrLimit},

		{`"a`, 2, api.ErrShort}, {`  "a\`, 5, api.ErrShort}, {"\"a\x01\" <sip:a@b>", 2, api.ErrSyntax}, {"\"\\\x80\"<sip:a@b>", 1, api.ErrSyntax},
		{`"a" sip:a@b`, 4, api.ErrSyntax}, {`"a"`, 3, api.ErrSyntax}, {`"a"  `, 5, api.ErrSyntax}, {`"a"b<sip:a@b>`, 3, api.ErrSyntax}, {`"a" "b" <sip:a@b>`, 4, api.ErrSyntax}, {`"a";<sip:a@b>`, 3, api.ErrSyntax}, {`"a">`, 3, api.ErrSyntax},

		{"a, b <sip:a@b>", 1, api.ErrSyntax}, {"  (a) <sip:a@b>", 2, api.ErrSyntax}, {`a "b" <sip:a@b>`, 2, api.ErrSyntax}, {"a\x80<sip:a@b>", 1, api.ErrSyntax}, {"a \x00<", 2, api.ErrSyntax}, {"><sip:a@b>", 0, api.ErrSyntax}, {`sip:a@b;x="<"`, 3, api.ErrSyntax}, {"a\r\n <sip:a@b>", 1, api.ErrSyntax},

		{"<sip:a@b", 8, api.ErrSyntax}, {"<", 1, api.ErrSyntax}, {`"a>" <sip:a@b`, 13, api.ErrSyntax}, {"a <:", 4, api.ErrSyntax},
		{"<>", 1, api.ErrSyntax}, {" <sip>", 5, api.ErrSyntax}, {"< sip:a@b>", 1, api.ErrUnsupported}, {"a <http:b>", 3, api.ErrUnsupported}, {"<sip:a:b@c>", 6, api.ErrUnsupported}, {"<sip:a@b >", 7, api.ErrSyntax}, {"<sip:a@b:0>", 9, api.ErrRange}, {`"<>"<sip:a@b;x;X>`, 15, api.ErrDuplicate}, {"<sip:a@b" + sixteen + ";q>", 57, api.ErrLimit}, {"<<sip:a@b>>", 1, api.ErrUnsupported}, {"<sip:a@b?x>;x;x", 10, api.ErrSyntax},
		{"<sip:a@b>x", 9, api.ErrSyntax}, {"<sip:a@b> , ", 10, api.ErrSyntax}, {"<sip:a@b>>", 9, api.ErrSyntax}, {"<sip:a@b>;", 10, api.ErrSyntax}, {"<sip:a@b>;x=", 12, api.ErrSyntax}, {`<sip:a@b>;x="y`, 14, api.ErrShort}, {"<sip:a@b>;x;y;X", 14, api.ErrDuplicate}, {"<sip:a@b>" + sixteen + "; q", 59, api.ErrLimit}, {"<sip:a@b>;x=[::", 12, api.ErrSyntax},

		{"", 0, api.ErrSyntax}, {"  ", 2, api.ErrSyntax}, {" sip", 4, api.ErrSyntax}, {";x", 0, api.ErrSyntax}, {"Bob", 3, api.ErrSyntax}, {"*", 1, api.ErrSyntax},
		{"sip:a@b?c=d", 7, api.ErrSyntax}, {" sip:a?b@c", 6, api.ErrSyntax}, {"?", 0, api.ErrSyntax}, {"sip:a,b@c?d", 5, api.ErrSyntax}, {"sip:a@b,sip:c@d", 7, api.ErrSyntax}, {"http:a,b", 6, api.ErrSyntax},
		{"http:a?", 6, api.ErrSyntax}, {"  http:a", 2, api.ErrUnsupported}, {" sip:a:b@c", 6, api.ErrUnsupported}, {"sip:a@b:0;x;x", 8, api.ErrRange}, {" sip:a@;x", 7, api.ErrSyntax}, {"sip:a@b>", 6, api.ErrSyntax}, {"sip:a;b@c", 7, api.ErrSyntax},
		{"sip:a@b x", 8, api.ErrSyntax}, {"sip:a@b ?", 8, api.ErrSyntax}, {"sip:a@b;", 8, api.ErrSyntax}, {"sip:a@b;x=?", 10, api.ErrSyntax}, {" sip:a@b;x;X", 11, api.ErrDuplicate}, {"sip:a@b;x=\"", 11, api.ErrShort}, {"sip:a@b" + sixteen + ";q", 56, api.ErrLimit},
	} {
		if got, at, e := address.ParseAddress(c.s); !sameAddress(got, api.Address{}) || at != c.at || e != c.e {
			t.Errorf("ParseAddress(%q) = %+v, %d, %d; want %d, %d", c.s, got, at, e, c.at, c.e)
		}
	}
}

// P2.13
func TestPrintAddress(t *testing.T) {
	plain := api.URI{Scheme: "sip", User: "a", Host: "b"}
	for _, c := range []struct {
		a    api.Address
		want string
	}{
		{api.Address{URI: plain}, "<sip:a@b>"},
		{api.Address{Display: "Bob", URI: plain}, `"Bob" <sip:a@b>`},
		{api.Address{Display: " ", URI: plain}, `" " <sip:a@b>`},
		{api.Address{Display: "a\"\\\t\x80", URI: plain}, "\"a\\\"\\\\\t\x80\" <sip:a@b>"},
		{api.Address{URI: api.URI{Scheme: "SIP", User: "<>", Host: "B", Params: params(flag("Z"), flag("y"))}}, "<sip:%3C%3E@b;y;z>"},
		{api.Address{URI: plain, Params: params(valued("tag", "1"), flag("z"), valued("q", "a b"))}, `<sip:a@b>;q="a b";tag=1;z`},
		{api.Address{URI: api.URI{Scheme: "tel", User: "+1"}, Params: params(valued("x", ""))}, `<tel:+1>;x=""`},
	} {
		if got, e := address.PrintAddress(c.a); got != c.want || e != api.OK {
			t.Errorf("PrintAddress(%+v) = %q, %d; want %q", c.a, got, e, c.want)
		}
	}
	_, seventeen := numbered(17)
	for _, a := range []api.Address{
		{}, {Display: "a"}, {Display: "a\x00", URI: plain}, {Display: "\r\n", URI: plain}, {Display: "\x7f", URI: plain},
		{URI: api.URI{Scheme: "sip", Host: "h", Port: -1}}, {URI: api.URI{Scheme: "http", Host: "h"}},
		{URI: plain, Params: params(flag("A"))}, {URI: plain, Params: params(flag("a"), flag("b"), flag("a"))}, {URI: plain, Params: params(valued("a", "\n"))}, {URI: plain, Params: params(api.Param{Name: "a", Value: "1"})}, {URI: plain, Params: seventeen},
	} {
		if got, e := address.PrintAddress(a); got != "" || e != api.ErrArg {
			t.Errorf("PrintAddress(%+v) = %q, %d", a, got, e)
		}
	}
	a := api.Address{URI: plain, Params: params(flag("b"), flag("a"))}
	address.PrintAddress(a)
	if a.Params[0].Name != "b" {
		t.Errorf("PrintAddress changed its argument: %+v", a)
	}
}
