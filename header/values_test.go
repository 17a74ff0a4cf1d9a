package header_test

import (
	"regexp"
	"slices"
	"strconv"
	"strings"
	"testing"

	"dialtone/address"
	"dialtone/api"
	"dialtone/header"
	"dialtone/lexis"
)

// P3.6
func TestCSeq(t *testing.T) {
	for _, c := range []struct {
		value  string
		n      int
		method string
	}{
		{"007 INVITE", 7, "INVITE"}, {"0 a", 0, "a"}, {" \t42\t \tAck \t", 42, "Ack"}, {"2147483647 -.!%*_+'~`x9", 2147483647, "-.!%*_+'~`x9"}, {"0000000001 1", 1, "1"},
		{"1" + strings.Repeat(" ", 2000) + "BYE" + strings.Repeat("\t", 2000), 1, "BYE"},
	} {
		if n, method, e := header.CSeq(c.value); n != c.n || method != c.method || e != api.OK {
			t.Errorf("CSeq(%q) = %d, %q, %d", c.value, n, method, e)
		}
	}
	for _, c := range []errorCase{
		{"", api.ErrSyntax}, {" ", api.ErrSyntax}, {"INVITE", api.ErrSyntax}, {"INVITE 1", api.ErrSyntax}, {"1INVITE", api.ErrSyntax}, {"-1 INVITE", api.ErrSyntax}, {"1.0 INVITE", api.ErrSyntax}, {"00000000001 INVITE", api.ErrSyntax}, {"1\r\n INVITE", api.ErrSyntax},
		{"2147483648 INVITE", api.ErrRange}, {"9999999999", api.ErrRange}, {"2147483648 ", api.ErrRange}, {"2147483648 a b", api.ErrRange}, {"2147483648\ta/b", api.ErrRange}, {"2147483648INVITE", api.ErrSyntax},
		{"1", api.ErrSyntax}, {"1 ", api.ErrSyntax}, {"1 IN VITE", api.ErrSyntax}, {"1 INVITE;x", api.ErrSyntax}, {"1 a/b", api.ErrSyntax}, {`1 "INVITE"`, api.ErrSyntax}, {"1 \u00e9", api.ErrSyntax}, {"1 a\x00", api.ErrSyntax}, {"1, INVITE", api.ErrSyntax},
	} {
		if n, method, e := header.CSeq(c.value); n != 0 || method != "" || e != c.e {
			t.Errorf("CSeq(%q) = %d, %q, %d; want %d", c.value, n, method, e, c.e)
		}
	}
}

// P3.7
func TestRAck(t *testing.T) {
	for _, c := range []struct {
		value  string
		seq, n int
		method string
	}{
		{"7 08 PRACK", 7, 8, "PRACK"}, {"0 0 a", 0, 0, "a"}, {"\t 001 \t 2147483647\t\tInvite \t", 1, 2147483647, "Invite"}, {"2147483647 0000000003 4", 2147483647, 3, "4"},
	} {
		if seq, n, method, e := header.RAck(c.value); seq != c.seq || n != c.n || method != c.method || e != api.OK {
			t.Errorf("RAck(%q) = %d, %d, %q, %d", c.value, seq, n, method, e)
		}
	}
	for _, c := range []errorCase{
		{"", api.ErrSyntax}, {" ", api.ErrSyntax}, {"PRACK", api.ErrSyntax}, {"x 1 PRACK", api.ErrSyntax}, {"00000000001 1 a", api.ErrSyntax}, {"1;2 3 a", api.ErrSyntax},
		{"2147483648", api.ErrRange}, {"2147483648 x y", api.ErrRange}, {"2147483648 00000000001 a", api.ErrRange}, {"2147483648 PRACK", api.ErrRange},
		{"1", api.ErrSyntax}, {"1 ", api.ErrSyntax}, {"1 2", api.ErrSyntax}, {"1 PRACK", api.ErrSyntax}, {"1 x PRACK", api.ErrSyntax}, {"1 00000000001 a", api.ErrSyntax}, {"1 2 3 a", api.ErrSyntax}, {"1 2 a b", api.ErrSyntax}, {"1 2 a/b", api.ErrSyntax},
		{"1 2147483648", api.ErrRange}, {"1 2147483648 a", api.ErrRange}, {"1 2147483648 a b", api.ErrRange},
	} {
		if seq, n, method, e := header.RAck(c.value); seq != 0 || n != 0 || method != "" || e != c.e {
			t.Errorf("RAck(%q) = %d, %d, %q, %d; want %d", c.value, seq, n, method, e, c.e)
		}
	}
}

var (
	cseqForm = regexp.MustCompile("^[ \t]*([0-9]{1,10})[ \t]+(" + tokenForm + ")[ \t]*$")
	rackForm = regexp.MustCompile("^[ \t]*([0-9]{1,10})[ \t]+([0-9]{1,10})[ \t]+(" + tokenForm + ")[ \t]*$")
)

// P3.6, P3.7 and P3.16 against the definitions
func TestNumbersAll(t *testing.T) {
	const most = 2147483647
	check := func(value string) {
		want, wantN := "", 0
		if m := cseqForm.FindStringSubmatch(value); m != nil {
			if n, _ := strconv.Atoi(m[1]); n <= most {
				want, wantN = m[2], n
			}
		}
		if n, method, e := header.CSeq(value); n != wantN || method != want || (e == api.OK) != (want != "") {
			t.Errorf("CSeq(%q) = %d, %q, %d; want %d, %q", value, n, method, e, wantN, want)
		}
		tidy := ""
		if want != "" {
			tidy = strconv.Itoa(wantN) + " " + want
		}
		if got, _ := header.Tidy("CSeq", value); got != tidy {
			t.Errorf("Tidy of the CSeq %q = %q; want %q", value, got, tidy)
		}
		want, wantN, wantSeq, tidy := "", 0, 0, ""
		if m := rackForm.FindStringSubmatch(value); m != nil {
			seq, _ := strconv.Atoi(m[1])
			if n, _ := strconv.Atoi(m[2]); seq <= most && n <= most {
				want, wantN, wantSeq = m[3], n, seq
				tidy = strconv.Itoa(seq) + " " + strconv.Itoa(n) + " " + m[3]
			}
		}
		if seq, n, method, e := header.RAck(value); seq != wantSeq || n != wantN || method != want || (e == api.OK) != (want != "") {
			t.Errorf("RAck(%q) = %d, %d, %q, %d; want %d, %d, %q", value, seq, n, method, e, wantSeq, wantN, want)
		}
		if got, _ := header.Tidy("RAck", value); got != tidy {
			t.Errorf("Tidy of the RAck %q = %q; want %q", value, got, tidy)
		}
	}
	allTexts([]string{" ", "\t", "0", "12", "9999999999", "A", ";"}, 5, check)
}

// P3.8
func TestNumber(t *testing.T) {
	for value, want := range map[string]int{"0": 0, "007": 7, " \t12 \t": 12, "2147483647": 2147483647, "0000000000": 0, strings.Repeat(" ", 50) + "5": 5} {
		if got, e := header.Number(value); got != want || e != api.OK {
			t.Errorf("Number(%q) = %d, %d; want %d", value, got, e, want)
		}
	}
	for _, c := range []errorCase{
		{"", api.ErrSyntax}, {" ", api.ErrSyntax}, {"-1", api.ErrSyntax}, {"+1", api.ErrSyntax}, {"1 2", api.ErrSyntax}, {"1;x", api.ErrSyntax}, {"1.5", api.ErrSyntax}, {"x", api.ErrSyntax}, {"00000000007", api.ErrSyntax}, {"1\n", api.ErrSyntax},
		{"2147483648", api.ErrRange}, {" 9999999999 ", api.ErrRange},
	} {
		if got, e := header.Number(c.value); got != 0 || e != c.e {
			t.Errorf("Number(%q) = %d, %d; want %d", c.value, got, e, c.e)
		}
	}
}

// addressValues contains addresses, and values that are none.
func addressValues() []string {
	sixteen, _ := numbered(16)
	return []string{
		"sip:a@B", "<sip:a@b;x>;tag=1", `"A. B" <SIP:a@b;Z;x?q=1>;Tag=T;lr`, "Bob  Lee<tel:+1-2>", "sip:a@b;tag=1;b=2 ; c", "sips:[::0A]:5;q", "sip:a@b" + sixteen, `"" <sip:a>`, `sip:h;x="a;tag=2"`,
		"", " ", "*", "a", "text/plain;a=1", "<>", "<sip:a", "sip:", "sip:a..b", "sip:a@b ?", "sip:a,b", "http:a", "sip:a:b@c", "sip:c:0", "sip:c:x", `"a`, `"a" b`, "\"a\x01\" <sip:b>", "a;b <sip:c>", "sip:a;", "sip:a;x;X", `sip:a;x="`, "<sip:a;x;x>;y;y", "sip:a" + sixteen + ";q", "<sip:a" + sixteen + ";q>", "tel:" + strings.Repeat("1", 31),
		"sip:" + strings.Repeat("a", 1018) + "@h", "sip:" + strings.Repeat("a", 1019) + "@h",
	}
}

// P3.9
func TestAddress(t *testing.T) {
	for _, value := range addressValues() {
		want, _, wantError := address.ParseAddress(value)
		for _, value := range []string{value, " \t" + value + "\t ", strings.Repeat(" ", 2000) + value} {
			if got, e := header.Address(value); !sameAddress(got, want) || e != wantError {
				t.Errorf("Address(%q) = %+v, %d; want %+v, %d", value, got, e, want, wantError)
			}
		}
	}
	for _, c := range []errorCase{
		{"a", api.ErrSyntax}, {"http:a", api.ErrUnsupported}, {"sip:a:b@c", api.ErrUnsupported}, {"sip:c:0", api.ErrRange}, {"sip:a;x;X", api.ErrDuplicate}, {`sip:a;x="`, api.ErrShort}, {"sip:" + strings.Repeat("a", 1019) + "@h", api.ErrLimit}, {"tel:" + strings.Repeat("1", 31), api.ErrLimit},
		// The blanks at the end are skipped first, also one behind a backslash.
		{"\"a\\\t", api.ErrShort}, {"sip:a;x=\"\\\t", api.ErrShort},
	} {
		if got, e := header.Address(c.value); !sameAddress(got, api.Address{}) || e != c.e {
			t.Errorf("Address(%q) = %+v, %d; want %d", c.value, got, e, c.e)
		}
	}
	first, _ := header.Address("sip:a;x;y")
	first.Params[0].Name = "changed"
	if second, _ := header.Address("sip:a;x;y"); second.Params[0].Name != "x" {
		t.Errorf("two calls of Address share memory: %+v", second)
	}
}

// P3.10
func TestURI(t *testing.T) {
	for value, want := range map[string]string{
		"sip:B@C;tag=1": "sip:B@c",
		" \tsip:a@b\t ": "sip:a@b",
		`"A" <SIP:%41l%20@H:05060;Z=1;y?b=&a=%2C>;x`: "sip:Al%20@h:5060;y;z=1?a=%2C&b=",
		"Bob <Tel:+1-(2);B;a>;c":                     "tel:+12;a;b",
		"sips:[::0A]":                                "sips:[::a]",
	} {
		if got, e := header.URI(value); got != want || e != api.OK {
			t.Errorf("URI(%q) = %q, %d; want %q", value, got, e, want)
		}
	}
	for _, value := range addressValues() {
		a, e := header.Address(value)
		want := ""
		if e == api.OK {
			want, _ = address.Print(a.URI)
		}
		if got, f := header.URI(value); got != want || f != e {
			t.Errorf("URI(%q) = %q, %d; want %q, %d", value, got, f, want, e)
		}
	}
}

// P3.11
func TestTag(t *testing.T) {
	for value, want := range map[string]string{
		"<sip:a>;tag=1": "1", "sip:a;tag=x-Y": "x-Y", " \tBob <sip:a> ; x ; TAG = \"a b\" \t": "a b", "sip:a;tag=[::01]": "[::1]",
		"sip:a": "", "<sip:a;tag=1>": "", "<sip:a?tag=1>": "", "<sip:a;tag=no>;tag=yes": "yes", "sip:a;tag": "", `sip:a;tag=""`: "", "sip:a;tags=1;xtag=2": "", `"tag=1" <sip:a>`: "", `sip:a;x=";tag=1"`: "",
		"": "", "*": "", "text/plain;tag=1": "", "http:a;tag=1": "", "sip:a;tag=1;tag=2": "", "sip:a;tag=1;": "", "<sip:a;tag=1": "", "sip:a;tag=1 x": "",
	} {
		if got := header.Tag(value); got != want {
			t.Errorf("Tag(%q) = %q; want %q", value, got, want)
		}
	}
}

// P3.12
func TestParam(t *testing.T) {
	for _, c := range []struct {
		value, name, want string
		ok                bool
	}{
		{"sip:a;x=1;Y", "X", "1", true}, {"sip:a;x=1;Y", "y", "", true}, {"sip:a;x=1;Y", "z", "", false}, {" <sip:a;x=1>;x=2 ", "x", "2", true}, {"<sip:a;x=1>;y", "x", "", false}, {"<sip:a?x=1>", "x", "", false},
		{"1800;refresher=uas", "Refresher", "uas", true}, {"\ttext/plain ; Charset = \"a b\"\t", "charset", "a b", true}, {"a;x", "x", "", true}, {"a;x=1", "y", "", false}, {"a", "a", "", false}, {"a;x=1", "", "", false}, {`a;x=""`, "x", "", true},
		{"", "x", "", false}, {";x=1", "x", "", false}, {"http:a;x=1", "x", "", false}, {"a/;x=1", "x", "", false}, {"a;x=1;x=2", "x", "", false}, {"sip:a;x=1;x=2", "x", "", false}, {"a b;x=1", "x", "", false}, {"SIP/2.0/UDP h;x=1", "x", "", false}, {"a;x=1,b;x=2", "x", "", false}, {"*;x=1", "x", "1", true},
	} {
		if got, ok := header.Param(c.value, c.name); got != c.want || ok != c.ok {
			t.Errorf("Param(%q, %q) = %q, %v; want %q, %v", c.value, c.name, got, ok, c.want, c.ok)
		}
	}
}

// P3.13
func TestItem(t *testing.T) {
	sixteen, list := numbered(16)
	for value, want := range map[string]api.Item{
		"text/plain ; a=1":        {Value: "text/plain", Params: params(valued("a", "1"))},
		"a":                       {Value: "a"},
		" \tText/Plain\t ":        {Value: "Text/Plain"},
		"*/*":                     {Value: "*/*"},
		"-.!%*_+'~`/-.!%*_+'~`9":  {Value: "-.!%*_+'~`/-.!%*_+'~`9"},
		"1800;Refresher=uAs":      {Value: "1800", Params: params(valued("refresher", "uAs"))},
		`a;z="x;y" ; b;c=[::01]`:  {Value: "a", Params: params(valued("z", "x;y"), flag("b"), valued("c", "[::1]"))},
		"a/b\t;\tB":               {Value: "a/b", Params: params(flag("b"))},
		"a" + sixteen:             {Value: "a", Params: list},
		strings.Repeat("a", 3000): {Value: strings.Repeat("a", 3000)},
	} {
		if got, e := header.Item(value); !sameItem(got, want) || e != api.OK {
			t.Errorf("Item(%q) = %+v, %d; want %+v", value, got, e, want)
		}
	}
	for _, c := range []errorCase{
		{"", api.ErrSyntax}, {" \t", api.ErrSyntax}, {";a", api.ErrSyntax}, {"/", api.ErrSyntax}, {"/a", api.ErrSyntax}, {`"a"`, api.ErrSyntax}, {"<a>", api.ErrSyntax}, {"=a", api.ErrSyntax}, {"\x00", api.ErrSyntax}, {"\u00e9", api.ErrSyntax}, {";x;x", api.ErrSyntax}, {`;x="`, api.ErrSyntax},
		{"a/", api.ErrSyntax}, {"a/ b", api.ErrSyntax}, {"a/;b", api.ErrSyntax}, {"a/;x;x", api.ErrSyntax}, {`a/;x="`, api.ErrSyntax}, {`a/"b"`, api.ErrSyntax}, {"a//b", api.ErrSyntax},
		{"a /b", api.ErrSyntax}, {"a/b/c", api.ErrSyntax}, {"a b", api.ErrSyntax}, {"a,b", api.ErrSyntax}, {"a;", api.ErrSyntax}, {"a;x=", api.ErrSyntax}, {"a/b;x=[", api.ErrSyntax}, {"a;x=\"\x01\"", api.ErrSyntax}, {"sip:a", api.ErrSyntax},
		{`a;x="`, api.ErrShort}, {`a/b;x="y`, api.ErrShort}, {"a;x;X", api.ErrDuplicate}, {"a" + sixteen + ";q", api.ErrLimit},
		// The blanks at the end are skipped first, also one behind a backslash.
		{"a;x=\"\\\t", api.ErrShort},
	} {
		if got, e := header.Item(c.value); !sameItem(got, api.Item{}) || e != c.e {
			t.Errorf("Item(%q) = %+v, %d; want %d", c.value, got, e, c.e)
		}
	}
	first, _ := header.Item("a;x;y")
	first.Params[0].Name = "changed"
	if second, _ := header.Item("a;x;y"); second.Params[0].Name != "x" {
		t.Errorf("two calls of Item share memory: %+v", second)
	}
}

var readItemForm = regexp.MustCompile("^[ \t]*(" + itemForm + ")([ \t;](?s:.*))?$")

// P3.13 against the definition, and P3.17: Item of what PrintItem returns has the same value and the sorted parameters.
func TestItemAll(t *testing.T) {
	check := func(value string) {
		var want api.Item
		m := readItemForm.FindStringSubmatch(value)
		ok := m != nil
		if ok {
			l, _, e := address.Params(m[2])
			ok = e == api.OK
			if ok {
				want = api.Item{Value: m[1], Params: l}
			}
		}
		x, e := header.Item(value)
		if !sameItem(x, want) || ok != (e == api.OK) {
			t.Errorf("Item(%q) = %+v, %d; want %+v, %v", value, x, e, want, ok)
		}
		if !ok {
			return
		}
		printed, e := header.PrintItem(x)
		want.Params = byName(want.Params)
		if again, f := header.Item(printed); !sameItem(again, want) || e != api.OK || f != api.OK {
			t.Errorf("Item(%q) is printed as %q, %d, and read as %+v, %d", value, printed, e, again, f)
		}
	}
	allTexts([]string{"a", "B", "/", ";", "=", " ", "\t", `"`}, 5, check)
	choose := chooser(1)
	for range 20000 {
		check("x" + choose.text([]string{"/", "/y", ";", ";b", ";a=1", " ; C", `="d;"`, " ", "=[::0]", ","}, 8))
	}
}

// P3.14
func TestPrintItem(t *testing.T) {
	sixteen, list := numbered(16)
	for _, c := range []struct {
		x    api.Item
		want string
	}{
		{api.Item{Value: "text/Plain", Params: params(valued("b", "2"), valued("a", "x y"), flag("ab"))}, `text/Plain;a="x y";ab;b=2`},
		{api.Item{Value: "a"}, "a"}, {api.Item{Value: "*/*"}, "*/*"}, {api.Item{Value: "-.!%*_+'~`/9"}, "-.!%*_+'~`/9"},
		{api.Item{Value: "A", Params: params(valued("z", ""), valued("y", "[::1]"), valued("x", `"`))}, `A;x="\"";y=[::1];z=""`},
		{api.Item{Value: "a", Params: params(list[15], list[3], list[0], list[1], list[2], list[4], list[5], list[6], list[7], list[8], list[9], list[10], list[11], list[12], list[13], list[14])}, "a" + sixteen},
	} {
		before := slices.Clone(c.x.Params)
		if got, e := header.PrintItem(c.x); got != c.want || e != api.OK {
			t.Errorf("PrintItem(%+v) = %q, %d; want %q", c.x, got, e, c.want)
		}
		if !slices.Equal(c.x.Params, before) {
			t.Errorf("PrintItem changed %+v to %+v", before, c.x.Params)
		}
	}
	_, more := numbered(17)
	for _, x := range []api.Item{
		{}, {Value: " "}, {Value: " a"}, {Value: "a "}, {Value: "a b"}, {Value: "/"}, {Value: "a/"}, {Value: "/a"}, {Value: "a/b/c"}, {Value: "a//b"}, {Value: "a /b"}, {Value: "a/b "}, {Value: "a;b"}, {Value: `"a"`}, {Value: "a\x00"}, {Value: "\u00e9"}, {Value: "a/\u00e9"}, {Params: params(flag("a"))},
		{Value: "a", Params: params(flag("A"))}, {Value: "a", Params: params(flag(""))}, {Value: "a", Params: params(flag("b c"))}, {Value: "a", Params: params(flag("x"), flag("b"), flag("x"))}, {Value: "a", Params: params(valued("x", "\x01"))}, {Value: "a", Params: params(api.Param{Name: "x", Value: "1"})}, {Value: "a", Params: more},
	} {
		if got, e := header.PrintItem(x); got != "" || e != api.ErrArg {
			t.Errorf("PrintItem(%+v) = %q, %d", x, got, e)
		}
	}
	eachByte(func(b string) {
		for _, value := range []string{"x" + b, "x/" + b} {
			want, wantError := value, api.OK
			if !lexis.Token(b) {
				want, wantError = "", api.ErrArg
			}
			if got, e := header.PrintItem(api.Item{Value: value}); got != want || e != wantError {
				t.Errorf("PrintItem of the value %q = %q, %d", value, got, e)
			}
		}
	})
}

// P3.15
func TestContacts(t *testing.T) {
	for _, c := range []struct {
		values []string
		star   bool
		want   []string
	}{
		{nil, false, nil}, {[]string{}, false, nil},
		{[]string{"*"}, true, nil}, {[]string{" \t*\t "}, true, nil},
		{[]string{"<sip:a>;q=1, sip:b"}, false, []string{"<sip:a>;q=1", "sip:b"}},
		{[]string{" sip:b;x ,\t\"A, B\" <sip:a,b@c> ", "sip:a", "sip:b;x"}, false, []string{"sip:b;x", `"A, B" <sip:a,b@c>`, "sip:a", "sip:b;x"}},
		{slices.Repeat([]string{"sip:a"}, 100), false, slices.Repeat([]string{"sip:a"}, 100)},
	} {
		before := slices.Clone(c.values)
		star, l, e := header.Contacts(c.values)
		var want []api.Address
		for _, value := range c.want {
			a, _, _ := address.ParseAddress(value)
			want = append(want, a)
		}
		if star != c.star || !slices.EqualFunc(l, want, sameAddress) || e != api.OK {
			t.Errorf("Contacts(%q) = %v, %+v, %d; want %v, %+v", c.values, star, l, e, c.star, want)
		}
		if !slices.Equal(c.values, before) {
			t.Errorf("Contacts changed %q to %q", before, c.values)
		}
	}
	for _, c := range []struct {
		values []string
		e      api.Errno
	}{
		{[]string{"*", "*"}, api.ErrSyntax}, {[]string{"*", "sip:a"}, api.ErrSyntax}, {[]string{"sip:a", "*"}, api.ErrSyntax}, {[]string{"*, *"}, api.ErrSyntax}, {[]string{"*, sip:a"}, api.ErrSyntax}, {[]string{"*;x"}, api.ErrSyntax}, {[]string{"<*>"}, api.ErrSyntax}, {[]string{"**"}, api.ErrSyntax},
		{[]string{""}, api.ErrSyntax}, {[]string{"sip:a", ""}, api.ErrSyntax}, {[]string{"sip:a,"}, api.ErrSyntax}, {[]string{"sip:a,,sip:b"}, api.ErrSyntax}, {[]string{"sip:a\"\x01\""}, api.ErrSyntax},
		{[]string{"<sip:a"}, api.ErrShort}, {[]string{`sip:a, "b`}, api.ErrShort}, {[]string{"sip:a:0"}, api.ErrRange}, {[]string{"sip:a, http:b"}, api.ErrUnsupported}, {[]string{"sip:a;x;x"}, api.ErrDuplicate}, {[]string{"sip:" + strings.Repeat("a", 1019) + "@h"}, api.ErrLimit},
		// The first value with an error counts, and in it List before Address, and the first element.
		{[]string{"sip:a:0", `"`}, api.ErrRange}, {[]string{`"`, "sip:a:0"}, api.ErrShort}, {[]string{"sip:a", "http:b", "sip:a:0"}, api.ErrUnsupported}, {[]string{`sip:a:0, "b`}, api.ErrShort}, {[]string{"sip:a:0,,"}, api.ErrSyntax}, {[]string{"sip:a:0, http:b"}, api.ErrRange}, {[]string{"http:b, sip:a:0"}, api.ErrUnsupported},
		// A list is divided as it stands.
		{[]string{"sip:a, \"\\\t"}, api.ErrSyntax},
	} {
		if star, l, e := header.Contacts(c.values); star || len(l) != 0 || e != c.e {
			t.Errorf("Contacts(%q) = %v, %+v, %d; want %d", c.values, star, l, e, c.e)
		}
	}
	_, l, _ := header.Contacts([]string{"sip:a;x;y, sip:a;x;y", "sip:a;x;y"})
	l[0].Params[0].Name = "changed"
	_ = append(l[0].Params, flag("appended"))
	if l[1].Params[0].Name != "x" || l[2].Params[0].Name != "x" {
		t.Errorf("the results of Contacts share memory: %+v", l)
	}
}
