package header_test

import (
	"slices"
	"strconv"
	"strings"
	"testing"

	"dialtone/address"
	"dialtone/api"
	"dialtone/header"
)

// kindNames contains the names of each kind, by the chapter's table, with some of those of the kind text.
func kindNames() map[string][]string {
	return map[string][]string{
		"address": {"From", "To", "Contact", "Route", "Record-Route", "Path", "Service-Route", "Refer-To", "Referred-By", "Reply-To"},
		"via":     {"Via"},
		"cseq":    {"CSeq"},
		"rack":    {"RAck"},
		"number":  {"Content-Length", "Expires", "Max-Forwards", "Min-Expires", "RSeq"},
		"item":    {"Content-Disposition", "Content-Type", "Event", "Min-SE", "Session-Expires", "Subscription-State"},
		"token":   {"Accept", "Allow", "Allow-Events", "Proxy-Require", "Require", "Supported", "Unsupported"},
		"text":    {"Call-ID", "Subject", "MIME-Version", "WWW-Authenticate", "Content-Encoding", "User-Agent", "Authorization", "Date", "Q", "X-Via", "Contacts", "Accept-Encoding", "Expire"},
	}
}

// tidied contains values and their normal forms, by the kind of their names. Those of an element hold in lists, too.
func tidied() map[string]map[string]string {
	return map[string]map[string]string{
		"address": {
			"Bob<sip:a@B>": `"Bob" <sip:a@b>`, "<sip:c;d>": "<sip:c;d>", "Bob <SIP:b@C>;Tag=1": `"Bob" <sip:b@c>;tag=1`, "sip:a;Z=1; b": "<sip:a>;b;z=1", "Bob  \tLee <tel:+1-2;Y;x>": `"Bob Lee" <tel:+12;x;y>`, `"a \"," <sip:%41@h?b=&a=1>`: `"a \"," <sip:A@h?a=1&b=>`, `""<sips:[::0A]:05>`: "<sips:[::a]:5>", `sip:a;x="y";e="";w="y z"`: `<sip:a>;e="";w="y z";x=y`,
		},
		"via": {
			"sip/2.0/udp  H:05060": "SIP/2.0/UDP h:5060", "SIP/2.0/tcp [::0A] ; TTL = 1;branch=z;a": "SIP/2.0/TCP [::a];a;branch=z;ttl=1", "SIP/2.0/UDP h;branch": "SIP/2.0/UDP h", `SIP/2.0/UDP h;x;branch=""`: "SIP/2.0/UDP h;x", `SIP/2.0/UDP h;branch="z"`: "SIP/2.0/UDP h;branch=z", `SIP/2.0/UDP h;branch="a,b"`: `SIP/2.0/UDP h;branch="a,b"`,
		},
		"cseq":   {"007 INVITE": "7 INVITE", "0\t \tack": "0 ack", "2147483647  A": "2147483647 A"},
		"rack":   {"007  08\tPRACK": "7 8 PRACK", "0 0000000000 x": "0 0 x"},
		"number": {"0": "0", "0012": "12", "0000000000": "0", "2147483647": "2147483647", "100": "100"},
		"item": {
			`text/Plain;B=2; a="x y"`: `text/Plain;a="x y";b=2`, "1800;Refresher=uAs": "1800;refresher=uAs", "active ;expires = 05": "active;expires=05", "a/B": "a/B", "0090": "0090", `a;b="c"`: "a;b=c", `x;y="";z=[::0A]`: `x;y="";z=[::a]`,
		},
		"token": {
			"INVITE": "INVITE", "*/*;Q=0.5": "*/*;q=0.5", `text/plain ;b;a="x,y"`: `text/plain;a="x,y";b`, "100rel": "100rel", "a;c;B": "a;b;c",
		},
		"text": {
			"": "", "two  words": "two  words", "a\tb,, c": "a\tb,, c", `"a`: `"a`, "<a": "<a", "a>;=;": "a>;=;", "\u00e9\xff": "\u00e9\xff", "007": "007", "*": "*",
		},
	}
}

// P3.16
func TestTidy(t *testing.T) {
	for kind, names := range kindNames() {
		for _, name := range names {
			for value, want := range tidied()[kind] {
				for _, name := range cases(name) {
					for _, value := range []string{value, " \t" + value + "\t "} {
						if got, e := header.Tidy(name, value); got != want || e != api.OK {
							t.Errorf("Tidy(%q, %q) = %q, %d; want %q", name, value, got, e, want)
						}
					}
				}
				if again, e := header.Tidy(name, want); again != want || e != api.OK {
					t.Errorf("Tidy(%q) changes the normal form %q to %q, %d", name, want, again, e)
				}
			}
		}
	}
	for _, c := range []struct{ name, value, want string }{
		{"m", "Bob<sip:a@B> , <sip:c;d>", `"Bob" <sip:a@b>, <sip:c;d>`},
		{"F", "sip:a", "<sip:a>"}, {"t", "sip:a;Tag=1", "<sip:a>;tag=1"}, {"r", "sip:a", "<sip:a>"}, {"b", "sip:a", "<sip:a>"}, {"V", "sip/2.0/udp h,sip/2.0/tcp i", "SIP/2.0/UDP h, SIP/2.0/TCP i"}, {"L", "07", "7"}, {"c", "a;B", "a;b"}, {"o", "a;B", "a;b"}, {"x", "05;B", "05;b"}, {"k", "a,b;C", "a, b;c"}, {"u", "a,b", "a, b"}, {"i", " 07,; ", "07,;"}, {"s", " a,b ", "a,b"}, {"e", " a,b ", "a,b"},
		{"a", " 07,b ", "07,b"}, {"z", "x,,", "x,,"},
		{"Contact", " \t*\t ", "*"}, {"m", "sip:a ,*", "<sip:a>, *"}, {"contact", "*,* , sip:b;x", "*, *, <sip:b>;x"},
		{"Subject", strings.Repeat("x", 5000), strings.Repeat("x", 5000)},
	} {
		if got, e := header.Tidy(c.name, c.value); got != c.want || e != api.OK {
			t.Errorf("Tidy(%q, %q) = %q, %d; want %q", c.name, c.value, got, e, c.want)
		}
	}
}

// wrong contains values that are not accepted, with their errors, by the kind of their names. Those of an element hold in lists, too.
func wrong() map[string][]errorCase {
	sixteen, _ := numbered(16)
	return map[string][]errorCase{
		"address": {{"a", api.ErrSyntax}, {"**", api.ErrSyntax}, {"*;x", api.ErrSyntax}, {"sip:a b", api.ErrSyntax}, {"http:a", api.ErrUnsupported}, {"sip:a:b@c", api.ErrUnsupported}, {"sip:a:0", api.ErrRange}, {"sip:a;x;X", api.ErrDuplicate}, {"sip:a" + sixteen + ";q", api.ErrLimit}, {"sip:" + strings.Repeat("a", 1019) + "@h", api.ErrLimit}, {"sip:a;x:0;x;x", api.ErrSyntax}},
		"via":     {{"UDP h", api.ErrSyntax}, {"SIP/2.0/UDP a_b", api.ErrSyntax}, {"SIP/2.0/UDP h:0", api.ErrRange}, {"SIP/2.0/UDP h:x", api.ErrSyntax}, {"SIP/2.0/UDP h;x;X", api.ErrDuplicate}, {"SIP/2.0/UDP h" + sixteen + ";q", api.ErrLimit}},
		"cseq":    {{"1", api.ErrSyntax}, {"", api.ErrSyntax}, {"2147483648 A", api.ErrRange}, {"1 A, 2 B", api.ErrSyntax}},
		"rack":    {{"1 A", api.ErrSyntax}, {"", api.ErrSyntax}, {"1 2147483648 A", api.ErrRange}, {"2147483648", api.ErrRange}},
		"number":  {{"", api.ErrSyntax}, {"x", api.ErrSyntax}, {"-1", api.ErrSyntax}, {"1, 2", api.ErrSyntax}, {"1;x", api.ErrSyntax}, {"00000000001", api.ErrSyntax}, {"2147483648", api.ErrRange}},
		"item":    {{"", api.ErrSyntax}, {"a b", api.ErrSyntax}, {"a/", api.ErrSyntax}, {"a, b", api.ErrSyntax}, {"a;x;X", api.ErrDuplicate}, {"a" + sixteen + ";q", api.ErrLimit}, {`a;x="`, api.ErrShort}, {"a;x=\"\\\t", api.ErrShort}},
		"token":   {{"a b", api.ErrSyntax}, {"a/", api.ErrSyntax}, {"/a", api.ErrSyntax}, {"<a>", api.ErrSyntax}, {`"a"`, api.ErrSyntax}, {"a;x=", api.ErrSyntax}, {"a;x;X", api.ErrDuplicate}, {"a" + sixteen + ";q", api.ErrLimit}},
		"text":    {{"a\x00", api.ErrSyntax}, {"\x01", api.ErrSyntax}, {"a\r\n b", api.ErrSyntax}, {"\n", api.ErrSyntax}, {"a\r", api.ErrSyntax}, {"\x7f", api.ErrSyntax}, {"\x1f a", api.ErrSyntax}},
	}
}

// P3.16, error by error
func TestTidyErrors(t *testing.T) {
	check := func(name, value string, want api.Errno) {
		t.Helper()
		if got, e := header.Tidy(name, value); got != "" || e != want {
			t.Errorf("Tidy(%q, %q) = %q, %d; want %d", name, value, got, e, want)
		}
	}
	for kind, names := range kindNames() {
		for _, name := range names {
			for _, c := range wrong()[kind] {
				check(name, c.value, c.e)
				check(strings.ToUpper(name), " \t"+c.value+" ", c.e)
			}
			if name != "Contact" && kind != "token" && kind != "item" && kind != "text" {
				check(name, "*", api.ErrSyntax)
			}
		}
	}
	for _, name := range []string{"", " ", "Via ", " Subject", "a:b", "a b", "\u00e9", strings.Repeat("a", 65)} {
		check(name, "a", api.ErrSyntax)
		check(name, "sip:a:0", api.ErrSyntax)
	}
	for _, name := range listNames() {
		for _, c := range []errorCase{
			{"", api.ErrSyntax}, {" \t", api.ErrSyntax}, {",", api.ErrSyntax}, {">", api.ErrSyntax}, {`"`, api.ErrShort}, {"<", api.ErrShort}, {"\"\\\t", api.ErrSyntax}, {"\"\x01\"", api.ErrSyntax},
		} {
			check(name, c.value, c.e)
		}
	}
	check("Route", "sip:a, *", api.ErrSyntax)
	check("Contact", "*, **", api.ErrSyntax)
	// The error of List comes before that of an element.
	check("Contact", `sip:a:0, "`, api.ErrShort)
	check("Contact", "sip:a:0,,", api.ErrSyntax)
	check("Via", "SIP/2.0/UDP h:0, <", api.ErrShort)
	check("Allow", `a;x;x, "`, api.ErrShort)
	check("Allow", "a;x=\"\\\t", api.ErrSyntax)
	// The first element that cannot be read counts.
	check("Contact", "sip:a, sip:a:0, http:b", api.ErrRange)
	check("Contact", "*, http:b, sip:a:0", api.ErrUnsupported)
	check("Via", "SIP/2.0/UDP h;x;x, SIP/2.0/UDP h:0", api.ErrDuplicate)
	check("Allow", "a, b c, d;x;x", api.ErrSyntax)
}

// P3.16: every byte in a text
func TestTidyTextBytes(t *testing.T) {
	eachByte(func(b string) {
		want, wantError := "x"+b+"y", api.OK
		if hasControl(b) {
			want, wantError = "", api.ErrSyntax
		}
		if got, e := header.Tidy("Subject", "x"+b+"y"); got != want || e != wantError {
			t.Errorf("Tidy of a text with %q: %q, %d", b, got, e)
		}
		want = strings.Trim(b, " \t")
		if wantError != api.OK {
			want = ""
		}
		if got, e := header.Tidy("Subject", b); got != want || e != wantError {
			t.Errorf("Tidy of the text %q: %q, %d", b, got, e)
		}
	})
}

// tidyOf follows the definition of the normal form of a value that is no list, or of an element.
func tidyOf(kind, value string) (string, api.Errno) {
	var text string
	var e, f api.Errno
	switch kind {
	case "address":
		var a api.Address
		a, e = header.Address(value)
		text, f = address.PrintAddress(a)
	case "via":
		var v api.Via
		v, e = header.Via(value)
		text, f = header.PrintVia(v)
	case "item", "token":
		var x api.Item
		x, e = header.Item(value)
		text, f = header.PrintItem(x)
	case "number":
		var n int
		n, e = header.Number(value)
		text = strconv.Itoa(n)
	case "text":
		text = strings.Trim(value, " \t")
		if hasControl(text) {
			e = api.ErrSyntax
		}
	}
	if e != api.OK {
		return "", e
	}
	return text, f
}

// tidyList follows the definition of the normal form of a list.
func tidyList(name, kind, value string) (string, api.Errno) {
	elements, e := header.List(value)
	for i, element := range elements {
		if name == "Contact" && element == "*" {
			continue
		}
		tidy, e := tidyOf(kind, element)
		if e != api.OK {
			return "", e
		}
		elements[i] = tidy
	}
	return strings.Join(elements, ", "), e
}

// valuesFor returns values of which about a half are of a kind.
func valuesFor(kind string) []string {
	var own, others []string
	for k, values := range tidied() {
		for value := range values {
			if k == kind {
				own = append(own, value)
			} else {
				others = append(others, value)
			}
		}
	}
	for _, cases := range wrong() {
		for _, c := range cases {
			others = append(others, c.value)
		}
	}
	slices.Sort(own) // the order of a map is not fixed
	slices.Sort(others)
	others = append(others, addressValues()...)
	others = append(others, ",", ", ", " ", "*", ";x", ";Y=1", `"`, "<", ">")
	return append(slices.Repeat(own, len(others)/len(own)+1), others...)
}

// P3.16 against the definition, and P3.17: Tidy of a normal form is the same text.
func TestTidyAll(t *testing.T) {
	for kind, names := range kindNames() {
		if kind == "cseq" || kind == "rack" {
			continue // see TestNumbersAll
		}
		values := valuesFor(kind)
		for _, name := range names {
			choose := chooser(5)
			for i := range 600 {
				value := choose.text(values, 3)
				if i%2 > 0 {
					value = values[choose.below(len(values))] + " ," + values[choose.below(len(values))]
				}
				checkTidy(t, name, kind, value)
			}
		}
	}
}

// checkTidy compares Tidy with the definition, and tidies what it returns again.
func checkTidy(t *testing.T, name, kind, value string) {
	t.Helper()
	want, wantError := tidyOf(kind, value)
	if slices.Contains(listNames(), name) {
		want, wantError = tidyList(name, kind, value)
	}
	got, e := header.Tidy(name, value)
	if got != want || e != wantError {
		t.Errorf("Tidy(%q, %q) = %q, %d; want %q, %d", name, value, got, e, want, wantError)
	}
	if e != api.OK || len(got) > api.MaxValue {
		return
	}
	if again, e := header.Tidy(name, got); again != got || e != api.OK {
		t.Errorf("Tidy(%q) changes the normal form %q to %q, %d", name, got, again, e)
	}
}
