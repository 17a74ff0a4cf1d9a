package header_test

import (
	"slices"
	"strings"
	"testing"

	"dialtone/api"
	"dialtone/header"
	"dialtone/lexis"
)

// shortNames contains the chapter's table of short names.
func shortNames() map[string]string {
	return map[string]string{
		"b": "Referred-By", "c": "Content-Type", "e": "Content-Encoding", "f": "From", "i": "Call-ID", "k": "Supported", "l": "Content-Length",
		"m": "Contact", "o": "Event", "r": "Refer-To", "s": "Subject", "t": "To", "u": "Allow-Events", "v": "Via", "x": "Session-Expires",
	}
}

func listNames() []string {
	return []string{"Contact", "Path", "Record-Route", "Route", "Service-Route", "Via", "Accept", "Allow", "Allow-Events", "Proxy-Require", "Require", "Supported", "Unsupported"}
}

// singleNames contains canonical names whose values are no lists, texts among them.
func singleNames() []string {
	return []string{
		"From", "To", "Refer-To", "Referred-By", "Reply-To", "CSeq", "RAck", "Content-Length", "Expires", "Max-Forwards", "Min-Expires", "RSeq",
		"Content-Disposition", "Content-Type", "Event", "Min-SE", "Session-Expires", "Subscription-State",
		"Call-ID", "MIME-Version", "WWW-Authenticate", "Subject", "Content-Encoding", "User-Agent", "Authorization", "Accepts", "Contact-X", "X-Via", "Q",
	}
}

// P3.1
func TestCanon(t *testing.T) {
	for name, want := range map[string]string{
		"v": "Via", "CALL-id": "Call-ID", "x-my-HEADER": "X-My-Header",
		"vv": "Vv", "v-": "V-", "-v": "-V", "V1": "V1", "mm": "Mm",
		"x--y": "X--Y", "X-Y-": "X-Y-", "--": "--", "a-1b-C2D": "A-1b-C2d", "1A-2B": "1a-2b", "a.bC_dE+f": "A.bc_de+f", "aB'C~D`E!F%G*H": "Ab'c~d`e!f%g*h",
		"xcseq": "Xcseq", "CSEQ-": "Cseq-", "call-id-x": "Call-Id-X", "x-rack": "X-Rack", "MIME": "Mime", "www": "Www", "min-sec": "Min-Sec", "MIN-EXPIRES": "Min-Expires", "RSEQS": "Rseqs",
		strings.Repeat("aB", 32):        "Ab" + strings.Repeat("ab", 31),
		strings.Repeat("-", 63) + "z":   strings.Repeat("-", 63) + "Z",
		"x" + strings.Repeat("-aB", 21): "X" + strings.Repeat("-Ab", 21),
	} {
		if got, e := header.Canon(name); got != want || e != api.OK {
			t.Errorf("Canon(%q) = %q, %d; want %q", name, got, e, want)
		}
	}
	for _, want := range append(listNames(), singleNames()...) {
		for _, name := range cases(want) {
			if got, e := header.Canon(name); got != want || e != api.OK {
				t.Errorf("Canon(%q) = %q, %d; want %q", name, got, e, want)
			}
		}
	}
	for _, name := range []string{
		"", " ", "a b", " via", "via ", "a:b", "Via:", "a/b", "a,b", "a;b", `"a"`, "a\t", "a\r\n", "a\x00", "\u00e9", "\u017fubject", "\u212a", "(a)", "<a>", "a=b", "a@b",
		strings.Repeat("a", 65), strings.Repeat("a", 1000), strings.Repeat("-", 65),
	} {
		if got, e := header.Canon(name); got != "" || e != api.ErrSyntax {
			t.Errorf("Canon(%q) = %q, %d", name, got, e)
		}
	}
}

// P3.1: every byte, alone, within a word, at the beginning of a word, and at the end of the longest name
func TestCanonBytes(t *testing.T) {
	shorts := shortNames()
	eachByte(func(b string) {
		up, low := b, b
		if b >= "A" && b <= "Z" {
			low = string([]byte{b[0] + 32})
		}
		if b >= "a" && b <= "z" {
			up = string([]byte{b[0] - 32})
		}
		alone := up
		if name, ok := shorts[low]; ok {
			alone = name
		}
		long := strings.Repeat("x", 62)
		for name, want := range map[string]string{
			b: alone, "Q" + b: "Q" + low, "Q-" + b: "Q-" + up, b + "Q": up + map[bool]string{true: "Q", false: "q"}[b == "-"],
			long + "y" + b: "X" + long[1:] + "y" + low,
		} {
			wantError := api.OK
			if !lexis.Token(b) {
				want, wantError = "", api.ErrSyntax
			}
			if got, e := header.Canon(name); got != want || e != wantError {
				t.Errorf("Canon(%q) = %q, %d; want %q", name, got, e, want)
			}
		}
		if got, e := header.Canon(long + "xx" + b); got != "" || e != api.ErrSyntax {
			t.Errorf("Canon of 65 bytes with %q: %q, %d", b, got, e)
		}
	})
}

// P3.1 and P3.17: Canon of a canonical name is that name.
func TestCanonAgain(t *testing.T) {
	check := func(name string) {
		canon, e := header.Canon(name)
		if (e == api.OK) != lexis.Token(name) {
			t.Errorf("Canon(%q): %d", name, e)
		}
		if e != api.OK {
			return
		}
		if again, e := header.Canon(canon); again != canon || e != api.OK {
			t.Errorf("Canon of %q, the canonical name of %q, is %q, %d", canon, name, again, e)
		}
		if len(name) > 1 && !strings.EqualFold(canon, name) {
			t.Errorf("Canon(%q) = %q", name, canon)
		}
	}
	allTexts([]string{"v", "V", "-", "1", "rack", "CSeq", "Call-", "ID", "/"}, 4, check)
	for _, name := range shortNames() {
		check(name)
	}
}

// P3.2
func TestMany(t *testing.T) {
	for _, name := range listNames() {
		for _, name := range cases(name) {
			if !header.Many(name) {
				t.Errorf("Many(%q) is false", name)
			}
		}
	}
	for _, name := range singleNames() {
		for _, name := range cases(name) {
			if header.Many(name) {
				t.Errorf("Many(%q) is true", name)
			}
		}
	}
	eachByte(func(b string) {
		if got, want := header.Many(b), strings.Contains("kmuvKMUV", b); got != want {
			t.Errorf("Many(%q) = %v", b, got)
		}
	})
	for _, name := range []string{"", "Via ", " Via", "Via:", "Allow,", "Con tact", strings.Repeat("Via", 30)} {
		if header.Many(name) {
			t.Errorf("Many(%q) is true", name)
		}
	}
}

// P3.3
func TestList(t *testing.T) {
	for value, want := range map[string][]string{
		`a , "b,c"`:                       {"a", `"b,c"`},
		"a":                               {"a"},
		" \ta b\t ":                       {"a b"},
		"a,b,\tc ,a":                      {"a", "b", "c", "a"},
		"<a,b>;c,<,>":                     {"<a,b>;c", "<,>"},
		`"a\",b" <c>, "<" , <">`:          {`"a\",b" <c>`, `"<"`, `<">`},
		"*, *":                            {"*", "*"},
		";,=,\x00,\x80":                   {";", "=", "\x00", "\x80"},
		`""` + strings.Repeat(",x", 2000): append([]string{`""`}, slices.Repeat([]string{"x"}, 2000)...),
		strings.Repeat("y", 5000) + ",z":  {strings.Repeat("y", 5000), "z"},
	} {
		if got, e := header.List(value); !slices.Equal(got, want) || e != api.OK {
			t.Errorf("List(%q) = %q, %d; want %q", value, got, e, want)
		}
	}
	for _, c := range []errorCase{
		{"", api.ErrSyntax}, {" \t", api.ErrSyntax}, {",", api.ErrSyntax}, {"a,", api.ErrSyntax}, {"a, ", api.ErrSyntax}, {",a", api.ErrSyntax}, {" ,a", api.ErrSyntax}, {"a,,b", api.ErrSyntax}, {"a,\t ,b", api.ErrSyntax},
		{`"a`, api.ErrShort}, {`a,"`, api.ErrShort}, {`"a\`, api.ErrShort}, {"a <b", api.ErrShort}, {"<", api.ErrShort},
		{"a>", api.ErrSyntax}, {"\"a\x01\"", api.ErrSyntax}, {"\"\\\x80\"", api.ErrSyntax},
		// The value is divided as it stands: its last blank stands behind a backslash.
		{"\"a\\\t", api.ErrSyntax}, {"b,\"a\\\t", api.ErrSyntax}, {"\"a\\ ", api.ErrShort},
		// The error of Split comes before an empty piece.
		{`,,"a`, api.ErrShort}, {",<", api.ErrShort}, {`a,"b`, api.ErrShort},
	} {
		if got, e := header.List(c.value); len(got) != 0 || e != c.e {
			t.Errorf("List(%q) = %q, %d; want %d", c.value, got, e, c.e)
		}
	}
}

// P3.3 and P3.17: the elements are the pieces of lexis.Split, if none is empty, and are found again.
func TestListAll(t *testing.T) {
	check := func(value string) {
		pieces, _, want := lexis.Split(value, ',')
		var texts []string
		for _, p := range pieces {
			texts = append(texts, p.Text)
		}
		if slices.Contains(texts, "") {
			texts, want = nil, api.ErrSyntax
		}
		got, e := header.List(value)
		if !slices.Equal(got, texts) || e != want {
			t.Errorf("List(%q) = %q, %d; want %q, %d", value, got, e, texts, want)
		}
		if e != api.OK {
			return
		}
		if again, e := header.List(strings.Join(got, ", ")); !slices.Equal(again, got) || e != api.OK {
			t.Errorf("the elements of %q are read again as %q, %d", value, again, e)
		}
	}
	allTexts([]string{",", "a", " ", "\t", `"`, `\`, "<", ">"}, 5, check)
	choose := chooser(1)
	for range 20000 {
		check(choose.text([]string{",", ", ", "a", "b;c", `"x,y"`, "<d,e>", " ", "\t", `"`, "<"}, 10))
	}
}

// P3.17: the elements of a list of quoted strings and tokens are found again.
func TestListOfStrings(t *testing.T) {
	choose := chooser(2)
	for range 5000 {
		var elements []string
		for range choose.below(6) + 1 {
			element := choose.text([]string{"a", "B", "1", "-"}, 3) + "x"
			if choose.below(2) == 0 {
				element, _ = lexis.Quote(choose.text([]string{"a", ",", " ", "\t", `"`, `\`, "<", ">", "\x80"}, 6))
			}
			elements = append(elements, element)
		}
		for _, between := range []string{",", ", ", " ,\t"} {
			value := strings.Join(elements, between)
			if got, e := header.List(value); !slices.Equal(got, elements) || e != api.OK {
				t.Errorf("List(%q) = %q, %d; want %q", value, got, e, elements)
			}
		}
	}
}
