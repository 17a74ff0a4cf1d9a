package header_test

import (
	"regexp"
	"slices"
	"strconv"
	"strings"
	"testing"

	"dialtone/address"
	"dialtone/api"
	"dialtone/header"
	"dialtone/lexis"
)

// P3.4
func TestVia(t *testing.T) {
	sixteen, list := numbered(16)
	for value, want := range map[string]api.Via{
		"SIP/2.0/UDP h":                      {Transport: "UDP", Host: "h"},
		" \tSIP/2.0/UDP h\t ":                {Transport: "UDP", Host: "h"},
		"sip/2.0/udp \t H.Example":           {Transport: "UDP", Host: "h.example"},
		"sIp/2.0/tLs\t10.0.0.1:5061":         {Transport: "TLS", Host: "10.0.0.1", Port: 5061},
		"SIP/2.0/-.!%*_+'~`az09 h":           {Transport: "-.!%*_+'~`AZ09", Host: "h"},
		"SIP/2.0/UDP [2001:0DB8::01]":        {Transport: "UDP", Host: "[2001:db8::1]"},
		"SIP/2.0/UDP [::A]:1":                {Transport: "UDP", Host: "[::a]", Port: 1},
		"SIP/2.0/UDP [::]:65535;x":           {Transport: "UDP", Host: "[::]", Port: 65535, Params: params(flag("x"))},
		"SIP/2.0/UDP h:0000005060":           {Transport: "UDP", Host: "h", Port: 5060},
		"SIP/2.0/UDP h:5060 \t; x":           {Transport: "UDP", Host: "h", Port: 5060, Params: params(flag("x"))},
		"SIP/2.0/UDP h\t;x":                  {Transport: "UDP", Host: "h", Params: params(flag("x"))},
		"SIP/2.0/UDP h;x=\"a:1]\"":           {Transport: "UDP", Host: "h", Params: params(valued("x", "a:1]"))},
		"SIP/2.0/UDP h;received=[::01]":      {Transport: "UDP", Host: "h", Params: params(valued("received", "[::1]"))},
		"SIP/2.0/UDP h;Branch=z9":            {Transport: "UDP", Host: "h", Branch: "z9", Params: params(valued("branch", "z9"))},
		"SIP/2.0/UDP h;ttl=1 ; BRANCH = Z;a": {Transport: "UDP", Host: "h", Branch: "Z", Params: params(valued("ttl", "1"), valued("branch", "Z"), flag("a"))},
		`SIP/2.0/UDP h;branch="a \"b";RPORT`: {Transport: "UDP", Host: "h", Branch: `a "b`, Params: params(valued("branch", `a "b`), flag("rport"))},
		"SIP/2.0/UDP h;branch":               {Transport: "UDP", Host: "h", Params: params(flag("branch"))},
		`SIP/2.0/UDP h;branch=""`:            {Transport: "UDP", Host: "h", Params: params(valued("branch", ""))},
		"SIP/2.0/UDP h;branches=1;xbranch=2": {Transport: "UDP", Host: "h", Params: params(valued("branches", "1"), valued("xbranch", "2"))},
		"SIP/2.0/UDP h" + sixteen:            {Transport: "UDP", Host: "h", Params: list},
		"SIP/2.0/UDP" + strings.Repeat(" ", 3000) + "h" + strings.Repeat(" ", 3000): {Transport: "UDP", Host: "h"},
	} {
		if got, e := header.Via(value); !sameVia(got, want) || e != api.OK {
			t.Errorf("Via(%q) = %+v, %d; want %+v", value, got, e, want)
		}
	}
}

// P3.4, error by error
func TestViaErrors(t *testing.T) {
	sixteen, _ := numbered(16)
	for _, c := range []errorCase{
		{"", api.ErrSyntax}, {" ", api.ErrSyntax}, {"SIP", api.ErrSyntax}, {"SIP/2.0/", api.ErrSyntax}, {"SIP/2.0/ h", api.ErrSyntax}, {"SIP/2.0/  h:5", api.ErrSyntax}, {"SIP/2.0/UDP", api.ErrSyntax}, {"SIP/2.0/UDP \t", api.ErrSyntax},
		{"SIP/2.1/UDP h", api.ErrSyntax}, {"SIP/2.0UDP h", api.ErrSyntax}, {"SIP /2.0/UDP h", api.ErrSyntax}, {"SIP/2.0 /UDP h", api.ErrSyntax}, {"SIPS/2.0/UDP h", api.ErrSyntax}, {"UDP h", api.ErrSyntax}, {"xSIP/2.0/UDP h", api.ErrSyntax}, {"\u017fIP/2.0/UDP h", api.ErrSyntax},
		{"SIP/2.0/UDP/x h", api.ErrSyntax}, {"SIP/2.0/UDP;x h", api.ErrSyntax}, {"SIP/2.0/UDP;x", api.ErrSyntax}, {"SIP/2.0/\"UDP\" h", api.ErrSyntax}, {"SIP/2.0/U\u00e9 h", api.ErrSyntax}, {"SIP/2.0/UDP\r\n h", api.ErrSyntax}, {"SIP/2.0/UDP\x00h", api.ErrSyntax}, {"SIP/2.0/UDP[::1]", api.ErrSyntax},

		{"SIP/2.0/UDP ;x", api.ErrSyntax}, {"SIP/2.0/UDP :5060", api.ErrSyntax}, {"SIP/2.0/UDP a..b", api.ErrSyntax}, {"SIP/2.0/UDP a_b", api.ErrSyntax}, {"SIP/2.0/UDP 1.2.3", api.ErrSyntax}, {"SIP/2.0/UDP h,i", api.ErrSyntax}, {"SIP/2.0/UDP <h>", api.ErrSyntax},
		{"SIP/2.0/UDP [::1", api.ErrSyntax}, {"SIP/2.0/UDP ::1]", api.ErrSyntax}, {"SIP/2.0/UDP [1::2::3]", api.ErrSyntax}, {"SIP/2.0/UDP [::1]x", api.ErrSyntax}, {"SIP/2.0/UDP [::1]x:5", api.ErrSyntax}, {"SIP/2.0/UDP [h]:5", api.ErrSyntax}, {"SIP/2.0/UDP h:[::1]", api.ErrSyntax}, {"SIP/2.0/UDP [::1]:[::1]", api.ErrSyntax}, {"SIP/2.0/UDP ::1", api.ErrSyntax},
		{"SIP/2.0/UDP a:1:5", api.ErrSyntax}, {"SIP/2.0/UDP a:0:0", api.ErrSyntax}, {"SIP/2.0/UDP [::1]:1:5", api.ErrSyntax}, {"SIP/2.0/UDP a..b:0", api.ErrSyntax}, {"SIP/2.0/UDP :0", api.ErrSyntax}, {"SIP/2.0/UDP a_b:65536;x;x", api.ErrSyntax}, {"SIP/2.0/UDP a_b;x;x", api.ErrSyntax}, {`SIP/2.0/UDP a_b;x="`, api.ErrSyntax},

		{"SIP/2.0/UDP h:", api.ErrSyntax}, {"SIP/2.0/UDP h: 5060", api.ErrSyntax}, {"SIP/2.0/UDP h :5060", api.ErrSyntax}, {"SIP/2.0/UDP h:x", api.ErrSyntax}, {"SIP/2.0/UDP h:-1", api.ErrSyntax}, {"SIP/2.0/UDP h:+1", api.ErrSyntax}, {"SIP/2.0/UDP h:5a", api.ErrSyntax}, {"SIP/2.0/UDP h:5]", api.ErrSyntax}, {"SIP/2.0/UDP h:00000005060", api.ErrSyntax}, {"SIP/2.0/UDP h:99999999999", api.ErrSyntax},
		{"SIP/2.0/UDP h:0", api.ErrRange}, {"SIP/2.0/UDP h:65536", api.ErrRange}, {"SIP/2.0/UDP h:2147483647", api.ErrRange}, {"SIP/2.0/UDP h:2147483648", api.ErrRange}, {"SIP/2.0/UDP [::1]:0", api.ErrRange}, {"SIP/2.0/UDP h:0000000000", api.ErrRange},
		{"SIP/2.0/UDP h:0;x;x", api.ErrRange}, {"SIP/2.0/UDP h:65536 x", api.ErrRange}, {`SIP/2.0/UDP h:0;x="`, api.ErrRange}, {`SIP/2.0/UDP h:;x="`, api.ErrSyntax}, {"SIP/2.0/UDP h:x;x;x", api.ErrSyntax},

		{"SIP/2.0/UDP h x", api.ErrSyntax}, {"SIP/2.0/UDP h;", api.ErrSyntax}, {"SIP/2.0/UDP h;=1", api.ErrSyntax}, {"SIP/2.0/UDP h;x=", api.ErrSyntax}, {"SIP/2.0/UDP h;x=[1]", api.ErrSyntax}, {"SIP/2.0/UDP h;x=a:1", api.ErrSyntax}, {"SIP/2.0/UDP h;branch=z9,SIP/2.0/UDP i", api.ErrSyntax},
		{`SIP/2.0/UDP h;x="`, api.ErrShort}, {`SIP/2.0/UDP h;x="\`, api.ErrShort}, {"SIP/2.0/UDP h;x=\"\x01\"", api.ErrSyntax}, {"SIP/2.0/UDP h;x;X", api.ErrDuplicate}, {"SIP/2.0/UDP h;branch=1;x;Branch=1", api.ErrDuplicate}, {"SIP/2.0/UDP h" + sixteen + ";branch=1", api.ErrLimit},
		// The blanks at the end are skipped first, also one behind a backslash.
		{"SIP/2.0/UDP h;x=\"\\\t", api.ErrShort},
	} {
		if got, e := header.Via(c.value); !sameVia(got, api.Via{}) || e != c.e {
			t.Errorf("Via(%q) = %+v, %d; want %d", c.value, got, e, c.e)
		}
	}
}

// P3.4: every byte in the transport, in place of the blank, and behind the host
func TestViaBytes(t *testing.T) {
	check := func(value string, want api.Via, ok bool) {
		wantError := api.OK
		if !ok {
			want, wantError = api.Via{}, api.ErrSyntax
		}
		if got, e := header.Via(value); !sameVia(got, want) || e != wantError {
			t.Errorf("Via(%q) = %+v, %d; want %+v", value, got, e, want)
		}
	}
	eachByte(func(b string) {
		blank := b == " " || b == "\t"
		upper := b
		if b >= "a" && b <= "z" {
			upper = string([]byte{b[0] - 32})
		}
		if blank {
			upper = ""
		}
		check("SIP/2.0/u"+b+" h", api.Via{Transport: "U" + upper, Host: "h"}, blank || lexis.Token(b))
		check("SIP/2.0/udp"+b+"1-h", api.Via{Transport: "UDP", Host: "1-h"}, blank)
		host, ok := address.Host("h" + b)
		if blank {
			host, ok = "h", true
		}
		check("SIP/2.0/udp h"+b, api.Via{Transport: "UDP", Host: host}, ok)
	})
}

var viaForm = regexp.MustCompile("^[ \t]*(?i:SIP)/2\\.0/(" + tokenForm + ")[ \t]+([-A-Za-z0-9.]+|\\[[^\\]]*\\])(?::([0-9]{1,10}))?([ \t;](?s:.*))?$")

// readVia follows the definition of a value of Via.
func readVia(value string) (api.Via, bool) {
	m := viaForm.FindStringSubmatch(value)
	if m == nil {
		return api.Via{}, false
	}
	host, ok := address.Host(m[2])
	port, _ := strconv.Atoi(m[3])
	l, _, e := address.Params(m[4])
	if !ok || e != api.OK || m[3] != "" && (port < 1 || port > 65535) {
		return api.Via{}, false
	}
	v := api.Via{Transport: strings.ToUpper(m[1]), Host: host, Port: port, Params: l}
	for _, p := range l {
		if p.Name == "branch" {
			v.Branch = p.Value
		}
	}
	return v, true
}

// P3.4 against the definition, and P3.17: what was read is printed, and read as the same.
func TestViaAll(t *testing.T) {
	choose := chooser(1)
	parts := []string{"SIP/2.0/", "sip/2.0/", "udp", "TCP", " ", " ", "\t", "h", "H.i", "[::A]", "[::1", ":", ":5060", ":0", ":65536", ";x", ";a=1", ";branch=z", ";Branch", `;b="c;d"`, "; y", ";", "=", "]", ","}
	read := 0
	for i := range 60000 {
		value := choose.text(parts, 10)
		if i%3 > 0 {
			value = "SIP/2.0/UDP h" + choose.text(parts[4:], 6)
		}
		want, ok := readVia(value)
		v, e := header.Via(value)
		if !sameVia(v, want) || ok != (e == api.OK) {
			t.Errorf("Via(%q) = %+v, %d; want %+v, %v", value, v, e, want, ok)
		}
		if e != api.OK {
			continue
		}
		read++
		printed, e := header.PrintVia(v)
		again, f := header.Via(printed)
		want.Params = byName(want.Params)
		if want.Branch == "" {
			want.Params = slices.DeleteFunc(want.Params, func(p api.Param) bool { return p.Name == "branch" })
		}
		if !sameVia(again, want) || e != api.OK || f != api.OK {
			t.Errorf("Via(%q) is printed as %q, %d, and read as %+v, %d", value, printed, e, again, f)
		}
	}
	if read < 1000 {
		t.Errorf("only %d values were read", read)
	}
}

// P3.5
func TestPrintVia(t *testing.T) {
	sixteen, list := numbered(16)
	for _, c := range []struct {
		v    api.Via
		want string
	}{
		{api.Via{Transport: "udp", Host: "H", Port: 5060, Branch: "z9"}, "SIP/2.0/UDP h:5060;branch=z9"},
		{api.Via{Transport: "UDP", Host: "h"}, "SIP/2.0/UDP h"},
		{api.Via{Transport: "a-.!%*_+'~`Z9", Host: "10.0.0.1", Port: 1}, "SIP/2.0/A-.!%*_+'~`Z9 10.0.0.1:1"},
		{api.Via{Transport: "tls", Host: "[2001:0DB8::01]", Port: 65535}, "SIP/2.0/TLS [2001:db8::1]:65535"},
		{api.Via{Transport: "u", Host: "h", Params: params(valued("ttl", "1"), flag("rport"), valued("a", "x y"))}, `SIP/2.0/U h;a="x y";rport;ttl=1`},
		{api.Via{Transport: "u", Host: "h", Branch: "new", Params: params(valued("ttl", "1"), valued("branch", "old"), flag("a"))}, "SIP/2.0/U h;a;branch=new;ttl=1"},
		{api.Via{Transport: "u", Host: "h", Branch: "B", Params: params(flag("c"), flag("branches"), flag("bran"), flag("a"))}, "SIP/2.0/U h;a;bran;branch=B;branches;c"},
		{api.Via{Transport: "u", Host: "h", Params: params(flag("x"), valued("branch", "old"), flag("a"))}, "SIP/2.0/U h;a;x"},
		{api.Via{Transport: "u", Host: "h", Branch: "b", Params: params(valued("branch", "1"), valued("branch", "2"), api.Param{Name: "branch", Value: "\x00"})}, "SIP/2.0/U h;branch=b"},
		{api.Via{Transport: "u", Host: "h", Branch: `a "b\`}, `SIP/2.0/U h;branch="a \"b\\"`},
		{api.Via{Transport: "u", Host: "h", Branch: "\t\x80"}, "SIP/2.0/U h;branch=\"\t\x80\""},
		{api.Via{Transport: "u", Host: "h", Branch: "[::1]", Params: params(valued("received", "[::1]"), valued("empty", ""))}, `SIP/2.0/U h;branch=[::1];empty="";received=[::1]`},
		{api.Via{Transport: "u", Host: "h", Params: list}, "SIP/2.0/U h" + sixteen},
		{api.Via{Transport: "u", Host: "h", Params: append(params(valued("branch", "1")), list...)}, "SIP/2.0/U h" + sixteen},
		{api.Via{Transport: "u", Host: "h", Branch: "2", Params: append(params(valued("branch", "1")), list[1:]...)}, "SIP/2.0/U h;branch=2" + sixteen[3:]},
	} {
		before := slices.Clone(c.v.Params)
		if got, e := header.PrintVia(c.v); got != c.want || e != api.OK {
			t.Errorf("PrintVia(%+v) = %q, %d; want %q", c.v, got, e, c.want)
		}
		if !slices.Equal(c.v.Params, before) {
			t.Errorf("PrintVia changed %+v to %+v", before, c.v.Params)
		}
	}
}

// P3.5, invalid parts
func TestPrintViaErrors(t *testing.T) {
	_, list := numbered(16)
	_, more := numbered(17)
	for _, v := range []api.Via{
		{}, {Host: "h"}, {Transport: "", Host: "h"}, {Transport: "u d", Host: "h"}, {Transport: "udp ", Host: "h"}, {Transport: "u/d", Host: "h"}, {Transport: "\u00e9", Host: "h"}, {Transport: "SIP/2.0/UDP", Host: "h"},
		{Transport: "u"}, {Transport: "u", Host: "a..b"}, {Transport: "u", Host: " h"}, {Transport: "u", Host: "h "}, {Transport: "u", Host: "h:1"}, {Transport: "u", Host: "h;x"}, {Transport: "u", Host: "[::1"}, {Transport: "u", Host: "1.2.3"},
		{Transport: "u", Host: "h", Port: -1}, {Transport: "u", Host: "h", Port: 65536}, {Transport: "u", Host: "h", Port: -1 << 62}, {Transport: "u", Host: "h", Port: 1 << 62},
		{Transport: "u", Host: "h", Branch: "\x00"}, {Transport: "u", Host: "h", Branch: "a\r\n"}, {Transport: "u", Host: "h", Branch: "\x7f"},
		{Transport: "u", Host: "h", Params: params(valued("Branch", "1"))}, {Transport: "u", Host: "h", Branch: "1", Params: params(valued("BRANCH", "1"))}, {Transport: "u", Host: "h", Params: params(flag("X"))}, {Transport: "u", Host: "h", Params: params(flag(""))}, {Transport: "u", Host: "h", Params: params(flag("a b"))},
		{Transport: "u", Host: "h", Params: params(flag("x"), flag("a"), valued("x", "1"))}, {Transport: "u", Host: "h", Params: params(valued("x", "\x1f"))}, {Transport: "u", Host: "h", Params: params(api.Param{Name: "x", Value: "1"})},
		{Transport: "u", Host: "h", Params: more}, {Transport: "u", Host: "h", Branch: "b", Params: list},
	} {
		if got, e := header.PrintVia(v); got != "" || e != api.ErrArg {
			t.Errorf("PrintVia(%+v) = %q, %d", v, got, e)
		}
	}
}

// P3.17: Via of what PrintVia returns has the same parts in normal form.
func TestPrintViaAgain(t *testing.T) {
	choose := chooser(3)
	pick := func(l ...string) string { return l[choose.below(len(l))] }
	for range 20000 {
		v := api.Via{
			Transport: pick("udp", "TCP", "Tls-x", "u", "a/b", ""),
			Host:      pick("h", "Example.COM", "10.0.0.1", "[::0A]", "[::]", "a..b"),
			Port:      []int{0, 0, 1, 5060, 65535, 65536, -1}[choose.below(7)],
			Branch:    pick("", "z9", "a b", `"\`, "[::1]", "[::01]", "\t", ";,=", "\x01"),
		}
		for range choose.below(4) {
			v.Params = append(v.Params, valued(pick("a", "b", "x-y", "branch", "ttl", "z"), pick("", "1", " ", "[::]", "A;b")))
		}
		printed, e := header.PrintVia(v)
		if e != api.OK {
			continue
		}
		want := api.Via{Transport: strings.ToUpper(v.Transport), Port: v.Port, Branch: v.Branch}
		want.Host, _ = address.Host(v.Host)
		want.Params = slices.DeleteFunc(slices.Clone(v.Params), func(p api.Param) bool { return p.Name == "branch" })
		if v.Branch != "" {
			want.Params = append(want.Params, valued("branch", v.Branch))
		}
		want.Params = byName(want.Params)
		if got, e := header.Via(printed); !sameVia(got, want) || e != api.OK {
			t.Errorf("%+v is printed as %q, and read as %+v, %d", v, printed, got, e)
		}
		if tidy, e := header.Tidy("Via", printed); tidy != printed || e != api.OK {
			t.Errorf("Tidy changes %q to %q, %d", printed, tidy, e)
		}
	}
}

// The document's rules: results are new memory.
func TestViaIsNew(t *testing.T) {
	value := "SIP/2.0/UDP h;x;y"
	first, _ := header.Via(value)
	first.Params[0].Name = "changed"
	if second, _ := header.Via(value); second.Params[0].Name != "x" {
		t.Errorf("two calls of Via share memory: %+v", second)
	}
}
