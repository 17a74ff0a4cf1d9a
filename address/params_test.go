package address_test

import (
	"regexp"
	"slices"
	"strings"
	"testing"

	"dialtone/address"
	"dialtone/api"
	"dialtone/lexis"
)

// P2.4
func TestParams(t *testing.T) {
	sixteen, list := numbered(16)
	for s, want := range map[string][]api.Param{
		"": nil, " \t ": nil,
		";tag=a1 ; lr":                       params(valued("tag", "a1"), flag("lr")),
		" ;a=1; B = \"x;y\" ;c":              params(valued("a", "1"), valued("b", "x;y"), flag("c")),
		"\t;\tA\t=\tB\t;\tc\t":               params(valued("a", "B"), flag("c")),
		";b;a;c":                             params(flag("b"), flag("a"), flag("c")),
		";-.!%*_+'~`=-.!%*_+'~`":             params(valued("-.!%*_+'~`", "-.!%*_+'~`")),
		`;a="";b`:                            params(valued("a", ""), flag("b")),
		`;a="\"\\=;"`:                        params(valued("a", `"\=;`)),
		";a=[2001:0DB8::01];b=[::]":          params(valued("a", "[2001:db8::1]"), valued("b", "[::]")),
		`;a="[::01]"`:                        params(valued("a", "[::01]")),
		";a=Example.COM":                     params(valued("a", "Example.COM")),
		";A%41=%41":                          params(valued("a%41", "%41")),
		sixteen:                              list,
		";a=\"x\ty\x80\"":                    params(valued("a", "x\ty\x80")),
		";a=" + strings.Repeat("long", 1000): params(valued("a", strings.Repeat("long", 1000))),
	} {
		if got, at, e := address.Params(s); !slices.Equal(got, want) || at != 0 || e != api.OK {
			t.Errorf("Params(%q) = %+v, %d, %d; want %+v", s, got, at, e, want)
		}
	}
}

// P2.4, error by error
func TestParamsErrors(t *testing.T) {
	sixteen, _ := numbered(16)
	for _, c := range []struct {
		s  string
		at int
		e  api.Errno
	}{
		{"a", 0, api.ErrSyntax}, {"  a", 2, api.ErrSyntax}, {"=", 0, api.ErrSyntax}, {",", 0, api.ErrSyntax}, {"\x00", 0, api.ErrSyntax}, {"\r\n;a", 0, api.ErrSyntax},
		{";", 1, api.ErrSyntax}, {"; ", 2, api.ErrSyntax}, {";;a", 1, api.ErrSyntax}, {"; =a", 2, api.ErrSyntax}, {";a;", 3, api.ErrSyntax}, {`;"a"`, 1, api.ErrSyntax}, {";\x80", 1, api.ErrSyntax},
		{";a b", 3, api.ErrSyntax}, {";a,b", 2, api.ErrSyntax}, {";a/b", 2, api.ErrSyntax}, {";a\x00", 2, api.ErrSyntax},
		{";a=", 3, api.ErrSyntax}, {";a= ", 4, api.ErrSyntax}, {";a=;b", 3, api.ErrSyntax}, {";a=,", 3, api.ErrSyntax}, {";a==b", 3, api.ErrSyntax}, {";a=]", 3, api.ErrSyntax}, {";a=\x00", 3, api.ErrSyntax},
		{";a=b c", 5, api.ErrSyntax}, {";a=b=c", 4, api.ErrSyntax}, {`;a="b"c`, 6, api.ErrSyntax}, {`;a=b"c"`, 4, api.ErrSyntax}, {";a=[::1]b", 8, api.ErrSyntax}, {";a=[::1]:5", 8, api.ErrSyntax},
		{`;a="`, 4, api.ErrShort}, {`;a="b`, 5, api.ErrShort}, {`;a = "b\`, 8, api.ErrShort}, {`;a="b\"`, 7, api.ErrShort}, {";a=\"b\x01\"", 5, api.ErrSyntax}, {";a=\"\\\t\"", 4, api.ErrSyntax},
		{";a=[", 3, api.ErrSyntax}, {";a=[::1", 3, api.ErrSyntax}, {";a= []", 4, api.ErrSyntax}, {";a=[1:2]", 3, api.ErrSyntax}, {";a=[::1;b]", 3, api.ErrSyntax}, {";a=[[::1]", 3, api.ErrSyntax}, {";a=[ ::1]", 3, api.ErrSyntax},
		{";a=1;A", 5, api.ErrDuplicate}, {";a;b; a", 6, api.ErrDuplicate}, {";a;A=[]", 5, api.ErrSyntax}, {";a;A=1 x", 3, api.ErrDuplicate}, {";a;a,", 3, api.ErrDuplicate},
		{sixteen + "; q", 50, api.ErrLimit}, {sixteen + ";pa", 49, api.ErrDuplicate}, {sixteen + ";q=", 51, api.ErrSyntax}, {sixteen + ";q;;", 49, api.ErrLimit},
	} {
		if got, at, e := address.Params(c.s); len(got) != 0 || at != c.at || e != c.e {
			t.Errorf("Params(%q) = %+v, %d, %d; want %d, %d", c.s, got, at, e, c.at, c.e)
		}
	}
}

var (
	listForm  = regexp.MustCompile("^([ \t]*;[ \t]*" + tokenForm + "([ \t]*=[ \t]*" + valueForm + ")?)*[ \t]*$")
	paramForm = regexp.MustCompile("^[ \t]*;[ \t]*(" + tokenForm + ")([ \t]*=[ \t]*(" + valueForm + "))?")
)

const (
	tokenForm = "[-A-Za-z0-9.!%*_+'~`]+"
	valueForm = "(?:" + tokenForm + `|"(?:[^"\\\x00-\x08\x0a-\x1f\x7f]|\\[ -~])*"|\[[0-9A-Fa-f:]+\])`
)

// listed follows the definition of a parameter list.
func listed(s string) ([]api.Param, bool) {
	if !listForm.MatchString(s) {
		return nil, false
	}
	var l []api.Param
	for m := paramForm.FindStringSubmatch(s); m != nil; m = paramForm.FindStringSubmatch(s) {
		p := api.Param{Name: lowered(m[1]), Value: m[3], Has: m[2] != ""}
		ok := true
		switch {
		case strings.HasPrefix(p.Value, `"`):
			p.Value = regexp.MustCompile(`\\(.)`).ReplaceAllString(p.Value[1:len(p.Value)-1], "$1")
		case strings.HasPrefix(p.Value, "["):
			p.Value, ok = address.Host(p.Value)
		}
		if _, twice := address.Get(l, p.Name); !ok || twice || len(l) == 16 {
			return nil, false
		}
		l = append(l, p)
		s = s[len(m[0]):]
	}
	return l, true
}

// P2.4 against the definition, and P2.14: Params of what PrintParams returns are the parameters.
func TestParamsAll(t *testing.T) {
	check := func(s string) {
		want, ok := listed(s)
		l, at, e := address.Params(s)
		if !slices.Equal(l, want) || ok != (e == api.OK) || at < 0 || at > len(s) || ok && at != 0 {
			t.Errorf("Params(%q) = %+v, %d, %d; want %+v", s, l, at, e, want)
		}
		if e != api.OK {
			return
		}
		printed, e := address.PrintParams(l)
		again, _, f := address.Params(printed)
		if e != api.OK || f != api.OK || !slices.Equal(again, l) {
			t.Errorf("the parameters of %q are printed as %q, %d, and read as %+v, %d", s, printed, e, again, f)
		}
	}
	allTexts([]string{";", "a", "B", "=", `"`, `\`, " "}, 6, check)
	choose := chooser(1)
	for range 20000 {
		check(choose.text([]string{";", ";", ";a", ";b", "; c", ";D", "=", "=1", `="x"`, " = ", "[::0A]", `"\"y"`, "\t", "e"}, 12))
	}
	for range 2000 {
		n := choose.below(4) + 14
		s := ""
		for range n {
			s += ";" + string(rune('a'+choose.below(26))) + string(rune('A'+choose.below(26)))
		}
		check(s)
	}
}

// P2.5
func TestPrintParams(t *testing.T) {
	sixteen, list := numbered(16)
	for _, c := range []struct {
		l    []api.Param
		want string
	}{
		{nil, ""}, {params(), ""},
		{params(valued("tag", "a b")), `;tag="a b"`},
		{params(valued("tag", "a1"), flag("lr")), ";tag=a1;lr"},
		{params(flag("b"), flag("a")), ";b;a"},
		{params(valued("a", "")), `;a=""`},
		{params(valued("a", `x"\`)), `;a="x\"\\"`},
		{params(valued("a", "x\ty\x80")), ";a=\"x\ty\x80\""},
		{params(valued("a", "-.!%*_+'~`")), ";a=-.!%*_+'~`"},
		{params(valued("-.!%*_+'~`", "Ab")), ";-.!%*_+'~`=Ab"},
		{params(valued("a", "[::1]"), valued("b", "[2001:db8::]")), ";a=[::1];b=[2001:db8::]"},
		{params(valued("a", "[::01]"), valued("b", "[::A]"), valued("c", "[::1"), valued("d", "[]")), `;a="[::01]";b="[::A]";c="[::1";d="[]"`},
		{params(valued("a", "Example.COM"), valued("b", "10.0.0.1")), ";a=Example.COM;b=10.0.0.1"},
		{params(valued("a", ";=,<>")), `;a=";=,<>"`},
		{list, sixteen},
	} {
		if got, e := address.PrintParams(c.l); got != c.want || e != api.OK {
			t.Errorf("PrintParams(%+v) = %q, %d; want %q", c.l, got, e, c.want)
		}
	}
	_, seventeen := numbered(17)
	for _, l := range [][]api.Param{
		params(flag("")), params(flag("A")), params(flag("aB")), params(flag("a b")), params(flag("a;")), params(flag("a=1")), params(flag("\u00e9")), params(valued("", "1")),
		params(flag("a"), flag("a")), params(flag("a"), flag("b"), valued("a", "1")),
		params(valued("a", "\x00")), params(valued("a", "x\r\n")), params(valued("a", "\x7f")), params(flag("b"), valued("a", "x\x1f")),
		params(api.Param{Name: "a", Value: "1"}), params(flag("b"), api.Param{Name: "a", Value: " "}),
		seventeen,
	} {
		if got, e := address.PrintParams(l); got != "" || e != api.ErrArg {
			t.Errorf("PrintParams(%+v) = %q, %d", l, got, e)
		}
	}
}

// P2.5: each byte as a name and as a value
func TestPrintParamsBytes(t *testing.T) {
	for c := range 256 {
		b := string([]byte{byte(c)})
		want := ";x" + b
		wantError := api.OK
		if !lexis.Token(b) || lowered(b) != b {
			want, wantError = "", api.ErrArg
		}
		if got, e := address.PrintParams(params(flag("x" + b))); got != want || e != wantError {
			t.Errorf("PrintParams of the name %q = %q, %d", "x"+b, got, e)
		}
		want, wantError = ";x="+b, api.OK
		if !lexis.Token(b) {
			want = `;x="` + strings.NewReplacer(`"`, `\"`, `\`, `\\`).Replace(b) + `"`
		}
		if isControl(byte(c)) {
			want, wantError = "", api.ErrArg
		}
		if got, e := address.PrintParams(params(valued("x", b))); got != want || e != wantError {
			t.Errorf("PrintParams of the value %q = %q, %d", b, got, e)
		}
	}
}

// P2.6
func TestGet(t *testing.T) {
	l := params(valued("Tag", "1"), flag("lr"), valued("tAG", "2"), valued("\u00c9", "3"), api.Param{Name: "odd", Value: "4"}, valued("", "5"))
	for _, c := range []struct {
		name, want string
		ok         bool
	}{
		{"tag", "1", true}, {"TAG", "1", true}, {"LR", "", true}, {"lr", "", true}, {"ODD", "4", true}, {"", "5", true}, {"\u00c9", "3", true},
		{"ta", "", false}, {"tags", "", false}, {"\u00e9", "", false}, {"tag ", "", false},
	} {
		if got, ok := address.Get(l, c.name); got != c.want || ok != c.ok {
			t.Errorf("Get(%q) = %q, %v; want %q, %v", c.name, got, ok, c.want, c.ok)
		}
	}
	if got, ok := address.Get(nil, ""); got != "" || ok {
		t.Errorf("Get of nothing = %q, %v", got, ok)
	}
}

// P2.7
func TestSet(t *testing.T) {
	for _, c := range []struct {
		l           []api.Param
		name, value string
		want        []api.Param
	}{
		{nil, "A", "1", params(valued("a", "1"))},
		{nil, "\u00c9Z", "", params(valued("\u00c9z", ""))},
		{params(flag("b"), flag("A")), "a", "1", params(flag("b"), valued("A", "1"))},
		{params(valued("a", "1"), valued("a", "2")), "A", "", params(valued("a", ""), valued("a", "2"))},
		{params(flag("b"), flag("c")), "a", "\x00", params(flag("b"), flag("c"), valued("a", "\x00"))},
	} {
		before := slices.Clone(c.l)
		got := address.Set(c.l, c.name, c.value)
		if !slices.Equal(got, c.want) {
			t.Errorf("Set(%+v, %q, %q) = %+v; want %+v", before, c.name, c.value, got, c.want)
		}
		got[0] = flag("changed")
		if !slices.Equal(c.l, before) {
			t.Errorf("Set changed %+v to %+v", before, c.l)
		}
	}
	room := make([]api.Param, 1, 4)
	first := address.Set(room, "x", "1")
	second := address.Set(room, "y", "2")
	if first[1].Name != "x" || second[1].Name != "y" || room[:2][1].Name != "" {
		t.Errorf("two calls of Set share memory: %+v, %+v, %+v", first, second, room[:2])
	}
}
