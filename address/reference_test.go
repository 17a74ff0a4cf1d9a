package address_test

import (
	"regexp"
	"slices"
	"strconv"
	"strings"
	"testing"

	"dialtone/address"
	"dialtone/api"
)

// The grammar of address texts. An escape for a control character is left out by escapeForm.
const (
	escapeForm = `%(?:[2-6][0-9A-Fa-f]|7[0-9A-Ea-e]|[89A-Fa-f][0-9A-Fa-f]|09)`
	userForm   = `(?:[-A-Za-z0-9_.!~*'()&=+$,;?/]|` + escapeForm + `)+`
	paramWord  = `(?:[-A-Za-z0-9_.!~*'()\[\]/:&+$]|` + escapeForm + `)+`
	headWord   = `(?:[-A-Za-z0-9_.!~*'()\[\]/?:+$]|` + escapeForm + `)`
	pairsForm  = `((?:;` + paramWord + `(?:=` + paramWord + `)?)*)`
	headForm   = headWord + `+=` + headWord + `*`
)

var (
	sipForm = regexp.MustCompile(`^((?i:sips?)):(?:(` + userForm + `)@)?(\[[^\]]*\]|[^:;?\[]*)(?::([0-9]{1,10}))?` + pairsForm + `(?:\?(` + headForm + `(?:&` + headForm + `)*))?$`)
	telForm = regexp.MustCompile(`^(?i:tel):(\+[-.()0-9]*|[-.()0-9*#]*)` + pairsForm + `$`)
)

// unescaped is the content of a text of a class.
func unescaped(s string) string {
	return regexp.MustCompile(`%..`).ReplaceAllStringFunc(s, func(e string) string {
		n, _ := strconv.ParseUint(e[1:], 16, 8)
		return string([]byte{byte(n)})
	})
}

// cutPairs divides what the grammar takes for parameters or heads.
func cutPairs(s, between string) ([]api.Param, bool) {
	if s == "" {
		return nil, true
	}
	byName := map[string]api.Param{}
	parts := strings.Split(s, between)
	for _, part := range parts {
		name, value, has := strings.Cut(part, "=")
		p := api.Param{Name: lowered(unescaped(name)), Value: unescaped(value), Has: has}
		byName[p.Name] = p
	}
	var l []api.Param
	for _, p := range byName {
		l = append(l, p)
	}
	slices.SortFunc(l, func(a, b api.Param) int { return strings.Compare(a.Name, b.Name) })
	return l, len(l) == len(parts) && len(l) <= 16
}

// parsed follows the definition of address texts.
func parsed(s string) (api.URI, bool) {
	if m := telForm.FindStringSubmatch(s); m != nil {
		number := strings.NewReplacer("-", "", ".", "", "(", "", ")", "").Replace(m[1])
		l, ok := cutPairs(strings.TrimPrefix(m[2], ";"), ";")
		n := len(strings.TrimPrefix(number, "+"))
		return api.URI{Scheme: "tel", User: number, Params: l}, ok && n >= 1 && n <= 30
	}
	m := sipForm.FindStringSubmatch(s)
	if m == nil {
		return api.URI{}, false
	}
	host, okHost := address.Host(m[3])
	port, _ := strconv.Atoi(m[4])
	l, okParams := cutPairs(strings.TrimPrefix(m[5], ";"), ";")
	h, okHeads := cutPairs(m[6], "&")
	okPort := m[4] == "" || port >= 1 && port <= 65535
	u := api.URI{Scheme: lowered(m[1]), User: unescaped(m[2]), Host: host, Port: port, Params: l, Heads: h}
	return u, okHost && okPort && okParams && okHeads
}

// checkURI compares Parse with the definition, and checks P2.14 for what it returns.
func checkURI(t *testing.T, s string) {
	t.Helper()
	want, ok := parsed(s)
	u, at, e := address.Parse(s)
	if ok != (e == api.OK) || ok && (!sameURI(u, want) || at != 0) || !ok && !sameURI(u, api.URI{}) || at < 0 || at > len(s) {
		t.Errorf("Parse(%q) = %+v, %d, %d; want %+v, %v", s, u, at, e, want, ok)
		return
	}
	if !ok {
		return
	}
	if n, e := address.Normal(u); !sameURI(n, u) || e != api.OK {
		t.Errorf("Normal changes the normal form of %q: %+v, %d", s, n, e)
	}
	printed, e := address.Print(u)
	again, _, f := address.Parse(printed)
	twice, g := address.Print(again)
	if e != api.OK || f != api.OK || g != api.OK || !sameURI(again, u) || twice != printed || !address.Equal(again, u) {
		t.Errorf("%q is printed as %q, %d, and read as %+v, %d", s, printed, e, again, f)
	}
}

// P2.8 against the definition, and P2.14
func TestParseAll(t *testing.T) {
	check := func(s string) { checkURI(t, s) }
	allTexts([]string{"@", ":", ";", "?", "=", "a"}, 6, func(s string) { check("sip:" + s) })
	allTexts([]string{"&", ";", "?", "=", "X", "%41"}, 5, func(s string) { check("sips:h" + s) })
	allTexts([]string{"&", "=", "x", "%58", "%"}, 6, func(s string) { check("SIP:u@h?" + s) })
	allTexts([]string{"+", "-", "1", "*", ";", "a", "="}, 5, func(s string) { check("Tel:" + s) })
	allTexts([]string{"[", "]", ":", "1", "::", "@"}, 5, func(s string) { check("sip:" + s) })
}

// uriParts contains what address texts consist of, and what they do not.
func uriParts() []string {
	return []string{
		"sip:", "sips:", "tel:", "u@", "%40@", "h", "Example.com", "10.0.0.1", "[::A]", ":5060", ":0", ":65536", ";x", ";y=1", ";%5A=%00", ";z=%09", ";X=[;",
		"?", "?a=", "?b=1", "&c=2", "&A=3", "&", ";", "=", "+", "1", "-(2)", "*#", "%7F", "%80", "\x80", " ", "@", ":", "<", ">", "\"",
	}
}

// P2.8 against the definition, and P2.14, for longer texts
func TestParseMany(t *testing.T) {
	choose := chooser(1)
	beginnings := []string{"sip:h", "sip:u@h", "SIPS:[::0]:1", "tel:+1", "tel:1", "sip:", "Tel:", ""}
	for range 30000 {
		checkURI(t, beginnings[choose.below(len(beginnings))]+choose.text(uriParts(), 8))
	}
	for range 2000 {
		s := "sip:h"
		for range 13 + choose.below(5) {
			s += ";" + string(rune('a'+choose.below(26))) + strconv.Itoa(choose.below(30))
		}
		mark := "?"
		for range choose.below(19) {
			s += mark + string(rune('A'+choose.below(26))) + strconv.Itoa(choose.below(30)) + "="
			mark = "&"
		}
		checkURI(t, s)
	}
	for n := range 70 {
		checkURI(t, "tel:+"+strings.Repeat("1", n))
		checkURI(t, "tel:"+strings.Repeat("#", n))
		checkURI(t, "tel:"+strings.Repeat("2-", n))
	}
}

var (
	bracketForm = regexp.MustCompile("^[ \t]*(" + displayForm + "[ \t]*)?<([^>]*)>([^\x00]*)$")
	bareForm    = regexp.MustCompile("^[ \t]*([^\"<;?, \t][^<;?, \t]*)([; \t][^<]*)?$")
)

const displayForm = `(?:"(?:[^"\\\x00-\x08\x0a-\x1f\x7f]|\\[ -~])*"|` + tokenForm + "(?:[ \t]+" + tokenForm + ")*)"

// addressed follows the definition of an address.
func addressed(s string) (api.Address, bool) {
	display, inside, rest := "", "", ""
	if m := bracketForm.FindStringSubmatch(s); m != nil {
		display, inside, rest = strings.Trim(m[1], " \t"), m[2], m[3]
	} else if m := bareForm.FindStringSubmatch(s); m != nil {
		inside, rest = m[1], m[2]
	} else {
		return api.Address{}, false
	}
	if strings.HasPrefix(display, `"`) {
		display = regexp.MustCompile(`\\(.)`).ReplaceAllString(display[1:len(display)-1], "$1")
	} else {
		display = regexp.MustCompile("[ \t]+").ReplaceAllString(display, " ")
	}
	u, okURI := parsed(inside)
	l, okList := listed(rest)
	return api.Address{Display: display, URI: u, Params: l}, okURI && okList && len(s) <= 1024
}

// checkAddress compares ParseAddress with the definition, and checks P2.14 for what it returns.
func checkAddress(t *testing.T, s string) {
	t.Helper()
	want, ok := addressed(s)
	a, at, e := address.ParseAddress(s)
	if ok != (e == api.OK) || ok && (!sameAddress(a, want) || at != 0) || !ok && !sameAddress(a, api.Address{}) || at < 0 || at > len(s) {
		t.Errorf("ParseAddress(%q) = %+v, %d, %d; want %+v, %v", s, a, at, e, want, ok)
		return
	}
	if !ok {
		return
	}
	printed, e := address.PrintAddress(a)
	again, _, f := address.ParseAddress(printed)
	slices.SortFunc(a.Params, func(p, q api.Param) int { return strings.Compare(p.Name, q.Name) })
	if e != api.OK || f != api.OK || !sameAddress(again, a) {
		t.Errorf("%q is printed as %q, %d, and read as %+v, %d", s, printed, e, again, f)
	}
}

// P2.12 against the definition, and P2.14
func TestParseAddressAll(t *testing.T) {
	check := func(s string) { checkAddress(t, s) }
	allTexts([]string{`"`, "<", ">", " ", "sip:a", `\`, ";b"}, 5, check)
	allTexts([]string{"a", "\t", "<sip:a>", ";", `"`, ","}, 5, check)
	choose := chooser(1)
	parts := append(uriParts(), "Bob", " ", "<sip:h>", "<sip:u@h;x>", `"A \"B"`, ";tag=1", "; Q = \"x\"", ",", "\t")
	for range 50000 {
		check(choose.text([]string{"Bob ", `"A" `, "<", "sip:h", " ", "<tel:+1"}, 3) + choose.text(parts, 6))
	}
}

// someURI returns a URI that is valid more often than not.
func someURI(choose *chooser) api.URI {
	pick := func(l ...string) string { return l[choose.below(len(l))] }
	words := []string{"a", "B", "lr", "x y", ";", "=", "@", "%41", "\x80", "É", "\t", "[::1]", "?&", ""}
	pairs := func(heads bool) []api.Param {
		var l []api.Param
		for range choose.below(4) {
			p := api.Param{Name: pick(words...) + pick("", "1", "2"), Value: pick(words...)}
			p.Has = p.Value != "" || heads
			l = append(l, p)
		}
		return l
	}
	if choose.below(4) == 0 {
		return api.URI{Scheme: pick("tel", "TEL"), User: pick("+", "", "*", "#") + pick("1", "22", "333"), Params: pairs(false)}
	}
	return api.URI{
		Scheme: pick("sip", "Sips", "SIP"), User: pick(words...), Host: pick("H", "a.b", "1.2.3.4", "[::0A]", "[1:2:3:4:5:6:7:8]"),
		Port: choose.below(3) * 32767, Params: pairs(false), Heads: pairs(true),
	}
}

// P2.14: Parse of what Print returns is the normal form.
func TestPrintIsReadBack(t *testing.T) {
	choose := chooser(1)
	valid := 0
	for range 20000 {
		u := someURI(&choose)
		n, e := address.Normal(u)
		printed, f := address.Print(u)
		if e != f {
			t.Errorf("Normal and Print of %+v: %d, %d", u, e, f)
		}
		if e != api.OK {
			continue
		}
		valid++
		if again, at, e := address.Parse(printed); !sameURI(again, n) || at != 0 || e != api.OK {
			t.Errorf("%+v is printed as %q, and read as %+v, %d, %d", u, printed, again, at, e)
		}
		if twice, e := address.Normal(n); !sameURI(twice, n) || e != api.OK {
			t.Errorf("Normal changes %+v to %+v", n, twice)
		}
		if !address.Equal(u, n) || !address.Equal(n, u) {
			t.Errorf("%+v and its normal form are not equal", u)
		}
	}
	if valid < 5000 {
		t.Errorf("only %d URIs were valid", valid)
	}
}

// P2.14: Equal is an equivalence: it is equality of what Print returns.
func TestEqualIsAnEquivalence(t *testing.T) {
	choose := chooser(7)
	var l []api.URI
	var texts []string
	for len(l) < 150 {
		u := someURI(&choose)
		u.Params = u.Params[:min(len(u.Params), 1)]
		u.Heads = nil
		if s, e := address.Print(u); e == api.OK {
			l = append(l, u)
			texts = append(texts, s)
		}
	}
	pairs := 0
	for i := range l {
		for j := range l {
			equal := address.Equal(l[i], l[j])
			if equal != (texts[i] == texts[j]) {
				t.Errorf("Equal of %q and %q is %v", texts[i], texts[j], equal)
			}
			if equal && i != j {
				pairs++
			}
		}
	}
	if pairs == 0 {
		t.Error("no two URIs were equal")
	}
}

// P2.14: ParseAddress of what PrintAddress returns is the address, with a URI in normal form and sorted parameters.
func TestPrintAddressIsReadBack(t *testing.T) {
	choose := chooser(1)
	for range 20000 {
		a := api.Address{Display: choose.text([]string{"A", " ", `"`, `\`, "\t", "<>", "\x80", ",;"}, 5), URI: someURI(&choose)}
		for range choose.below(4) {
			a.Params = append(a.Params, valued(string(rune('a'+choose.below(10))), choose.text([]string{"x", " ", `"`, "[::1]", ";"}, 2)))
		}
		printed, e := address.PrintAddress(a)
		if e != api.OK {
			continue
		}
		a.URI, _ = address.Normal(a.URI)
		slices.SortFunc(a.Params, func(p, q api.Param) int { return strings.Compare(p.Name, q.Name) })
		if again, at, e := address.ParseAddress(printed); !sameAddress(again, a) || at != 0 || e != api.OK {
			t.Errorf("%+v is printed as %q, and read as %+v, %d, %d", a, printed, again, at, e)
		}
	}
}

// The document's rules: any bytes are read and written without a panic, in time that grows with their length.
func TestAnyArguments(t *testing.T) {
	const n = 300000
	var long []api.Param
	for i := range n {
		long = append(long, valued(strconv.Itoa(n-i), "\x00"))
	}
	for _, s := range []string{"", "%", "[", "\"", ";", "\x00\xff", strings.Repeat("[", n), strings.Repeat(";", n), strings.Repeat(";a=[", n), strings.Repeat("%41", n), strings.Repeat("1.", n), "[" + strings.Repeat("1:", n) + "]", strings.Repeat(" ", n), ";a=\"" + strings.Repeat(`\a`, n) + `"`} {
		for _, class := range []int{-1, 0, 1, 2, 3} {
			address.Escape(s, class)
		}
		address.Unescape(s)
		address.Host(s)
		address.Params(s)
		address.Parse(s)
		address.ParseAddress(s)
		l := params(api.Param{Name: s, Value: s})
		u := api.URI{Scheme: s, User: s, Host: s, Port: -1 << 62, Params: l, Heads: l}
		address.PrintParams(l)
		address.Get(l, s)
		address.Set(l, s, s)
		address.Normal(u)
		address.Print(u)
		address.Equal(u, u)
		address.PrintAddress(api.Address{Display: s, URI: u, Params: l})
	}
	u := api.URI{Scheme: "sip", Host: "h", Params: long, Heads: long}
	address.PrintParams(long)
	address.Get(long, "1")
	address.Set(long, "-", "")
	address.Normal(u)
	address.PrintAddress(api.Address{URI: api.URI{Scheme: "sip", Host: "h"}, Params: long})
}
