package header_test

import (
	"slices"
	"strings"

	"dialtone/api"
)

const (
	tokenForm = "[-A-Za-z0-9.!%*_+'~`]+"
	itemForm  = tokenForm + "(?:/" + tokenForm + ")?"
)

func flag(name string) api.Param { return api.Param{Name: name} }

func valued(name, value string) api.Param { return api.Param{Name: name, Value: value, Has: true} }

func params(l ...api.Param) []api.Param { return l }

// numbered returns n parameters of the form ;pX, and what they are.
func numbered(n int) (string, []api.Param) {
	var b strings.Builder
	var l []api.Param
	for i := range n {
		name := "p" + string(rune('a'+i))
		b.WriteString(";" + name)
		l = append(l, flag(name))
	}
	return b.String(), l
}

func byName(l []api.Param) []api.Param {
	l = slices.Clone(l)
	slices.SortFunc(l, func(a, b api.Param) int { return strings.Compare(a.Name, b.Name) })
	return l
}

func sameVia(a, b api.Via) bool {
	return a.Transport == b.Transport && a.Host == b.Host && a.Port == b.Port && a.Branch == b.Branch && slices.Equal(a.Params, b.Params)
}

func sameItem(a, b api.Item) bool { return a.Value == b.Value && slices.Equal(a.Params, b.Params) }

func sameURI(a, b api.URI) bool {
	return a.Scheme == b.Scheme && a.User == b.User && a.Host == b.Host && a.Port == b.Port &&
		slices.Equal(a.Params, b.Params) && slices.Equal(a.Heads, b.Heads)
}

func sameAddress(a, b api.Address) bool {
	return a.Display == b.Display && sameURI(a.URI, b.URI) && slices.Equal(a.Params, b.Params)
}

// errorCase is a value with the error that reading it returns.
type errorCase struct {
	value string
	e     api.Errno
}

// chooser chooses numbers by a fixed sequence.
type chooser uint32

func (c *chooser) below(n int) int {
	*c = *c*1664525 + 1013904223
	return int(*c>>8) % n
}

func (c *chooser) text(parts []string, most int) string {
	var b strings.Builder
	for range c.below(most + 1) {
		b.WriteString(parts[c.below(len(parts))])
	}
	return b.String()
}

// allTexts calls visit for every text of at most n parts.
func allTexts(parts []string, n int, visit func(string)) {
	var extend func(s string, n int)
	extend = func(s string, n int) {
		visit(s)
		if n == 0 {
			return
		}
		for _, p := range parts {
			extend(s+p, n-1)
		}
	}
	extend("", n)
}

// eachByte calls visit for every byte, as a text.
func eachByte(visit func(b string)) {
	for c := range 256 {
		visit(string([]byte{byte(c)}))
	}
}

// cases returns s in several letter cases.
func cases(s string) []string {
	mixed := []byte(strings.ToLower(s))
	for i := 1; i < len(mixed); i += 2 {
		mixed[i] = strings.ToUpper(s)[i]
	}
	return []string{s, strings.ToLower(s), strings.ToUpper(s), string(mixed)}
}

func isControl(c byte) bool { return c < 32 && c != 9 || c == 127 }

func hasControl(s string) bool { return slices.ContainsFunc([]byte(s), isControl) }
