package address_test

import (
	"slices"
	"strings"

	"dialtone/api"
)

func flag(name string) api.Param { return api.Param{Name: name} }

func valued(name, value string) api.Param { return api.Param{Name: name, Value: value, Has: true} }

func params(l ...api.Param) []api.Param { return l }

func sameURI(a, b api.URI) bool {
	return a.Scheme == b.Scheme && a.User == b.User && a.Host == b.Host && a.Port == b.Port &&
		slices.Equal(a.Params, b.Params) && slices.Equal(a.Heads, b.Heads)
}

func sameAddress(a, b api.Address) bool {
	return a.Display == b.Display && sameURI(a.URI, b.URI) && slices.Equal(a.Params, b.Params)
}

// numbered returns n parameters of the form ;pNN, and what they are.
func numbered(n int) (string, []api.Param) {
	var b strings.Builder
	var l []api.Param
	for i := range n {
		name := "p" + string(rune('a'+i))
		b.WriteString(";" + name)
		l = append(l, flag(name))
	}
	return b.String(), l
}

// chooser chooses numbers by a fixed sequence.
type chooser uint32

func (c *chooser) below(n int) int {
	*c = *c*1664525 + 1013904223
	return int(*c>>8) % n
}

func (c *chooser) text(parts []string, most int) string {
	var b strings.Builder
	for range c.below(most + 1) {
		b.WriteString(parts[c.below(len(parts))])
	}
	return b.String()
}

// allTexts calls visit for every text of at most n parts.
func allTexts(parts []string, n int, visit func(string)) {
	var extend func(s string, n int)
	extend = func(s string, n int) {
		visit(s)
		if n == 0 {
			return
		}
		for _, p := range parts {
			extend(s+p, n-1)
		}
	}
	extend("", n)
}

// lowered is the definition of lowering.
func lowered(s string) string {
	b := []byte(s)
	for i, c := range b {
		if strings.IndexByte("ABCDEFGHIJKLMNOPQRSTUVWXYZ", c) >= 0 {
			b[i] = c + 32
		}
	}
	return string(b)
}

func isControl(c byte) bool { return c < 32 && c != 9 || c == 127 }

func hasControl(s string) bool { return slices.ContainsFunc([]byte(s), isControl) }
