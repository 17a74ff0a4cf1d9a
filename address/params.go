package address

import (
	"slices"
	"sort"
	"strings"

	"dialtone/api"
	"dialtone/lexis"
)

// Params reads a parameter list.
func Params(s string) ([]api.Param, int, api.Errno) { return read(s, (*cursor).list) }

// list reads a parameter list, up to the end.
func (c *cursor) list() ([]api.Param, api.Errno) {
	var l []api.Param
	for c.blanks(); c.at < len(c.text); c.blanks() {
		if !c.take(';') {
			return nil, api.ErrSyntax
		}
		c.blanks()
		from := c.at
		p, e := c.param()
		if e != api.OK {
			return nil, e
		}
		if e := mayJoin(l, p); e != api.OK {
			return nil, c.fail(from, e)
		}
		l = append(l, p)
	}
	return l, api.OK
}

// param reads the name of a parameter and its value, if it has one.
func (c *cursor) param() (api.Param, api.Errno) {
	name := c.token()
	if name == "" {
		return api.Param{}, api.ErrSyntax
	}
	c.blanks()
	if !c.take('=') {
		return api.Param{Name: lower(name)}, api.OK
	}
	c.blanks()
	value, e := c.value()
	return api.Param{Name: lower(name), Value: value, Has: true}, e
}

// value reads a token, a quoted string, or a host in brackets.
func (c *cursor) value() (string, api.Errno) {
	switch c.next() {
	case '"':
		content, to, e := lexis.Unquote(string(c.text), c.at)
		c.at = to
		return content, e
	case '[':
		to := min(c.end(c.at, "]")+1, len(c.text))
		host, ok := Host(string(c.text[c.at:to]))
		if !ok {
			return "", api.ErrSyntax
		}
		c.at = to
		return host, api.OK
	}
	value := c.token()
	if value == "" {
		return "", api.ErrSyntax
	}
	return value, api.OK
}

// mayJoin returns an error if p may not be put behind the parameters l.
func mayJoin(l []api.Param, p api.Param) api.Errno {
	same := func(q api.Param) bool { return q.Name == p.Name }
	switch {
	case slices.ContainsFunc(l, same):
		return api.ErrDuplicate
	case len(l) == api.MaxParams:
		return api.ErrLimit
	}
	return api.OK
}

// PrintParams writes a parameter list.
func PrintParams(l []api.Param) (string, api.Errno) {
	var b strings.Builder
	for i, p := range l {
		if !printable(p) || mayJoin(l[:i], p) != api.OK {
			return "", api.ErrArg
		}
		b.WriteByte(';')
		b.WriteString(p.Name)
		if p.Has {
			b.WriteByte('=')
			b.WriteString(printValue(p.Value))
		}
	}
	return b.String(), api.OK
}

// printable reports whether p may stand in a parameter list.
func printable(p api.Param) bool {
	return lexis.Token(p.Name) && p.Name == lower(p.Name) && !contains(p.Value, control) && (p.Has || p.Value == "")
}

// printValue writes a value without control characters.
func printValue(s string) string {
	bracketed := strings.HasPrefix(s, "[")
	if host, ok := Host(s); lexis.Token(s) || bracketed && ok && host == s {
		return s
	}
	quoted, _ := lexis.Quote(s)
	return quoted
}

// find returns the index of the first parameter with a name, or -1.
func find(l []api.Param, name string) int {
	name = lower(name)
	return slices.IndexFunc(l, func(p api.Param) bool { return lower(p.Name) == name })
}

// Get returns a parameter's value.
func Get(l []api.Param, name string) (string, bool) {
	i := find(l, name)
	if i < 0 {
		return "", false
	}
	return l[i].Value, true
}

// Set sets a parameter's value.
func Set(l []api.Param, name, value string) []api.Param {
	l = slices.Clone(l)
	i := find(l, name)
	if i < 0 {
		return append(l, api.Param{Name: lower(name), Value: value, Has: true})
	}
	l[i].Value = value
	l[i].Has = true
	return l
}

// sorted returns the parameters by ascending names.
func sorted(l []api.Param) []api.Param {
	l = slices.Clone(l)
	sort.Slice(l, func(i, j int) bool { return l[i].Name < l[j].Name })
	return l
}
