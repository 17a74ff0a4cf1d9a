package address

import (
	"slices"
	"strconv"
	"strings"

	"dialtone/api"
	"dialtone/lexis"
)

const (
	schemeSip  = "sip"
	schemeSips = "sips"
	schemeTel  = "tel"

	mostPort   = 65535
	mostDigits = 30 // of a number, beside the +
	separators = "-.()"
	localMarks = "*#" // in a number without +
)

// Parse reads a URI.
func Parse(s string) (api.URI, int, api.Errno) { return read(s, (*cursor).uri) }

// uri reads an address text, up to the end.
func (c *cursor) uri() (api.URI, api.Errno) {
	if e := c.fits(); e != api.OK {
		return api.URI{}, e
	}
	var u api.URI
	e := c.scheme(&u)
	parts := []func(*api.URI) api.Errno{c.user, c.host, c.port, c.params, c.heads}
	if u.Scheme == schemeTel {
		parts = []func(*api.URI) api.Errno{c.number, c.params}
	}
	for i := 0; e == api.OK && i < len(parts); i++ {
		e = parts[i](&u)
	}
	return u, e
}

// scheme reads the scheme and its colon.
func (c *cursor) scheme(u *api.URI) api.Errno {
	colon := c.end(0, ":")
	if colon == len(c.text) {
		return c.fail(colon, api.ErrSyntax)
	}
	u.Scheme = lower(string(c.text[:colon]))
	if !known(u.Scheme) {
		return c.fail(0, api.ErrUnsupported)
	}
	c.at = colon + 1
	return api.OK
}

// known reports whether s is a scheme in lower case.
func known(s string) bool { return s == schemeSip || s == schemeSips || s == schemeTel }

// user reads the user and the @ behind, if there is an @.
func (c *cursor) user(u *api.URI) api.Errno {
	to := c.end(c.at, "@")
	if to == len(c.text) {
		return api.OK
	}
	content, e := c.word(to, ClassUser)
	switch {
	case e != api.OK && c.next() == ':':
		return api.ErrUnsupported
	case e != api.OK:
		return e
	case content == "":
		return api.ErrSyntax
	}
	u.User = content
	c.at = to + 1
	return api.OK
}

// host reads the host.
func (c *cursor) host(u *api.URI) api.Errno {
	to := c.end(c.at, ":;?")
	if c.next() == '[' {
		to = min(c.end(c.at, "]")+1, len(c.text))
	}
	host, ok := Host(string(c.text[c.at:to]))
	if !ok {
		return api.ErrSyntax
	}
	u.Host = host
	c.at = to
	return api.OK
}

// port reads the colon and the port, if there is a colon.
func (c *cursor) port(u *api.URI) api.Errno {
	to := c.end(c.at, ";?")
	if !c.take(':') {
		if c.at < to {
			return api.ErrSyntax
		}
		return api.OK
	}
	n, e := lexis.Number(string(c.text[c.at:to]))
	if e != api.OK {
		return e
	}
	if n < 1 || n > mostPort {
		return api.ErrRange
	}
	u.Port = n
	c.at = to
	return api.OK
}

// number reads the number of a telephone.
func (c *cursor) number(u *api.URI) api.Errno {
	from, to, others := c.at, c.end(c.at, ";"), localMarks
	plus := ""
	if c.take('+') {
		plus, others = "+", ""
	}
	var b strings.Builder
	for ; c.at < to; c.at++ {
		x := c.text[c.at]
		switch {
		case digit(x) || strings.IndexByte(others, x) >= 0:
			b.WriteByte(x)
		case strings.IndexByte(separators, x) < 0:
			return api.ErrSyntax
		}
	}
	switch {
	case b.Len() == 0:
		return c.fail(from, api.ErrSyntax)
	case b.Len() > mostDigits:
		return c.fail(from, api.ErrLimit)
	}
	u.User = plus + b.String()
	return api.OK
}

// params reads the parameters.
func (c *cursor) params(u *api.URI) (e api.Errno) {
	ends := ";?"
	if u.Scheme == schemeTel {
		ends = ";"
	}
	u.Params, e = c.pairs(";", ends, ClassParam)
	return e
}

// heads reads the heads.
func (c *cursor) heads(u *api.URI) (e api.Errno) {
	u.Heads, e = c.pairs("?&", "&", ClassHead)
	return e
}

// pairs reads parameters or heads, each of which stands behind one of begins and before one of ends, and sorts them.
func (c *cursor) pairs(begins, ends string, class int) ([]api.Param, api.Errno) {
	var l []api.Param
	for strings.IndexByte(begins, c.next()) >= 0 {
		c.at++
		from := c.at
		p, e := c.pair(c.end(from, ends), class)
		if e != api.OK {
			return nil, e
		}
		if e := mayJoin(l, p); e != api.OK {
			return nil, c.fail(from, e)
		}
		l = append(l, p)
	}
	return sorted(l), api.OK
}

// pair reads a parameter or a head that ends at the offset to.
func (c *cursor) pair(to, class int) (api.Param, api.Errno) {
	name, e := c.word(min(c.end(c.at, "="), to), class)
	if e != api.OK {
		return api.Param{}, e
	}
	if name == "" {
		return api.Param{}, api.ErrSyntax
	}
	p := api.Param{Name: lower(name)}
	if c.at == to {
		if class == ClassHead {
			return api.Param{}, api.ErrSyntax
		}
		return p, api.OK
	}
	c.at++
	p.Has = true
	p.Value, e = c.word(to, class)
	if e == api.OK && p.Value == "" && class == ClassParam {
		e = api.ErrSyntax
	}
	return p, e
}

// Normal returns the normal form of a URI.
func Normal(u api.URI) (api.URI, api.Errno) {
	host, isHost := Host(u.Host)
	n := api.URI{Scheme: lower(u.Scheme), User: u.User, Host: host, Port: u.Port}
	params, okParams := normalPairs(u.Params, ClassParam)
	heads, okHeads := normalPairs(u.Heads, ClassHead)
	ok := isHost && u.Port >= 0 && u.Port <= mostPort && !contains(u.User, control)
	if n.Scheme == schemeTel {
		ok = isNumber(u.User) && u.Host == "" && u.Port == 0 && len(heads) == 0
	}
	if !ok || !okParams || !okHeads || !known(n.Scheme) {
		return api.URI{}, api.ErrArg
	}
	n.Params = params
	n.Heads = heads
	return n, api.OK
}

// isNumber reports whether s is a number without separators.
func isNumber(s string) bool {
	var u api.URI
	c := &cursor{text: text(s)}
	return c.number(&u) == api.OK && u.User == s
}

// normalPairs returns the normal form of the parameters or heads of a valid URI.
func normalPairs(l []api.Param, class int) ([]api.Param, bool) {
	var normal []api.Param
	for _, p := range l {
		p.Name = lower(p.Name)
		if !isPair(p, class) || mayJoin(normal, p) != api.OK {
			return nil, false
		}
		normal = append(normal, p)
	}
	return sorted(normal), true
}

// isPair reports whether p may be a parameter or a head of a URI.
func isPair(p api.Param, class int) bool {
	if p.Name == "" || contains(p.Name, control) || contains(p.Value, control) {
		return false
	}
	if class == ClassHead {
		return p.Has
	}
	return p.Has == (p.Value != "")
}

// Print writes a URI.
func Print(u api.URI) (string, api.Errno) {
	n, e := Normal(u)
	if e != api.OK {
		return "", e
	}
	var b strings.Builder
	b.WriteString(n.Scheme)
	b.WriteByte(':')
	if n.Scheme == schemeTel {
		b.WriteString(n.User)
	} else {
		printPlace(&b, n)
	}
	for _, p := range n.Params {
		b.WriteByte(';')
		printPair(&b, p, ClassParam)
	}
	mark := byte('?')
	for _, p := range n.Heads {
		b.WriteByte(mark)
		printPair(&b, p, ClassHead)
		mark = '&'
	}
	return b.String(), api.OK
}

// printPlace writes the user, the host and the port.
func printPlace(b *strings.Builder, u api.URI) {
	if u.User != "" {
		b.WriteString(Escape(u.User, ClassUser))
		b.WriteByte('@')
	}
	b.WriteString(u.Host)
	if u.Port != 0 {
		b.WriteByte(':')
		b.WriteString(strconv.Itoa(u.Port))
	}
}

// printPair writes a parameter or a head.
func printPair(b *strings.Builder, p api.Param, class int) {
	b.WriteString(Escape(p.Name, class))
	if p.Has {
		b.WriteByte('=')
		b.WriteString(Escape(p.Value, class))
	}
}

// Equal reports whether two URIs have the same normal form.
func Equal(a, b api.URI) bool {
	a, okA := Normal(a)
	b, okB := Normal(b)
	if okA != api.OK || okB != api.OK {
		return false
	}
	return a.Scheme == b.Scheme && a.User == b.User && a.Host == b.Host && a.Port == b.Port &&
		slices.Equal(a.Params, b.Params) && slices.Equal(a.Heads, b.Heads)
}
