package address

import (
	"strings"

	"dialtone/api"
	"dialtone/lexis"
)

// text is a text that is read.
type text string

// end returns the offset of the first byte, from the offset at on, that is one of ends, or the length of t.
func (t text) end(at int, ends string) int {
	for at < len(t) && strings.IndexByte(ends, t[at]) < 0 {
		at++
	}
	return at
}

// stray returns the offset of the first byte of t[at:to] that does not belong to a text of the class, or to.
func (t text) stray(at, to, class int) int {
	for at < to {
		c, ok := escape(string(t[at:to]))
		switch {
		case ok && !control(c):
			at += escapeSize
		case inClass(t[at], class):
			at++
		default:
			return at
		}
	}
	return to
}

// cursor reads a text from the front. Behind a method that returns an error it stands at the offset of that error.
type cursor struct {
	text
	at int
}

// read returns what a method reads from s and 0, or its error and the offset of that.
func read[T any](s string, method func(*cursor) (T, api.Errno)) (T, int, api.Errno) {
	c := &cursor{text: text(s)}
	result, e := method(c)
	if e != api.OK {
		var none T
		return none, c.at, e
	}
	return result, 0, api.OK
}

// fits returns an error if the text is too long for an address.
func (c *cursor) fits() api.Errno {
	if len(c.text) > api.MaxValue {
		return c.fail(api.MaxValue, api.ErrLimit)
	}
	return api.OK
}

// fail sets the offset of an error.
func (c *cursor) fail(at int, e api.Errno) api.Errno {
	c.at = at
	return e
}

// next returns the next byte, or 0 at the end.
func (c *cursor) next() byte {
	if c.at < len(c.text) {
		return c.text[c.at]
	}
	return 0
}

// take skips the byte mark, if it is the next one.
func (c *cursor) take(mark byte) bool {
	if c.next() != mark {
		return false
	}
	c.at++
	return true
}

// blanks skips blanks.
func (c *cursor) blanks() { c.at = lexis.Blanks(string(c.text), c.at) }

// token reads a token; it is empty if none is there.
func (c *cursor) token() string {
	from := c.at
	c.at = lexis.TokenEnd(string(c.text), from)
	return string(c.text[from:c.at])
}

// word reads a text of a class that ends at the offset to, and returns its content.
func (c *cursor) word(to, class int) (string, api.Errno) {
	from := c.at
	c.at = c.stray(from, to, class)
	if c.at < to {
		return "", api.ErrSyntax
	}
	content, _, _ := Unescape(string(c.text[from:to]))
	return content, api.OK
}
