// Package lexis is layer 1: see shared/doc/01-lexis.md.
package lexis

import (
	"iter"
	"strings"

	"dialtone/api"
)

const (
	blanks = " \t"
	crlf   = "\r\n"
	marks  = "-.!%*_+'~`" // the token characters beside letters and digits

	leastWidth = 20
	mostWidth  = 1000
)

// char is a byte of a text; its methods are the classes of bytes.
type char byte

func (c char) blank() bool { return c == ' ' || c == '\t' }

func (c char) control() bool { return c < ' ' && c != '\t' || c == 127 }

func (c char) digit() bool { return '0' <= c && c <= '9' }

func (c char) letter() bool { return 'A' <= c && c <= 'Z' || 'a' <= c && c <= 'z' }

func (c char) token() bool {
	return c.letter() || c.digit() || strings.IndexByte(marks, byte(c)) >= 0
}

// escapable reports whether c may stand behind a backslash.
func (c char) escapable() bool { return ' ' <= c && c <= '~' }

// behind returns the offset of the first byte of s, from the offset at on, that is not of the class.
func behind(s string, at int, class func(char) bool) int {
	at = min(max(at, 0), len(s))
	for at < len(s) && class(char(s[at])) {
		at++
	}
	return at
}

// contains reports whether a byte of s is of the class.
func contains(s string, class func(char) bool) bool {
	for i := range len(s) {
		if class(char(s[i])) {
			return true
		}
	}
	return false
}

// Token reports whether s is a token.
func Token(s string) bool { return s != "" && TokenEnd(s, 0) == len(s) }

// TokenEnd returns the end of the token characters at an offset.
func TokenEnd(s string, at int) int { return behind(s, at, char.token) }

// Blanks returns the end of the blanks at an offset.
func Blanks(s string, at int) int { return behind(s, at, char.blank) }

// Quote returns a quoted string.
func Quote(s string) (string, api.Errno) {
	if contains(s, char.control) {
		return "", api.ErrSyntax
	}
	var b strings.Builder
	b.WriteByte('"')
	for i := range len(s) {
		if s[i] == '"' || s[i] == '\\' {
			b.WriteByte('\\')
		}
		b.WriteByte(s[i])
	}
	b.WriteByte('"')
	return b.String(), api.OK
}

// Unquote returns the content of a quoted string, and the offset behind it.
func Unquote(s string, at int) (string, int, api.Errno) {
	to, e := quotedEnd(s, at)
	if e != api.OK {
		return "", to, e
	}
	return unescape(s[at+1 : to-1]), to, api.OK
}

// quotedEnd returns the offset behind the quoted string at an offset, or that of an error.
func quotedEnd(s string, at int) (int, api.Errno) {
	if at, e := opens(s, at, '"'); e != api.OK {
		return at, e
	}
	at++
reading:
	for at < len(s) {
		switch s[at] {
		case '"':
			break reading
		default:
			next, e := step(s, at)
			if e != api.OK {
				return next, e
			}
			at = next
		}
	}
	if at == len(s) {
		return at, api.ErrShort
	}
	return at + 1, api.OK
}

// opens returns an error, and its offset, if the byte mark does not stand at an offset.
func opens(s string, at int, mark byte) (int, api.Errno) {
	if at < 0 || at > len(s) {
		return 0, api.ErrArg
	}
	if at == len(s) || s[at] != mark {
		return at, api.ErrSyntax
	}
	return at, api.OK
}

// step returns the offset behind the escape or the other byte at an offset within s, or that of an error.
func step(s string, at int) (int, api.Errno) {
	switch {
	case char(s[at]).control():
		return at, api.ErrSyntax
	case s[at] != '\\':
		return at + 1, api.OK
	case at+1 == len(s):
		return len(s), api.ErrShort
	case !char(s[at+1]).escapable():
		return at, api.ErrSyntax
	}
	return at + 2, api.OK
}

// unescape replaces the escapes of s, all of which are complete.
func unescape(s string) string {
	var b strings.Builder
	for i := 0; i < len(s); i++ {
		if s[i] == '\\' {
			i++
		}
		b.WriteByte(s[i])
	}
	return b.String()
}

// Comment returns the text of a comment, and the offset behind it.
func Comment(s string, at int) (string, int, api.Errno) {
	if at, e := opens(s, at, '('); e != api.OK {
		return "", at, e
	}
	to, depth := at, 0
reading:
	for to < len(s) {
		switch s[to] {
		case '(':
			if depth == api.MaxDepth {
				return "", to, api.ErrLimit
			}
			depth++
			to++
		case ')':
			depth--
			to++
			if depth == 0 {
				break reading
			}
		default:
			next, e := step(s, to)
			if e != api.OK {
				return "", next, e
			}
			to = next
		}
	}
	if depth > 0 {
		return "", len(s), api.ErrShort
	}
	return s[at+1 : to-1], to, api.OK
}

// Number returns a number.
func Number(s string) (int, api.Errno) {
	if len(s) < 1 || len(s) > 10 || behind(s, 0, char.digit) < len(s) {
		return 0, api.ErrSyntax
	}
	n := int64(0) // ten digits do not fit into 32 bits
	for i := range len(s) {
		n = n*10 + int64(s[i]-'0')
	}
	if n > api.MaxNumber {
		return 0, api.ErrRange
	}
	return int(n), api.OK
}

// Split divides a text at separators.
func Split(s string, sep byte) ([]api.Piece, int, api.Errno) {
	if char(sep).blank() || sep == '"' || sep == '<' || sep == '>' {
		return nil, 0, api.ErrArg
	}
	var pieces []api.Piece
	from, at := 0, 0
	for at < len(s) {
		if s[at] == sep {
			pieces = append(pieces, piece(s, from, at))
			at++
			from = at
			continue
		}
		next, e := skip(s, at)
		if e != api.OK {
			return nil, next, e
		}
		at = next
	}
	return append(pieces, piece(s, from, len(s))), 0, api.OK
}

// skip returns the offset behind the quoted string, the text in angle brackets, or the other byte at an offset within s, or that of an error.
func skip(s string, at int) (int, api.Errno) {
	switch s[at] {
	case '"':
		return quotedEnd(s, at)
	case '<':
		n := strings.IndexByte(s[at:], '>')
		if n < 0 {
			return len(s), api.ErrShort
		}
		return at + n + 1, api.OK
	case '>':
		return at, api.ErrSyntax
	}
	return at + 1, api.OK
}

// piece returns s[from:to] without blanks at both ends.
func piece(s string, from, to int) api.Piece {
	at := Blanks(s[:to], from)
	return api.Piece{At: at, Text: strings.TrimRight(s[at:to], blanks)}
}

// Unfold returns the lines of a text.
func Unfold(s string) ([]api.Piece, int, api.Errno) {
	if s != "" && char(s[0]).blank() {
		return nil, 0, api.ErrSyntax
	}
	if at := strayControl(s); at < len(s) {
		return nil, at, api.ErrSyntax
	}
	if s != "" && !strings.HasSuffix(s, crlf) {
		return nil, len(s), api.ErrShort
	}
	var lines []api.Piece
	var text strings.Builder
	for at, part := range physicalLines(s) {
		if part == "" || !char(part[0]).blank() {
			endLine(lines, &text)
			lines = append(lines, api.Piece{At: at})
		}
		part = strings.Trim(part, blanks)
		if text.Len() > 0 && part != "" {
			text.WriteByte(' ')
		}
		text.WriteString(part)
	}
	endLine(lines, &text)
	return lines, 0, api.OK
}

// endLine gives the last line its text, and makes room for that of the next one.
func endLine(lines []api.Piece, text *strings.Builder) {
	if len(lines) > 0 {
		lines[len(lines)-1].Text = text.String()
		text.Reset()
	}
}

// strayControl returns the offset of the first control character that is not part of a CR LF, or the length of s. A CR at the end of s counts as none: its LF may be missing.
func strayControl(s string) int {
	at := 0
	for at < len(s) {
		switch {
		case strings.HasPrefix(s[at:], crlf):
			at += len(crlf)
		case char(s[at]).control() && s[at:] != "\r":
			return at
		default:
			at++
		}
	}
	return at
}

// physicalLines yields the physical lines of s, without their ends, with their offsets.
func physicalLines(s string) iter.Seq2[int, string] {
	return func(yield func(int, string) bool) {
		at := 0
		for at < len(s) {
			line, _, _ := strings.Cut(s[at:], crlf)
			if !yield(at, line) {
				return
			}
			at += len(line) + len(crlf)
		}
	}
}

// Fold divides a line into physical lines.
func Fold(s string, width int) (string, api.Errno) {
	if width < leastWidth || width > mostWidth {
		return "", api.ErrArg
	}
	if contains(s, char.control) || strings.Trim(s, blanks) != s {
		return "", api.ErrSyntax
	}
	var b strings.Builder
	for len(s) > width {
		at := lastBreak(s, width)
		if at < 0 {
			break
		}
		b.WriteString(s[:at])
		b.WriteString(crlf)
		s = s[at:]
	}
	b.WriteString(s)
	b.WriteString(crlf)
	return b.String(), api.OK
}

// lastBreak returns the offset of the last break of s that is at most width, otherwise that of the first one, or -1. The first byte is left out: in all physical lines but one it is the break before.
func lastBreak(s string, width int) int {
	last := -1
	for i := 1; i+1 < len(s) && (i <= width || last < 0); i++ {
		if s[i] == ' ' && !char(s[i-1]).blank() && !char(s[i+1]).blank() {
			last = i
		}
	}
	return last
}
