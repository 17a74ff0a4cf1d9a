package bodies

import (
	"bytes"
	"strconv"
	"strings"

	"dialtone/api"
)

const (
	letter     = "b" // with which a boundary begins that Boundary returns
	mostDigits = 10  // of a number of things that one text has room for
)

// Join puts parts together.
func Join(parts []api.Part, boundary string) ([]byte, api.Errno) {
	parts, ok := normalParts(parts)
	if !ok || len(parts) == 0 || !isBoundary(boundary) {
		return nil, api.ErrArg
	}
	start := hyphens + boundary
	for _, p := range parts {
		if beginsLine(p.Body, start) {
			return nil, api.ErrDuplicate
		}
	}
	var b bytes.Buffer
	for _, p := range parts {
		b.WriteString(start + crlf)
		writePart(&b, p)
	}
	b.WriteString(start + hyphens + crlf)
	if b.Len() > api.MaxMessage {
		return nil, api.ErrLimit
	}
	return b.Bytes(), api.OK
}

// normalParts returns the normal forms of the parts, if all are valid and they are not too many.
func normalParts(parts []api.Part) ([]api.Part, bool) {
	if len(parts) > api.MaxParts {
		return nil, false
	}
	var l []api.Part
	for _, p := range parts {
		n, ok := normalPart(p)
		if !ok {
			return nil, false
		}
		l = append(l, n)
	}
	return l, true
}

// normalPart returns the normal form of a part, if it is valid.
func normalPart(p api.Part) (api.Part, bool) {
	if len(p.Headers) > api.MaxHeaders {
		return api.Part{}, false
	}
	headers := make([]api.Header, len(p.Headers))
	for i, h := range p.Headers {
		n, e := normalHeader(h)
		if e != api.OK {
			return api.Part{}, false
		}
		headers[i] = n
	}
	return api.Part{Headers: headers, Body: bytes.Clone(p.Body)}, true
}

// beginsLine reports whether s stands in a body at its beginning, or directly behind CR LF.
func beginsLine(body []byte, s string) bool {
	return bytes.HasPrefix(body, []byte(s)) || bytes.Contains(body, []byte(crlf+s))
}

// writePart writes the text of a part in normal form, and the CR LF behind it.
func writePart(b *bytes.Buffer, p api.Part) {
	for _, h := range p.Headers {
		b.WriteString(h.Name + ": " + h.Value + crlf)
	}
	b.WriteString(crlf)
	b.Write(p.Body)
	b.WriteString(crlf)
}

// Boundary returns a boundary that occurs in no part.
func Boundary(parts []api.Part) string {
	taken := map[string]bool{}
	for _, p := range parts {
		takeNumbers(taken, p.Body)
	}
	n := 0
	for taken[strconv.Itoa(n)] {
		n++
	}
	return letter + strconv.Itoa(n)
}

// takeNumbers takes all numbers that stand in a body behind two hyphens and the letter; behind --b12 both 1 and 12 do. It takes what is no number, too, for which nobody asks.
func takeNumbers(taken map[string]bool, body []byte) {
	for _, behind := range strings.Split(string(body), hyphens+letter)[1:] {
		for n := range min(len(behind), mostDigits) {
			taken[behind[:n+1]] = true
		}
	}
}
