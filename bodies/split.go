package bodies

import (
	"strings"

	"dialtone/api"
	"dialtone/header"
	"dialtone/lexis"
)

const (
	blanks  = " \t"
	crlf    = "\r\n"
	hyphens = "--" // before a boundary, and behind it in a last delimiter

	mostBoundary = 70 // bytes of a boundary
)

// delimiter is a delimiter of a boundary, from the offset at to the offset end.
type delimiter struct {
	at, end int
	last    bool
}

// Split divides a body into parts.
func Split(body []byte, boundary string) ([]api.Part, int, api.Errno) {
	if !isBoundary(boundary) {
		return nil, 0, api.ErrArg
	}
	if len(body) > api.MaxMessage {
		return nil, api.MaxMessage, api.ErrLimit
	}
	text := string(body)
	d, ok := nextDelimiter(text, 0, boundary)
	switch {
	case !ok:
		return nil, len(text), api.ErrShort
	case d.last:
		return nil, d.at, api.ErrSyntax
	}
	var parts []api.Part
	for !d.last {
		if len(parts) == api.MaxParts {
			return nil, d.at, api.ErrLimit
		}
		next, ok := nextDelimiter(text, d.end, boundary)
		if !ok {
			return nil, len(text), api.ErrShort
		}
		// The CR LF before a delimiter is no part of the text, unless it ends the delimiter before.
		p, at, e := readPart(text[d.end:max(d.end, next.at-len(crlf))])
		if e != api.OK {
			return nil, d.end + at, e
		}
		parts = append(parts, p)
		d = next
	}
	return parts, 0, api.OK
}

func isBoundary(s string) bool { return lexis.Token(s) && len(s) <= mostBoundary }

// nextDelimiter returns the first delimiter of a text from an offset on, at which a line begins.
func nextDelimiter(text string, from int, boundary string) (delimiter, bool) {
	for at := from; at < len(text); {
		line, _, _ := strings.Cut(text[at:], crlf)
		end := min(at+len(line)+len(crlf), len(text)) // the last line may have no end
		if last, ok := delimits(line, boundary); ok {
			return delimiter{at: at, end: end, last: last}, true
		}
		at = end
	}
	return delimiter{}, false
}

// delimits reports whether a line is a delimiter, and whether it is a last one.
func delimits(line, boundary string) (last, ok bool) {
	rest, ok := strings.CutPrefix(line, hyphens+boundary)
	rest, last = strings.CutPrefix(rest, hyphens)
	return last, ok && strings.Trim(rest, blanks) == ""
}

// readPart reads the text of a part. With an error it returns the offset of that.
func readPart(text string) (api.Part, int, api.Errno) {
	head, body, ok := cutHead(text)
	if !ok {
		return api.Part{}, 0, api.ErrSyntax
	}
	lines, at, e := lexis.Unfold(head)
	if e != api.OK {
		return api.Part{}, at, e
	}
	p := api.Part{Body: []byte(body)}
	for _, line := range lines {
		h, e := readHeader(line.Text)
		if e == api.OK && len(p.Headers) == api.MaxHeaders {
			e = api.ErrLimit
		}
		if e != api.OK {
			return api.Part{}, line.At, e
		}
		p.Headers = append(p.Headers, h)
	}
	return p, 0, api.OK
}

// cutHead divides the text of a part into its header lines and its body, if there is an empty line between them.
func cutHead(text string) (head, body string, ok bool) {
	if body, ok := strings.CutPrefix(text, crlf); ok {
		return "", body, true
	}
	head, body, ok = strings.Cut(text, crlf+crlf)
	return head + crlf, body, ok
}

// readHeader returns the normal form of the header of a line.
func readHeader(line string) (api.Header, api.Errno) {
	name, value, ok := strings.Cut(line, ":")
	if !ok {
		return api.Header{}, api.ErrSyntax
	}
	return normalHeader(api.Header{Name: strings.TrimRight(name, blanks), Value: strings.Trim(value, blanks)})
}

// normalHeader returns the normal form of a header, if its value is short enough before and after that.
func normalHeader(h api.Header) (api.Header, api.Errno) {
	canon, e := header.Canon(h.Name)
	if e != api.OK {
		return api.Header{}, e
	}
	if len(h.Value) > api.MaxValue {
		return api.Header{}, api.ErrLimit
	}
	value, e := header.Tidy(canon, h.Value)
	if e != api.OK {
		return api.Header{}, e
	}
	if len(value) > api.MaxValue {
		return api.Header{}, api.ErrLimit
	}
	return api.Header{Name: canon, Value: value}, api.OK
}
