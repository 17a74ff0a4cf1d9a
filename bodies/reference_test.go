package bodies_test

import (
	"fmt"
	"regexp"
	"strings"

	"dialtone/api"
	"dialtone/header"
	"dialtone/lexis"
)

// This file reads the chapter's definitions word by word, for comparison.

var boundaryForm = regexp.MustCompile("^[-A-Za-z0-9.!%*_+'~`]{1,70}$")

// mark is a delimiter of a text.
type mark struct {
	at, end int
	last    bool
}

// marksOf returns the delimiters of a text: those that stand at its beginning or directly behind CR LF.
func marksOf(s, boundary string) []mark {
	form := regexp.MustCompile(`^--` + regexp.QuoteMeta(boundary) + `(--)?[ \t]*(\r\n|\z)`)
	var l []mark
	for at := range len(s) {
		if at > 0 && !strings.HasSuffix(s[:at], "\r\n") {
			continue
		}
		if found := form.FindStringSubmatch(s[at:]); found != nil {
			l = append(l, mark{at: at, end: at + len(found[0]), last: found[1] != ""})
		}
	}
	return l
}

// splitOf follows the definition of Split.
func splitOf(s, boundary string) ([]api.Part, int, api.Errno) {
	if !boundaryForm.MatchString(boundary) {
		return nil, 0, api.ErrArg
	}
	if len(s) > 8192 {
		return nil, 8192, api.ErrLimit
	}
	marks := marksOf(s, boundary)
	if len(marks) == 0 {
		return nil, len(s), api.ErrShort
	}
	if marks[0].last {
		return nil, marks[0].at, api.ErrSyntax
	}
	var parts []api.Part
	for i, m := range marks {
		if m.last {
			return parts, 0, api.OK
		}
		if i == 8 {
			return nil, m.at, api.ErrLimit
		}
		if i+1 == len(marks) {
			break
		}
		text := ""
		if m.end < marks[i+1].at {
			text = strings.TrimSuffix(s[m.end:marks[i+1].at], "\r\n")
		}
		p, at, e := partOf(text)
		if e != api.OK {
			return nil, m.end + at, e
		}
		parts = append(parts, p)
	}
	return nil, len(s), api.ErrShort
}

// partOf reads a part's text.
func partOf(text string) (api.Part, int, api.Errno) {
	// With a line end before it, an empty line is a second one also if it is the first line.
	head, body, found := strings.Cut("\r\n"+text, "\r\n\r\n")
	if !found {
		return api.Part{}, 0, api.ErrSyntax
	}
	head = strings.TrimPrefix(head+"\r\n", "\r\n")
	l, at, e := lexis.Unfold(head)
	if e != api.OK {
		return api.Part{}, at, e
	}
	p := part(body)
	for i, line := range l {
		h, e := headerOf(line.Text)
		if e == api.OK && i >= 64 {
			e = api.ErrLimit
		}
		if e != api.OK {
			return api.Part{}, line.At, e
		}
		p.Headers = append(p.Headers, h)
	}
	return p, 0, api.OK
}

func headerOf(line string) (api.Header, api.Errno) {
	colon := strings.Index(line, ":")
	if colon < 0 {
		return api.Header{}, api.ErrSyntax
	}
	canon, e := header.Canon(strings.TrimRight(line[:colon], " \t"))
	if e != api.OK {
		return api.Header{}, api.ErrSyntax
	}
	value := strings.Trim(line[colon+1:], " \t")
	if len(value) > 1024 {
		return api.Header{}, api.ErrLimit
	}
	tidied, e := header.Tidy(canon, value)
	if e != api.OK {
		return api.Header{}, e
	}
	if len(tidied) > 1024 {
		return api.Header{}, api.ErrLimit
	}
	return api.Header{Name: canon, Value: tidied}, api.OK
}

// normalOf returns the normal form of a part, if it is valid.
func normalOf(p api.Part) (api.Part, bool) {
	n := part(string(p.Body))
	for _, h := range p.Headers {
		canon, e := header.Canon(h.Name)
		value, f := header.Tidy(h.Name, h.Value)
		if e != api.OK || f != api.OK || len(h.Value) > 1024 || len(value) > 1024 {
			return api.Part{}, false
		}
		n.Headers = append(n.Headers, api.Header{Name: canon, Value: value})
	}
	return n, len(p.Headers) <= 64
}

// normalsOf returns the normal forms of parts, if all are valid.
func normalsOf(parts []api.Part) ([]api.Part, bool) {
	var l []api.Part
	for _, p := range parts {
		n, ok := normalOf(p)
		if !ok {
			return nil, false
		}
		l = append(l, n)
	}
	return l, true
}

// joinOf follows the definition of Join.
func joinOf(parts []api.Part, boundary string) (string, api.Errno) {
	l, ok := normalsOf(parts)
	if !boundaryForm.MatchString(boundary) || len(l) < 1 || len(l) > 8 || !ok {
		return "", api.ErrArg
	}
	s, double := "", false
	for _, p := range l {
		s += fmt.Sprintf("--%s\r\n", boundary)
		for _, h := range p.Headers {
			s += fmt.Sprintf("%s: %s\r\n", h.Name, h.Value)
		}
		s += fmt.Sprintf("\r\n%s\r\n", p.Body)
		double = double || strings.Contains("\r\n"+string(p.Body), "\r\n--"+boundary)
	}
	s += fmt.Sprintf("--%s--\r\n", boundary)
	switch {
	case double:
		return "", api.ErrDuplicate
	case len(s) > 8192:
		return "", api.ErrLimit
	}
	return s, api.OK
}

// newBoundaryOf follows the definition of Boundary.
func newBoundaryOf(parts []api.Part) string {
	for n := 0; ; n++ {
		boundary, found := fmt.Sprintf("b%d", n), false
		for _, p := range parts {
			found = found || strings.Contains(string(p.Body), "--"+boundary)
		}
		if !found {
			return boundary
		}
	}
}

// canonOf returns the canonical name, or a text that is none.
func canonOf(h api.Header) string {
	canon, e := header.Canon(h.Name)
	if e != api.OK {
		return "(none)"
	}
	return canon
}

// itemOf reads the first header Content-Type.
func itemOf(l []api.Header) (api.Item, bool) {
	for _, h := range l {
		if canonOf(h) == "Content-Type" {
			x, e := header.Item(h.Value)
			return x, e == api.OK
		}
	}
	return api.Item{}, false
}

func typeOf(l []api.Header) string {
	x, ok := itemOf(l)
	if !ok {
		return "text/plain"
	}
	return strings.ToLower(x.Value) // the characters of a type are those of tokens, and a slash
}

// boundaryOf returns the boundary of something of several parts.
func boundaryOf(l []api.Header) (string, bool) {
	x, _ := itemOf(l)
	for _, p := range x.Params {
		if p.Name == "boundary" && strings.HasPrefix(typeOf(l), "multipart/") {
			return p.Value, true
		}
	}
	return "", false
}

func contentOf(h api.Header) bool { return strings.HasPrefix(canonOf(h), "Content-") }

// ofOf follows the definition of Of.
func ofOf(m api.Message) ([]api.Part, api.Errno) {
	if boundary, ok := boundaryOf(m.Headers); ok {
		parts, _, e := splitOf(string(m.Body), boundary)
		return parts, e
	}
	typed := false
	p := part(string(m.Body))
	for _, h := range m.Headers {
		typed = typed || canonOf(h) == "Content-Type"
		if contentOf(h) && canonOf(h) != "Content-Length" {
			p.Headers = append(p.Headers, h)
		}
	}
	if !typed && len(m.Body) == 0 {
		return nil, api.OK
	}
	return []api.Part{p}, api.OK
}

// visitedOf returns the parts that Find visits, in order.
func visitedOf(parts []api.Part, level int) []api.Part {
	var l []api.Part
	for _, p := range parts {
		l = append(l, p)
		boundary, ok := boundaryOf(p.Headers)
		if inner, _, e := splitOf(string(p.Body), boundary); ok && e == api.OK && level < 3 {
			l = append(l, visitedOf(inner, level+1)...)
		}
	}
	return l
}

// findOf follows the definition of Find, for kinds of bytes below 128.
func findOf(m api.Message, kind string) (api.Part, api.Errno) {
	parts, e := ofOf(m)
	if e != api.OK {
		return api.Part{}, e
	}
	for _, p := range visitedOf(parts, 1) {
		if typeOf(p.Headers) == strings.ToLower(kind) {
			return p, api.OK
		}
	}
	return api.Part{}, api.ErrNone
}

// putOf follows the definition of Put.
func putOf(m api.Message, parts []api.Part) (api.Message, api.Errno) {
	l, ok := normalsOf(parts)
	if !ok || len(parts) > 8 {
		return api.Message{}, api.ErrArg
	}
	r := m
	r.Headers, r.Body = nil, nil
	for _, h := range m.Headers {
		if !contentOf(h) {
			r.Headers = append(r.Headers, h)
		}
	}
	if len(l) == 1 {
		for _, h := range l[0].Headers {
			if !contentOf(h) || h.Name == "Content-Length" {
				return api.Message{}, api.ErrArg
			}
		}
		r.Headers, r.Body = append(r.Headers, l[0].Headers...), l[0].Body
	}
	if len(l) > 1 {
		boundary := newBoundaryOf(l)
		body, e := joinOf(l, boundary)
		if e != api.OK {
			return api.Message{}, e
		}
		r.Headers = append(r.Headers, headers("Content-Type", "multipart/mixed;boundary="+boundary)...)
		r.Body = []byte(body)
	}
	return r, api.OK
}
