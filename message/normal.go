package message

import (
	"bytes"
	"slices"
	"strconv"
	"strings"

	"dialtone/api"
	"dialtone/header"
)

// Normal returns the normal form of a message.
func Normal(m api.Message) (api.Message, api.Errno) {
	start, ok := normalStart(m)
	if !ok {
		return api.Message{}, api.ErrArg
	}
	h := newHead(start)
	for _, x := range m.Headers {
		if h.add(x.Name, x.Value) != api.OK {
			return api.Message{}, api.ErrArg
		}
	}
	n := h.complete(m.Body)
	if !fits(n) {
		return api.Message{}, api.ErrArg
	}
	return n, api.OK
}

// normalStart returns the start line of m in normal form, as a message without headers and body, if it is valid.
func normalStart(m api.Message) (api.Message, bool) {
	if m.Code == 0 {
		start, e := request(m.Method, m.URI)
		return start, e == api.OK && m.Reason == ""
	}
	start := api.Message{Code: m.Code, Reason: m.Reason}
	return start, isCode(m.Code) && isReason(m.Reason) && m.Method == "" && m.URI == ""
}

func isReason(s string) bool { return !hasControl(s) && strings.Trim(s, blanks) == s }

func hasControl(s string) bool {
	return strings.ContainsFunc(s, func(c rune) bool { return c < ' ' && c != '\t' || c == 127 })
}

// head is what is before the body of a message, as far as it was read.
type head struct {
	start   api.Message  // the start line in normal form
	headers []api.Header // in normal form, but not joined, and without Content-Length
	length  int          // what Content-Length says, or noLength
}

const noLength = -1

func newHead(start api.Message) head { return head{start: start, length: noLength} }

// read adds the header of a line.
func (h *head) read(line string) api.Errno {
	name, value, found := strings.Cut(line, ":")
	if !found {
		return api.ErrSyntax
	}
	return h.add(strings.TrimRight(name, blanks), strings.Trim(value, blanks))
}

// add puts a header behind the others, or returns what is wrong with it.
func (h *head) add(name, value string) api.Errno {
	canon, e := header.Canon(name)
	if e != api.OK {
		return e
	}
	value, e = tidied(canon, value)
	switch {
	case e != api.OK:
		return e
	case isSingle(canon) && h.has(canon):
		return api.ErrDuplicate
	case canon == lengthName:
		h.length, e = header.Number(value)
		return e
	case len(h.headers) == api.MaxHeaders:
		return api.ErrLimit
	}
	h.headers = append(h.headers, api.Header{Name: canon, Value: value})
	return api.OK
}

// tidied returns the normal form of a value, if both are short enough.
func tidied(canon, value string) (string, api.Errno) {
	if len(value) > api.MaxValue {
		return "", api.ErrLimit
	}
	value, e := header.Tidy(canon, value)
	if e == api.OK && len(value) > api.MaxValue {
		e = api.ErrLimit
	}
	return value, e
}

// has reports whether a header of a canonical name was read.
func (h *head) has(canon string) bool {
	if canon == lengthName {
		return h.length != noLength
	}
	return slices.ContainsFunc(h.headers, named(canon))
}

// complete returns the message with the head and a body in normal form.
func (h *head) complete(body []byte) api.Message {
	m := h.start
	length := api.Header{Name: lengthName, Value: strconv.Itoa(len(body))}
	m.Headers = append(joined(h.headers), length)
	m.Body = bytes.Clone(body)
	return m
}

// joined returns the headers, those of each name whose values may be lists in the place of the first one.
func joined(headers []api.Header) []api.Header {
	var l []api.Header
	for i, h := range headers {
		switch {
		case !header.Many(h.Name):
			l = append(l, h)
		case !slices.ContainsFunc(headers[:i], named(h.Name)):
			l = append(l, packed(h.Name, values(headers[i:], h.Name))...)
		}
	}
	return l
}

// packed returns as few headers of a name as have room for the elements.
func packed(name string, elements []string) []api.Header {
	var l []api.Header
	for _, element := range elements {
		last := len(l) - 1
		if last < 0 || len(l[last].Value)+len(separator)+len(element) > api.MaxValue {
			l = append(l, api.Header{Name: name, Value: element})
			continue
		}
		l[last].Value += separator + element
	}
	return l
}
