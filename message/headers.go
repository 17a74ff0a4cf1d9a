package message

import (
	"bytes"
	"slices"
	"strings"

	"dialtone/api"
	"dialtone/header"
)

const (
	viaName     = "Via"
	fromName    = "From"
	toName      = "To"
	callName    = "Call-ID"
	cseqName    = "CSeq"
	hopsName    = "Max-Forwards"
	contactName = "Contact"
	recordName  = "Record-Route"
	lengthName  = "Content-Length"

	separator = ", " // of the elements of a list
)

// isSingle reports whether a message has at most one header of a canonical name.
func isSingle(canon string) bool {
	switch canon {
	case callName, lengthName, "Content-Type", cseqName, "Event", "Expires", fromName, hopsName,
		"Min-SE", "RAck", "Refer-To", "RSeq", "Session-Expires", toName:
		return true
	}
	return false
}

// named returns a function that reports whether the name of a header is equal to name.
func named(name string) func(api.Header) bool {
	canon, e := header.Canon(name)
	return func(h api.Header) bool {
		other, _ := header.Canon(h.Name)
		return e == api.OK && other == canon
	}
}

// newHeader returns a header with the canonical name, if there is one.
func newHeader(name, value string) api.Header {
	if canon, e := header.Canon(name); e == api.OK {
		name = canon
	}
	return api.Header{Name: name, Value: value}
}

// copied returns m with headers and a body of its own.
func copied(m api.Message) api.Message {
	headers := make([]api.Header, len(m.Headers))
	copy(headers, m.Headers)
	m.Headers = headers
	m.Body = bytes.Clone(m.Body)
	return m
}

// Get returns the value of the first header of a name.
func Get(m api.Message, name string) (string, bool) {
	at := slices.IndexFunc(m.Headers, named(name))
	if at < 0 {
		return "", false
	}
	return m.Headers[at].Value, true
}

// All returns the values of all headers of a name.
func All(m api.Message, name string) []string { return values(m.Headers, name) }

// values returns the values of the headers of a name, lists divided into their elements.
func values(headers []api.Header, name string) []string {
	var l []string
	same, many := named(name), header.Many(name)
	for _, h := range headers {
		if !same(h) {
			continue
		}
		elements, e := header.List(h.Value)
		if !many || e != api.OK {
			elements = []string{h.Value}
		}
		l = append(l, elements...)
	}
	return l
}

// Set replaces the headers of a name.
func Set(m api.Message, name, value string) api.Message {
	at := slices.IndexFunc(m.Headers, named(name))
	m = Drop(m, name)
	if at < 0 {
		at = len(m.Headers)
	}
	m.Headers = slices.Insert(m.Headers, at, newHeader(name, value))
	return m
}

// Push puts a header before those of its name.
func Push(m api.Message, name, value string) api.Message {
	m = copied(m)
	at := max(slices.IndexFunc(m.Headers, named(name)), 0)
	m.Headers = slices.Insert(m.Headers, at, newHeader(name, value))
	return m
}

// Drop leaves out the headers of a name.
func Drop(m api.Message, name string) api.Message {
	m = copied(m)
	m.Headers = slices.DeleteFunc(m.Headers, named(name))
	return m
}

// DropFirst leaves out the first element of a name's headers.
func DropFirst(m api.Message, name string) api.Message {
	m = copied(m)
	at := slices.IndexFunc(m.Headers, named(name))
	if at < 0 {
		return m
	}
	elements, _ := header.List(m.Headers[at].Value)
	if header.Many(name) && len(elements) > 1 {
		m.Headers[at].Value = strings.Join(elements[1:], separator)
	} else {
		m.Headers = slices.Delete(m.Headers, at, at+1)
	}
	return m
}
