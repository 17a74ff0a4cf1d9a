package message

import (
	"dialtone/address"
	"dialtone/api"
	"dialtone/header"
)

const (
	invite  = "INVITE"
	tagName = "tag"

	leastDialog = 101 // the codes of responses that may set up a dialog
	mostDialog  = 299
)

// Check reports what a message lacks.
func Check(m api.Message) api.Errno {
	m, e := Normal(m)
	if e != api.OK {
		return e
	}
	for _, name := range required(m) {
		if _, ok := Get(m, name); !ok {
			return api.ErrNone
		}
	}
	from, _ := Get(m, fromName)
	if _, ok := Branch(m); !ok || header.Tag(from) == "" {
		return api.ErrNone
	}
	if id, _ := Get(m, callName); id == "" {
		return api.ErrSyntax
	}
	cseq, _ := Get(m, cseqName)
	if _, method, _ := header.CSeq(cseq); m.Code == 0 && m.Method != method {
		return api.ErrArg
	}
	return api.OK
}

// required returns the names of the headers that m must have.
func required(m api.Message) []string {
	names := []string{viaName, fromName, toName, callName, cseqName}
	if m.Code == 0 {
		names = append(names, hopsName)
	}
	if m.Method == invite {
		names = append(names, contactName)
	}
	return names
}

// Reply returns a response to a request.
func Reply(m api.Message, code int, reason, tag string) (api.Message, api.Errno) {
	m, e := Normal(m)
	if e != api.OK || m.Code != 0 || hasControl(tag) {
		return api.Message{}, api.ErrArg
	}
	r := api.Message{Code: code, Reason: reason} // with the code 0 a request without a method, which is not valid, either
	for _, h := range m.Headers {
		if !returned(h.Name, code) {
			continue
		}
		if h.Name == toName {
			h.Value = withTag(h.Value, tag)
		}
		r.Headers = append(r.Headers, h)
	}
	return Normal(r)
}

// returned reports whether a response with a code has the headers of a canonical name from its request.
func returned(canon string, code int) bool {
	switch canon {
	case viaName, fromName, toName, callName, cseqName:
		return true
	case recordName:
		return code >= leastDialog && code <= mostDialog
	}
	return false
}

// withTag returns a value of To with a tag, if it has none and the tag is not empty. If that makes too many parameters, it returns the empty string, which is no value of To.
func withTag(value, tag string) string {
	if tag == "" || header.Tag(value) != "" {
		return value
	}
	a, _ := header.Address(value)
	a.Params = address.Set(a.Params, tagName, tag)
	value, _ = address.PrintAddress(a)
	return value
}

// Branch returns the branch of the first value of Via.
func Branch(m api.Message) (string, bool) {
	l := All(m, viaName)
	if len(l) == 0 {
		return "", false
	}
	v, _ := header.Via(l[0])
	return v.Branch, v.Branch != ""
}
