package header

import (
	"iter"
	"strconv"
	"strings"

	"dialtone/address"
	"dialtone/api"
	"dialtone/lexis"
)

const (
	protocol   = "SIP/2.0/"
	branchName = "branch"
	mostPort   = 65535
)

// Via reads a value of Via.
func Via(value string) (api.Via, api.Errno) {
	transport, rest, ok := cutTransport(trimmed(value))
	if !ok {
		return api.Via{}, api.ErrSyntax
	}
	place, list := cutBefore(rest, ";"+blanks)
	host, port, e := readPlace(place)
	if e != api.OK {
		return api.Via{}, e
	}
	params, _, e := address.Params(list)
	if e != api.OK {
		return api.Via{}, e
	}
	branch, _ := address.Get(params, branchName)
	return api.Via{Transport: transport, Host: host, Port: port, Branch: branch, Params: params}, api.OK
}

// cutTransport reads the beginning of a Via and the blanks behind it, and returns what follows.
func cutTransport(value string) (transport, rest string, ok bool) {
	if len(value) < len(protocol) || eachByte(value[:len(protocol)], upper) != protocol {
		return "", "", false
	}
	value = value[len(protocol):]
	end := lexis.TokenEnd(value, 0)
	from := lexis.Blanks(value, end)
	if end == 0 || from == end {
		return "", "", false
	}
	return eachByte(value[:end], upper), value[from:], true
}

// readPlace reads a host, and the port behind it if there is one.
func readPlace(place string) (host string, port int, e api.Errno) {
	colon := strings.LastIndexByte(place, ':')
	hasPort := colon > strings.LastIndexByte(place, ']') // a colon before a ] belongs to the host
	name := place
	if hasPort {
		name = place[:colon]
	}
	host, ok := address.Host(name)
	if !ok {
		return "", 0, api.ErrSyntax
	}
	if !hasPort {
		return host, 0, api.OK
	}
	port, e = lexis.Number(place[colon+1:])
	if e == api.OK && (port < 1 || port > mostPort) {
		e = api.ErrRange
	}
	if e != api.OK {
		return "", 0, e
	}
	return host, port, api.OK
}

// PrintVia writes a value of Via.
func PrintVia(v api.Via) (string, api.Errno) {
	host, ok := address.Host(v.Host)
	if !ok || !lexis.Token(v.Transport) || v.Port < 0 || v.Port > mostPort {
		return "", api.ErrArg
	}
	params, e := address.PrintParams(sorted(viaParams(v)))
	if e != api.OK {
		return "", api.ErrArg
	}
	port := ""
	if v.Port != 0 {
		port = ":" + strconv.Itoa(v.Port)
	}
	return protocol + eachByte(v.Transport, upper) + " " + host + port + params, api.OK
}

// viaParams yields the parameters of v; the only branch among them is v.Branch.
func viaParams(v api.Via) iter.Seq[api.Param] {
	return func(yield func(api.Param) bool) {
		for _, p := range v.Params {
			if p.Name != branchName && !yield(p) {
				return
			}
		}
		if v.Branch != "" {
			yield(api.Param{Name: branchName, Value: v.Branch, Has: true})
		}
	}
}
