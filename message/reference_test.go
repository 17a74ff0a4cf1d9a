package message_test

import (
	"fmt"
	"regexp"
	"slices"
	"strconv"
	"strings"

	"dialtone/address"
	"dialtone/api"
	"dialtone/header"
	"dialtone/lexis"
)

// This file reads messages word by word as the chapter defines them, for comparison.

const (
	tokenForm   = "[-A-Za-z0-9.!%*_+'~`]+"
	versionForm = "[Ss][Ii][Pp]/2[.]0"
)

var (
	requestForm  = regexp.MustCompile("^(" + tokenForm + ")[ \t]+([^ \t]+)[ \t]+" + versionForm + "$")
	responseForm = regexp.MustCompile("^" + versionForm + "[ \t]+([0-9]{3})(?:[ \t]+(?s:(.*)))?$")
	tokenOnly    = regexp.MustCompile("^" + tokenForm + "$")
)

// parsed follows the definition of Parse.
func parsed(s string) (api.Message, int, api.Errno) {
	if len(s) > 8192 {
		return api.Message{}, 8192, api.ErrLimit
	}
	head, body, found := strings.Cut(s, "\r\n\r\n")
	if !found {
		return api.Message{}, len(s), api.ErrShort
	}
	lines, at, e := lexis.Unfold(head + "\r\n")
	if e != api.OK {
		return api.Message{}, at, e
	}
	m, e := startOf(lines[0].Text)
	if e != api.OK {
		return api.Message{}, 0, e
	}
	m.Headers, at, e = headersOf(lines[1:])
	if e != api.OK {
		return api.Message{}, at, e
	}
	for _, h := range m.Headers {
		if h.Name == "Content-Length" {
			n, _ := strconv.Atoi(h.Value)
			if n > len(body) {
				return api.Message{}, len(s), api.ErrShort
			}
			body = body[:n]
		}
	}
	m.Body = []byte(body)
	m = joinedOf(m)
	if len(textOf(m)) > 8192 {
		return api.Message{}, 0, api.ErrLimit
	}
	return m, 0, api.OK
}

// startOf reads a start line.
func startOf(line string) (api.Message, api.Errno) {
	if f := responseForm.FindStringSubmatch(line); f != nil {
		code, _ := strconv.Atoi(f[1])
		if code < 100 || code > 699 {
			return api.Message{}, api.ErrRange
		}
		return api.Message{Code: code, Reason: f[2]}, api.OK
	}
	f := requestForm.FindStringSubmatch(line)
	if f == nil {
		return api.Message{}, api.ErrSyntax
	}
	u, _, e := address.Parse(f[2])
	if e != api.OK {
		return api.Message{}, e
	}
	uri, e := address.Print(u)
	return api.Message{Method: f[1], URI: uri}, e
}

// headersOf reads header lines; their values are tidied.
func headersOf(lines []api.Piece) ([]api.Header, int, api.Errno) {
	var l []api.Header
	for _, line := range lines {
		colon := strings.Index(line.Text, ":")
		if colon < 0 {
			return nil, line.At, api.ErrSyntax
		}
		canon, e := header.Canon(strings.TrimRight(line.Text[:colon], " \t"))
		if e != api.OK {
			return nil, line.At, api.ErrSyntax
		}
		value := strings.Trim(line.Text[colon+1:], " \t")
		if len(value) > 1024 {
			return nil, line.At, api.ErrLimit
		}
		value, e = header.Tidy(canon, value)
		if e != api.OK {
			return nil, line.At, e
		}
		if len(value) > 1024 {
			return nil, line.At, api.ErrLimit
		}
		if _, single := singles()[canon]; single && countOf(l, canon) > 0 {
			return nil, line.At, api.ErrDuplicate
		}
		l = append(l, api.Header{Name: canon, Value: value})
		if canon != "Content-Length" && len(l)-countOf(l, "Content-Length") > 64 {
			return nil, line.At, api.ErrLimit
		}
	}
	return l, 0, api.OK
}

func countOf(l []api.Header, name string) int {
	n := 0
	for _, h := range l {
		if h.Name == name {
			n++
		}
	}
	return n
}

// joinedOf joins the lists of a message with tidied headers, and puts Content-Length at its end.
func joinedOf(m api.Message) api.Message {
	var l []api.Header
	done := map[string]bool{"Content-Length": true}
	for _, h := range m.Headers {
		_, many := lists()[h.Name]
		if !many && h.Name != "Content-Length" {
			l = append(l, h)
		}
		if !many || done[h.Name] {
			continue
		}
		done[h.Name] = true
		var room []string // the elements of the present header
		for _, element := range elementsOf(m.Headers, h.Name) {
			if len(strings.Join(append(slices.Clone(room), element), ", ")) > 1024 {
				l = append(l, api.Header{Name: h.Name, Value: strings.Join(room, ", ")})
				room = nil
			}
			room = append(room, element)
		}
		l = append(l, api.Header{Name: h.Name, Value: strings.Join(room, ", ")})
	}
	m.Headers = append(l, api.Header{Name: "Content-Length", Value: fmt.Sprint(len(m.Body))})
	return m
}

func elementsOf(l []api.Header, name string) []string {
	var all []string
	for _, h := range l {
		if h.Name == name {
			elements, _ := header.List(h.Value)
			all = append(all, elements...)
		}
	}
	return all
}

// textOf returns the text of a message in normal form.
func textOf(m api.Message) string {
	s := fmt.Sprintf("SIP/2.0 %d %s\r\n", m.Code, m.Reason)
	if m.Code == 0 {
		s = fmt.Sprintf("%s %s SIP/2.0\r\n", m.Method, m.URI)
	}
	for _, h := range m.Headers {
		s += fmt.Sprintf("%s: %s\r\n", h.Name, h.Value)
	}
	return s + "\r\n" + string(m.Body)
}

// normalOf follows the definition of valid messages and of the normal form.
func normalOf(m api.Message) (api.Message, bool) {
	n := api.Message{Method: m.Method, Code: m.Code, Reason: m.Reason, Body: m.Body}
	if m.Code == 0 {
		u, _, e := address.Parse(m.URI)
		if e != api.OK || !tokenOnly.MatchString(m.Method) || m.Reason != "" {
			return api.Message{}, false
		}
		n.URI, _ = address.Print(u)
	} else if m.Code < 100 || m.Code > 699 || hasControl(m.Reason) || strings.Trim(m.Reason, " \t") != m.Reason || m.Method != "" || m.URI != "" {
		return api.Message{}, false
	}
	counts := map[string]int{}
	for _, h := range m.Headers {
		canon, e := header.Canon(h.Name)
		value, f := header.Tidy(h.Name, h.Value)
		counts[canon]++
		if _, single := singles()[canon]; e != api.OK || f != api.OK || len(h.Value) > 1024 || len(value) > 1024 || single && counts[canon] > 1 {
			return api.Message{}, false
		}
		n.Headers = append(n.Headers, api.Header{Name: canon, Value: value})
	}
	if len(m.Headers)-counts["Content-Length"] > 64 {
		return api.Message{}, false
	}
	n = joinedOf(n)
	return n, len(textOf(n)) <= 8192
}
