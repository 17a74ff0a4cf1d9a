package auth

import (
	"slices"
	"strings"

	"dialtone/api"
	"dialtone/lexis"
)

const (
	blanks    = " \t"
	scheme    = "Digest" // the word with which a text begins
	separator = ", "     // of fields that are written
)

// finder returns the value of the field of a lowered name, and whether there is one.
type finder func(name string) (string, bool)

// value returns the value of a field, or the empty string if it is missing.
func (find finder) value(name string) string {
	value, _ := find(name)
	return value
}

// lacks reports whether one of the fields is missing.
func (find finder) lacks(names ...string) bool {
	return slices.ContainsFunc(names, func(name string) bool {
		_, ok := find(name)
		return !ok
	})
}

// says reports whether the value of a field is a word, in letters of either case.
func (find finder) says(name, word string) bool {
	return lowered(find.value(name)) == lowered(word)
}

// readFields reads the fields of a text.
func readFields(s string) (finder, api.Errno) {
	list, ok := cutScheme(strings.Trim(s, blanks))
	if !ok {
		return nil, api.ErrUnsupported
	}
	pieces, _, e := lexis.Split(list, ',')
	if e != api.OK {
		return nil, e
	}
	values := map[string]string{}
	for _, p := range pieces {
		name, value, ok := readField(p.Text)
		if !ok {
			return nil, api.ErrSyntax
		}
		if _, ok := values[name]; ok {
			return nil, api.ErrDuplicate
		}
		values[name] = value
	}
	return func(name string) (string, bool) {
		value, ok := values[name]
		return value, ok
	}, api.OK
}

// cutScheme returns what is behind the scheme and the blanks with which s begins.
func cutScheme(s string) (string, bool) {
	end := len(scheme)
	at := lexis.Blanks(s, end) // the length of s, if that is less than end
	return s[at:], at > end && lowered(s[:end]) == lowered(scheme)
}

// readField returns the lowered name and the value of a field.
func readField(s string) (name, value string, ok bool) {
	name, value, ok = strings.Cut(s, "=")
	name = strings.TrimRight(name, blanks)
	if !ok || !lexis.Token(name) {
		return "", "", false
	}
	value, ok = readValue(strings.TrimLeft(value, blanks))
	return lowered(name), value, ok
}

// readValue returns a token, or the content of a quoted string.
func readValue(s string) (string, bool) {
	if lexis.Token(s) {
		return s, true
	}
	content, end, e := lexis.Unquote(s, 0)
	return content, e == api.OK && end == len(s)
}

// writer collects the fields of a text.
type writer struct {
	fields []string
	failed bool // whether a value cannot be quoted
}

// token adds a field with a token.
func (w *writer) token(name, value string) {
	w.fields = append(w.fields, name+"="+value)
}

// quoted adds a field with a quoted string.
func (w *writer) quoted(name, content string) {
	value, e := lexis.Quote(content)
	if e != api.OK {
		w.failed = true
	}
	w.token(name, value)
}

// text returns the text of the fields.
func (w *writer) text() (string, api.Errno) {
	if w.failed {
		return "", api.ErrArg
	}
	return scheme + " " + strings.Join(w.fields, separator), api.OK
}

// lowered returns s with the letters A to Z, and no others, replaced by a to z.
func lowered(s string) string {
	b := []byte(s)
	for i, c := range b {
		if 'A' <= c && c <= 'Z' {
			b[i] = c - 'A' + 'a'
		}
	}
	return string(b)
}
