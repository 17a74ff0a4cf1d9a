package header

import (
	"strconv"
	"strings"

	"dialtone/address"
	"dialtone/api"
)

// Tidy returns the normal form of a value.
func Tidy(name, value string) (string, api.Errno) {
	canon, e := Canon(name)
	if e != api.OK {
		return "", e
	}
	k, many := kindOf(canon)
	if !many {
		return tidyOne(k, value)
	}
	elements, e := List(value)
	if e != api.OK {
		return "", e
	}
	for i, element := range elements {
		if canon == contactName && element == asterisk {
			continue
		}
		elements[i], e = tidyOne(k, element)
		if e != api.OK {
			return "", e
		}
	}
	return strings.Join(elements, separator), api.OK
}

// tidyOne returns the normal form of a value that is no list, or of an element.
func tidyOne(k kind, value string) (string, api.Errno) {
	switch k {
	case kindAddress:
		return rewritten(value, Address, address.PrintAddress)
	case kindVia:
		return rewritten(value, Via, PrintVia)
	case kindItem, kindToken:
		return rewritten(value, Item, PrintItem)
	case kindCSeq:
		return tidyCSeq(value)
	case kindRAck:
		return tidyRAck(value)
	case kindNumber:
		return tidyNumber(value)
	}
	return tidyText(value)
}

// rewritten returns what write makes of what read finds in a value.
func rewritten[T any](value string, read func(string) (T, api.Errno), write func(T) (string, api.Errno)) (string, api.Errno) {
	x, e := read(value)
	if e != api.OK {
		return "", e
	}
	return write(x)
}

func tidyCSeq(value string) (string, api.Errno) {
	n, method, e := CSeq(value)
	if e != api.OK {
		return "", e
	}
	return strconv.Itoa(n) + " " + method, api.OK
}

func tidyRAck(value string) (string, api.Errno) {
	seq, n, method, e := RAck(value)
	if e != api.OK {
		return "", e
	}
	return strconv.Itoa(seq) + " " + strconv.Itoa(n) + " " + method, api.OK
}

func tidyNumber(value string) (string, api.Errno) {
	n, e := Number(value)
	if e != api.OK {
		return "", e
	}
	return strconv.Itoa(n), api.OK
}

func tidyText(value string) (string, api.Errno) {
	text := trimmed(value)
	for i := range len(text) {
		if control(text[i]) {
			return "", api.ErrSyntax
		}
	}
	return text, api.OK
}

func control(c byte) bool { return c < ' ' && c != '\t' || c == 127 }
