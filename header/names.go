package header

import (
	"dialtone/api"
	"dialtone/lexis"
)

const mostName = 64 // bytes of a name

// kind says what the values of a name are.
type kind uint8

// The kinds of values.
const (
	kindText kind = iota
	kindAddress
	kindVia
	kindCSeq
	kindRAck
	kindNumber
	kindItem
	kindToken
)

const contactName = "Contact"

// kinds contains the canonical names whose values are no texts; many says whether they may be lists.
var kinds = [...]struct {
	name string
	kind kind
	many bool
}{
	{"From", kindAddress, false},
	{"To", kindAddress, false},
	{contactName, kindAddress, true},
	{"Route", kindAddress, true},
	{"Record-Route", kindAddress, true},
	{"Path", kindAddress, true},
	{"Service-Route", kindAddress, true},
	{"Refer-To", kindAddress, false},
	{"Referred-By", kindAddress, false},
	{"Reply-To", kindAddress, false},
	{"Via", kindVia, true},
	{"CSeq", kindCSeq, false},
	{"RAck", kindRAck, false},
	{"Content-Length", kindNumber, false},
	{"Expires", kindNumber, false},
	{"Max-Forwards", kindNumber, false},
	{"Min-Expires", kindNumber, false},
	{"RSeq", kindNumber, false},
	{"Content-Disposition", kindItem, false},
	{"Content-Type", kindItem, false},
	{"Event", kindItem, false},
	{"Min-SE", kindItem, false},
	{"Session-Expires", kindItem, false},
	{"Subscription-State", kindItem, false},
	{"Accept", kindToken, true},
	{"Allow", kindToken, true},
	{"Allow-Events", kindToken, true},
	{"Proxy-Require", kindToken, true},
	{"Require", kindToken, true},
	{"Supported", kindToken, true},
	{"Unsupported", kindToken, true},
}

// shorts contains the names for which one letter, here in lower case, stands.
var shorts = [...]struct{ letter, name string }{
	{"b", "Referred-By"},
	{"c", "Content-Type"},
	{"e", "Content-Encoding"},
	{"f", "From"},
	{"i", "Call-ID"},
	{"k", "Supported"},
	{"l", "Content-Length"},
	{"m", contactName},
	{"o", "Event"},
	{"r", "Refer-To"},
	{"s", "Subject"},
	{"t", "To"},
	{"u", "Allow-Events"},
	{"v", "Via"},
	{"x", "Session-Expires"},
}

// specials contains the canonical names with other letters in upper case than the first of each word.
var specials = [...]string{"Call-ID", "CSeq", "MIME-Version", "Min-SE", "RAck", "RSeq", "WWW-Authenticate"}

// Canon returns the canonical name.
func Canon(name string) (string, api.Errno) {
	if !lexis.Token(name) || len(name) > mostName {
		return "", api.ErrSyntax
	}
	lowered := eachByte(name, lower)
	for _, short := range shorts {
		if short.letter == lowered {
			return short.name, api.OK
		}
	}
	for _, special := range specials {
		if eachByte(special, lower) == lowered {
			return special, api.OK
		}
	}
	return capitalized(lowered), api.OK
}

// Many reports whether values may be lists.
func Many(name string) bool {
	canon, _ := Canon(name) // without a canonical name it is empty, and the name of no list
	_, many := kindOf(canon)
	return many
}

// kindOf returns the kind of the values of a canonical name, and whether they may be lists.
func kindOf(canon string) (k kind, many bool) {
	for _, row := range kinds {
		if row.name == canon {
			return row.kind, row.many
		}
	}
	return kindText, false
}

// capitalized returns a name in lower case with the first letter of each word in upper case.
func capitalized(name string) string {
	first := true
	return eachByte(name, func(c byte) byte {
		if first {
			c = upper(c)
		}
		first = c == '-'
		return c
	})
}

// eachByte returns s with each byte replaced by what change returns for it, from the front.
func eachByte(s string, change func(byte) byte) string {
	b := []byte(s)
	for i, c := range b {
		b[i] = change(c)
	}
	return string(b)
}

func upper(c byte) byte {
	if 'a' <= c && c <= 'z' {
		return c - 'a' + 'A'
	}
	return c
}

func lower(c byte) byte {
	if 'A' <= c && c <= 'Z' {
		return c - 'A' + 'a'
	}
	return c
}
