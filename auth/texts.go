package auth

import (
	"slices"
	"strings"

	"dialtone/api"
	"dialtone/hash"
)

// The names of fields.
const (
	userField      = "username"
	realmField     = "realm"
	nonceField     = "nonce"
	uriField       = "uri"
	responseField  = "response"
	algorithmField = "algorithm"
	cnonceField    = "cnonce"
	qopField       = "qop"
	countField     = "nc"
	opaqueField    = "opaque"
	staleField     = "stale"
)

// What fields say.
const (
	algorithm = "SHA-256"
	authOnly  = "auth"
	authInt   = "auth-int"
	yes       = "true"
)

// ParseChallenge reads a challenge.
func ParseChallenge(s string) (api.Challenge, api.Errno) {
	find, e := readFields(s)
	if e != api.OK {
		return api.Challenge{}, e
	}
	if find.lacks(realmField, nonceField) {
		return api.Challenge{}, api.ErrNone
	}
	offers := words(find.value(qopField))
	if !find.says(algorithmField, algorithm) || !slices.Contains(offers, authOnly) {
		return api.Challenge{}, api.ErrUnsupported
	}
	return api.Challenge{
		Realm:     find.value(realmField),
		Nonce:     find.value(nonceField),
		Opaque:    find.value(opaqueField),
		Integrity: slices.Contains(offers, authInt),
		Stale:     find.says(staleField, yes),
	}, api.OK
}

// words returns the words of a list.
func words(list string) []string {
	l := strings.Split(list, ",")
	for i, word := range l {
		l[i] = strings.Trim(word, blanks)
	}
	return l
}

// PrintChallenge writes a challenge.
func PrintChallenge(c api.Challenge) (string, api.Errno) {
	var w writer
	w.quoted(realmField, c.Realm)
	w.quoted(nonceField, c.Nonce)
	if c.Opaque != "" {
		w.quoted(opaqueField, c.Opaque)
	}
	w.token(algorithmField, algorithm)
	if c.Integrity {
		w.quoted(qopField, authOnly+","+authInt)
	} else {
		w.quoted(qopField, authOnly)
	}
	if c.Stale {
		w.token(staleField, yes)
	}
	return w.text()
}

// ParseCredentials reads credentials.
func ParseCredentials(s string) (api.Credentials, api.Errno) {
	find, e := readFields(s)
	if e != api.OK {
		return api.Credentials{}, e
	}
	if find.lacks(userField, realmField, nonceField, uriField, responseField, cnonceField, countField) {
		return api.Credentials{}, api.ErrNone
	}
	qop := find.value(qopField)
	if !find.says(algorithmField, algorithm) || qop != authOnly && qop != authInt {
		return api.Credentials{}, api.ErrUnsupported
	}
	count, e := readCount(find.value(countField))
	if e != api.OK {
		return api.Credentials{}, e
	}
	return api.Credentials{
		User:      find.value(userField),
		Realm:     find.value(realmField),
		Nonce:     find.value(nonceField),
		URI:       find.value(uriField),
		Response:  find.value(responseField),
		Cnonce:    find.value(cnonceField),
		Opaque:    find.value(opaqueField),
		Count:     count,
		Integrity: qop == authInt,
	}, api.OK
}

// readCount returns the count with the digits s.
func readCount(s string) (int, api.Errno) {
	if len(s) != countDigits {
		return 0, api.ErrSyntax
	}
	b, e := hash.Unhex(s)
	count := 0
	for _, c := range b {
		count = count<<8 | int(c)
	}
	return count, e
}

// PrintCredentials writes credentials.
func PrintCredentials(c api.Credentials) (string, api.Errno) {
	if c.Count < 0 || c.Count > mostCount {
		return "", api.ErrArg
	}
	var w writer
	w.quoted(userField, c.User)
	w.quoted(realmField, c.Realm)
	w.quoted(nonceField, c.Nonce)
	w.quoted(uriField, c.URI)
	w.quoted(responseField, c.Response)
	w.token(algorithmField, algorithm)
	w.quoted(cnonceField, c.Cnonce)
	w.token(qopField, protection(c.Integrity))
	w.token(countField, countText(c.Count))
	if c.Opaque != "" {
		w.quoted(opaqueField, c.Opaque)
	}
	return w.text()
}
