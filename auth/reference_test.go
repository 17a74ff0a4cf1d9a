package auth_test

import (
	"fmt"
	"regexp"
	"slices"
	"strconv"
	"strings"

	"dialtone/api"
	"dialtone/lexis"
)

const tokenForm = "[-A-Za-z0-9.!%*_+'~`]+"

var (
	schemeForm    = regexp.MustCompile("^[dD][iI][gG][eE][sS][tT][ \t]+((?s:.*))$")
	fieldForm     = regexp.MustCompile("^(" + tokenForm + ")[ \t]*=[ \t]*(?:(" + tokenForm + ")|\"((?:\\\\[ -~]|[^\\x00-\\x08\\x0a-\\x1f\\x7f\"\\\\])*)\")$")
	escapeForm    = regexp.MustCompile(`\\([ -~])`)
	algorithmForm = regexp.MustCompile("^[sS][hH][aA]-256$")
	trueForm      = regexp.MustCompile("^[tT][rR][uU][eE]$")
	countForm     = regexp.MustCompile("^[0-9a-fA-F]{8}$")
)

// plainField is a field, with its name in lower case.
type plainField struct{ name, value string }

// plainFields follows the definition of the text of a challenge or of credentials.
func plainFields(s string) ([]plainField, api.Errno) {
	m := schemeForm.FindStringSubmatch(strings.Trim(s, " \t"))
	if m == nil {
		return nil, api.ErrUnsupported
	}
	pieces, _, e := lexis.Split(m[1], ',')
	if e != api.OK {
		return nil, e
	}
	var l []plainField
	for _, p := range pieces {
		m := fieldForm.FindStringSubmatch(p.Text)
		if m == nil {
			return nil, api.ErrSyntax
		}
		f := plainField{strings.ToLower(m[1]), m[2] + escapeForm.ReplaceAllString(m[3], "$1")}
		if _, ok := plainValue(l, f.name); ok {
			return nil, api.ErrDuplicate
		}
		l = append(l, f)
	}
	return l, api.OK
}

// plainValue returns the value of a field.
func plainValue(l []plainField, name string) (string, bool) {
	for _, f := range l {
		if f.name == name {
			return f.value, true
		}
	}
	return "", false
}

// plainChallenge follows the definition of P7.3.
func plainChallenge(s string) (api.Challenge, api.Errno) {
	l, e := plainFields(s)
	if e != api.OK {
		return api.Challenge{}, e
	}
	realm, hasRealm := plainValue(l, "realm")
	nonce, hasNonce := plainValue(l, "nonce")
	opaque, _ := plainValue(l, "opaque")
	algorithm, _ := plainValue(l, "algorithm")
	qop, _ := plainValue(l, "qop")
	stale, _ := plainValue(l, "stale")
	offers := regexp.MustCompile("[ \t]*,[ \t]*").Split(strings.Trim(qop, " \t"), -1)
	switch {
	case !hasRealm || !hasNonce:
		return api.Challenge{}, api.ErrNone
	case !algorithmForm.MatchString(algorithm):
		return api.Challenge{}, api.ErrUnsupported
	case !slices.Contains(offers, "auth"):
		return api.Challenge{}, api.ErrUnsupported
	}
	return api.Challenge{Realm: realm, Nonce: nonce, Opaque: opaque, Integrity: slices.Contains(offers, "auth-int"), Stale: trueForm.MatchString(stale)}, api.OK
}

// plainCredentials follows the definition of P7.5.
func plainCredentials(s string) (api.Credentials, api.Errno) {
	l, e := plainFields(s)
	if e != api.OK {
		return api.Credentials{}, e
	}
	var c api.Credentials
	var count string
	for _, x := range []struct {
		name string
		to   *string
	}{{"username", &c.User}, {"realm", &c.Realm}, {"nonce", &c.Nonce}, {"uri", &c.URI}, {"response", &c.Response}, {"cnonce", &c.Cnonce}, {"nc", &count}} {
		value, ok := plainValue(l, x.name)
		if !ok {
			return api.Credentials{}, api.ErrNone
		}
		*x.to = value
	}
	c.Opaque, _ = plainValue(l, "opaque")
	if algorithm, _ := plainValue(l, "algorithm"); !algorithmForm.MatchString(algorithm) {
		return api.Credentials{}, api.ErrUnsupported
	}
	qop, _ := plainValue(l, "qop")
	if qop != "auth" && qop != "auth-int" {
		return api.Credentials{}, api.ErrUnsupported
	}
	if !countForm.MatchString(count) {
		return api.Credentials{}, api.ErrSyntax
	}
	c.Integrity = qop == "auth-int"
	n, _ := strconv.ParseInt(count, 16, 64)
	c.Count = int(n)
	return c, api.OK
}

// plainQuote follows the definition of P1.4.
func plainQuote(s string) string {
	return `"` + strings.NewReplacer(`"`, `\"`, `\`, `\\`).Replace(s) + `"`
}

// plainResponse follows the definition of the response.
func plainResponse(secret string, c api.Credentials, method string, body []byte) string {
	count := fmt.Sprintf("%08x", c.Count&0xffffffff)
	if c.Integrity {
		return digest(secret + ":" + c.Nonce + ":" + count + ":" + c.Cnonce + ":auth-int:" + digest(method+":"+c.URI+":"+digest(string(body))))
	}
	return digest(secret + ":" + c.Nonce + ":" + count + ":" + c.Cnonce + ":auth:" + digest(method+":"+c.URI))
}

// plainPrinted follows the definition of P7.6, for credentials without control characters.
func plainPrinted(c api.Credentials) string {
	qop := "auth"
	if c.Integrity {
		qop = "auth-int"
	}
	s := fmt.Sprintf("Digest username=%s, realm=%s, nonce=%s, uri=%s, response=%s, algorithm=SHA-256, cnonce=%s, qop=%s, nc=%08x",
		plainQuote(c.User), plainQuote(c.Realm), plainQuote(c.Nonce), plainQuote(c.URI), plainQuote(c.Response), plainQuote(c.Cnonce), qop, c.Count)
	if c.Opaque != "" {
		s += ", opaque=" + plainQuote(c.Opaque)
	}
	return s
}

// plainOffered follows the definition of P7.4, for a challenge without control characters.
func plainOffered(c api.Challenge) string {
	l := []string{"realm=" + plainQuote(c.Realm), "nonce=" + plainQuote(c.Nonce), "opaque=" + plainQuote(c.Opaque), "algorithm=SHA-256", `qop="auth"`, "stale=true"}
	if c.Integrity {
		l[4] = `qop="auth,auth-int"`
	}
	if !c.Stale {
		l = l[:5]
	}
	if c.Opaque == "" {
		l = slices.Delete(l, 2, 3)
	}
	return "Digest " + strings.Join(l, ", ")
}

// plainCredentialsIn returns whether a header holds credentials for a realm.
func plainCredentialsIn(h api.Header, realm string) (api.Credentials, bool) {
	c, e := plainCredentials(h.Value)
	return c, strings.EqualFold(h.Name, "Authorization") && e == api.OK && c.Realm == realm
}

// plainAnswer follows the definition of P7.7.
func plainAnswer(c api.Challenge, a api.Credentials, password string, m api.Message) (api.Message, api.Errno) {
	if m.Code != 0 || a.Count < 1 || a.Count > 4294967295 || a.Integrity && !c.Integrity || hasControl(a.User+c.Realm+c.Nonce+m.URI+a.Cnonce+c.Opaque) {
		return api.Message{}, api.ErrArg
	}
	made := api.Credentials{User: a.User, Cnonce: a.Cnonce, Count: a.Count, Integrity: a.Integrity, Realm: c.Realm, Nonce: c.Nonce, Opaque: c.Opaque, URI: m.URI}
	made.Response = plainResponse(digest(a.User+":"+c.Realm+":"+password), made, m.Method, m.Body)
	m = cloneMessage(m)
	var kept []api.Header
	for _, h := range m.Headers {
		if _, ok := plainCredentialsIn(h, c.Realm); !ok {
			kept = append(kept, h)
		}
	}
	m.Headers = append(kept, api.Header{Name: "Authorization", Value: plainPrinted(made)})
	return m, api.OK
}

// plainValid follows the definition of a valid guard.
func plainValid(g api.Guard) bool {
	ok := !hasControl(g.Realm) && !hasControl(g.Key) && 1 <= g.Life && g.Life <= 1<<40 && 0 <= g.Issued && g.Issued <= 2147483647 && len(g.Nonces) <= 64
	for _, n := range g.Nonces {
		ok = ok && 0 <= n.At && n.At <= 1<<40 && 0 <= n.Last && n.Last <= 4294967295
	}
	return ok
}

// plainVerify follows the definition of P7.10.
func plainVerify(g api.Guard, users []api.Account, m api.Message, now int) (api.Guard, string, api.Errno) {
	if !plainValid(g) || m.Code != 0 || now < 0 || now > 1<<40 {
		return api.Guard{}, "", api.ErrArg
	}
	g = cloneGuard(g)
	var found []api.Credentials
	for _, h := range m.Headers {
		if c, ok := plainCredentialsIn(h, g.Realm); ok {
			found = append(found, c)
		}
	}
	if len(found) == 0 {
		return g, "", api.ErrNone
	}
	c := found[0]
	var secrets []string
	for _, u := range users {
		if u.User == c.User {
			secrets = append(secrets, u.Secret)
		}
	}
	if c.URI != m.URI || len(secrets) == 0 || plainResponse(secrets[0], c, m.Method, m.Body) != c.Response {
		return g, "", api.ErrAuth
	}
	last := -1
	for i, n := range g.Nonces {
		if n.Text == c.Nonce {
			last = i
		}
	}
	switch {
	case last < 0 || g.Nonces[last].At+g.Life < now:
		return g, "", api.ErrStale
	case g.Nonces[last].Last >= c.Count:
		return g, "", api.ErrDuplicate
	}
	g.Nonces[last].Last = c.Count
	return g, c.User, api.OK
}
