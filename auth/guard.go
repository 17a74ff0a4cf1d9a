package auth

import (
	"slices"
	"strconv"

	"dialtone/api"
	"dialtone/lexis"
)

// Valid reports whether a guard is valid.
func Valid(g api.Guard) bool {
	return isPrintable(g.Realm) && isPrintable(g.Key) &&
		g.Life >= 1 && g.Life <= api.MaxTime &&
		g.Issued >= 0 && g.Issued <= api.MaxNumber &&
		len(g.Nonces) <= api.MaxNonces && !slices.ContainsFunc(g.Nonces, isDamaged)
}

// isPrintable reports whether s contains no control character.
func isPrintable(s string) bool {
	_, e := lexis.Quote(s)
	return e == api.OK
}

func isDamaged(n api.Nonce) bool { return !isTime(n.At) || n.Last < 0 || n.Last > mostCount }

func isTime(t int) bool { return t >= 0 && t <= api.MaxTime }

// Issue returns a new challenge.
func Issue(g api.Guard, now int) (api.Guard, api.Challenge, api.Errno) {
	if !Valid(g) || g.Issued == api.MaxNumber || !isTime(now) {
		return api.Guard{}, api.Challenge{}, api.ErrArg
	}
	text := hashed(g.Key, strconv.Itoa(g.Issued), strconv.Itoa(now))
	g.Nonces = append(slices.Clone(g.Nonces), api.Nonce{Text: text, At: now})
	if len(g.Nonces) > api.MaxNonces {
		g.Nonces = g.Nonces[1:]
	}
	g.Issued++
	return g, api.Challenge{Realm: g.Realm, Nonce: text, Integrity: true}, api.OK
}

// Verify checks the credentials of a request.
func Verify(g api.Guard, users []api.Account, m api.Message, now int) (api.Guard, string, api.Errno) {
	if !Valid(g) || m.Code != 0 || !isTime(now) {
		return api.Guard{}, "", api.ErrArg
	}
	g.Nonces = slices.Clone(g.Nonces)
	c, ok := firstCredentials(m, g.Realm)
	if !ok {
		return g, "", api.ErrNone
	}
	if !proves(c, users, m) {
		return g, "", api.ErrAuth
	}
	at := lastNonce(g.Nonces, c.Nonce)
	if at < 0 || now-g.Nonces[at].At > g.Life {
		return g, "", api.ErrStale
	}
	if c.Count <= g.Nonces[at].Last {
		return g, "", api.ErrDuplicate
	}
	g.Nonces[at].Last = c.Count
	return g, c.User, api.OK
}

// firstCredentials returns the first credentials of m for a realm.
func firstCredentials(m api.Message, realm string) (api.Credentials, bool) {
	for _, h := range m.Headers {
		if c, ok := credentialsOf(h, realm); ok {
			return c, true
		}
	}
	return api.Credentials{}, false
}

// proves reports whether credentials are those of one of the users, for the request m.
func proves(c api.Credentials, users []api.Account, m api.Message) bool {
	at := slices.IndexFunc(users, func(a api.Account) bool { return a.User == c.User })
	return at >= 0 && c.URI == m.URI && c.Response == Response(users[at].Secret, c, m.Method, m.Body)
}

// lastNonce returns the index of the last nonce with a text, or -1.
func lastNonce(nonces []api.Nonce, text string) int {
	for i, n := range slices.Backward(nonces) {
		if n.Text == text {
			return i
		}
	}
	return -1
}
