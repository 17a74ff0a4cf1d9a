package auth_test

import (
	"slices"
	"strconv"
	"testing"

	"dialtone/api"
	"dialtone/auth"
)

const (
	mostTime   = 1 << 40
	mostNumber = 2147483647
	mostCount  = 4294967295
)

// changedGuards returns guards that differ from g in one way, and whether each is valid.
func changedGuards(g api.Guard) ([]api.Guard, []bool) {
	var guards []api.Guard
	var valid []bool
	add := func(ok bool, change func(*api.Guard)) {
		x := cloneGuard(g)
		change(&x)
		guards, valid = append(guards, x), append(valid, ok)
	}
	for _, s := range []string{"", "a b", "\t", "\u00e9", "\xff", `"\`, "a\x00", "\x1f", "\x7f", "\r\n", "\x80", "~"} {
		add(!hasControl(s), func(g *api.Guard) { g.Realm = s })
		add(!hasControl(s), func(g *api.Guard) { g.Key = s })
	}
	for _, n := range []int{-1 << 63, -1, 0, 1, 2, mostTime - 1, mostTime, mostTime + 1, 1<<63 - 1} {
		add(n >= 1 && n <= mostTime, func(g *api.Guard) { g.Life = n })
	}
	for _, n := range []int{-1 << 63, -1, 0, 1, mostNumber - 1, mostNumber, mostNumber + 1, 1<<63 - 1} {
		add(n >= 0 && n <= mostNumber, func(g *api.Guard) { g.Issued = n })
	}
	for _, n := range []int{0, 1, 63, 64, 65, 66, 1000} {
		add(n <= 64, func(g *api.Guard) { g.Nonces = nonces(n) })
	}
	for _, at := range []int{0, 30, 63} {
		for _, n := range []int{-1 << 63, -1, 0, mostTime, mostTime + 1, 1<<63 - 1} {
			add(n >= 0 && n <= mostTime, func(g *api.Guard) {
				g.Nonces = nonces(64)
				g.Nonces[at].At = n
			})
		}
		for _, n := range []int{-1 << 63, -1, 0, mostCount, mostCount + 1, 1<<63 - 1} {
			add(n >= 0 && n <= mostCount, func(g *api.Guard) {
				g.Nonces = nonces(64)
				g.Nonces[at].Last = n
			})
		}
		add(true, func(g *api.Guard) {
			g.Nonces = nonces(64)
			g.Nonces[at].Text = "\x00\xff"
		})
		add(true, func(g *api.Guard) {
			g.Nonces = nonces(64)
			g.Nonces[at].Text = ""
		})
	}
	add(false, func(g *api.Guard) { *g = api.Guard{} })
	return guards, valid
}

// P7.8
func TestValid(t *testing.T) {
	guards, valid := changedGuards(api.Guard{Realm: "r", Key: "k", Life: 100})
	for i, g := range guards {
		if got := auth.Valid(g); got != valid[i] {
			t.Errorf("Valid(%+v) = %v", g, got)
		}
	}
	same := []api.Nonce{{Text: "a", At: 9, Last: 9}, {Text: "a", At: 3}}
	if !auth.Valid(api.Guard{Life: 1, Nonces: same}) {
		t.Error("Valid reports false for two nonces with one text, the second one older")
	}
}

// P7.9
func TestIssue(t *testing.T) {
	g, c, e := auth.Issue(api.Guard{Realm: "r", Key: "k", Life: 100}, 1000)
	text := digest("k:0:1000")
	want := api.Guard{Realm: "r", Key: "k", Life: 100, Issued: 1, Nonces: []api.Nonce{{Text: text, At: 1000}}}
	if !sameGuard(g, want) || c != (api.Challenge{Realm: "r", Nonce: text, Integrity: true}) || e != api.OK {
		t.Errorf("Issue = %+v, %+v, %d; want %+v", g, c, e, want)
	}
	g.Nonces[0].Last = 5
	g, c, e = auth.Issue(g, 0)
	second := digest("k:1:0")
	want = api.Guard{Realm: "r", Key: "k", Life: 100, Issued: 2, Nonces: []api.Nonce{{Text: text, At: 1000, Last: 5}, {Text: second}}}
	if !sameGuard(g, want) || c != (api.Challenge{Realm: "r", Nonce: second, Integrity: true}) || e != api.OK {
		t.Errorf("Issue = %+v, %+v, %d; want %+v", g, c, e, want)
	}
	g, c, e = auth.Issue(api.Guard{Key: ":\xff", Life: mostTime, Issued: mostNumber - 1}, mostTime)
	text = digest(":\xff:2147483646:1099511627776")
	want = api.Guard{Key: ":\xff", Life: mostTime, Issued: mostNumber, Nonces: []api.Nonce{{Text: text, At: mostTime}}}
	if !sameGuard(g, want) || c != (api.Challenge{Nonce: text, Integrity: true}) || e != api.OK {
		t.Errorf("Issue = %+v, %+v, %d; want %+v", g, c, e, want)
	}
}

// P7.9: what is left out when there are too many nonces
func TestIssueMany(t *testing.T) {
	g := api.Guard{Realm: "r", Key: "k", Life: 1}
	var texts []string
	for i := range 200 {
		var e api.Errno
		if g, _, e = auth.Issue(g, i*2); e != api.OK {
			t.Fatalf("Issue %d: %d", i, e)
		}
		texts = append(texts, digest("k:"+strconv.Itoa(i)+":"+strconv.Itoa(i*2)))
		first := max(0, len(texts)-64)
		if g.Issued != i+1 || len(g.Nonces) != len(texts)-first {
			t.Fatalf("after %d calls: %d issued, %d nonces", i+1, g.Issued, len(g.Nonces))
		}
		for j, n := range g.Nonces {
			if n != (api.Nonce{Text: texts[first+j], At: (first + j) * 2}) {
				t.Fatalf("after %d calls: nonce %d is %+v", i+1, j, n)
			}
		}
	}
}

// P7.9: errors
func TestIssueErrors(t *testing.T) {
	guards, valid := changedGuards(api.Guard{Realm: "r", Key: "k", Life: 100})
	for i, g := range guards {
		for _, now := range []int{-1 << 63, -1, 0, 1, mostTime, mostTime + 1, 1<<63 - 1} {
			before := cloneGuard(g)
			got, c, e := auth.Issue(g, now)
			fine := valid[i] && g.Issued < mostNumber && now >= 0 && now <= mostTime
			switch {
			case !sameGuard(g, before):
				t.Errorf("Issue changes %+v to %+v", before, g)
			case fine && (e != api.OK || got.Issued != g.Issued+1 || got.Nonces[len(got.Nonces)-1].Text != c.Nonce || c.Realm != g.Realm):
				t.Errorf("Issue(%+v, %d) = %+v, %+v, %d", g, now, got, c, e)
			case !fine && (e != api.ErrArg || !sameGuard(got, api.Guard{}) || c != api.Challenge{}):
				t.Errorf("Issue(%+v, %d) = %+v, %+v, %d", g, now, got, c, e)
			}
		}
	}
}

// verifyCase is what Verify gets.
type verifyCase struct {
	g     api.Guard
	users []api.Account
	m     api.Message
	now   int
}

// accepted is a case in which everything is right: the nonce n2 was issued at 20, and its last count is 2.
func accepted() verifyCase {
	x := verifyCase{g: api.Guard{Realm: "r", Key: "k", Life: 100, Issued: 5, Nonces: nonces(5)}, now: 120}
	x.users = []api.Account{{User: "v", Secret: auth.Secret("v", "r", "q")}, {User: "u", Secret: auth.Secret("u", "r", "p")}}
	x.m = api.Message{Method: "INVITE", URI: "sip:a", Body: []byte("b")}
	x.m.Headers = headers("To", "t", "Authorization", credentials(x.m, "n2", 3, nil), "X", "y")
	return x
}

// credentials returns the text of credentials of the user u, changed before their response is computed.
func credentials(m api.Message, nonce string, count int, change func(*api.Credentials)) string {
	c := api.Credentials{User: "u", Realm: "r", Nonce: nonce, URI: m.URI, Cnonce: "c", Count: count}
	if change != nil {
		change(&c)
	}
	if c.Response == "" {
		c.Response = plainResponse(digest(c.User+":"+c.Realm+":p"), c, m.Method, m.Body)
	}
	return plainPrinted(c)
}

// give replaces the credentials.
func (x *verifyCase) give(text string) { x.m.Headers[1].Value = text }

// check checks Verify for an error or the last count of n2, against the definition, and that it leaves its arguments alone.
func (x verifyCase) check(t *testing.T, what string, wantError api.Errno) api.Guard {
	t.Helper()
	g, m, users := cloneGuard(x.g), cloneMessage(x.m), slices.Clone(x.users)
	want, wantUser, e := plainVerify(x.g, x.users, x.m, x.now)
	if e != wantError {
		t.Errorf("%s: by the definition the error is %d, not %d", what, e, wantError)
	}
	got, user, e := auth.Verify(x.g, x.users, x.m, x.now)
	if !sameGuard(got, want) || user != wantUser || e != wantError {
		t.Errorf("%s: Verify(%+v) = %+v, %q, %d; want %+v, %q, %d", what, x, got, user, e, want, wantUser, wantError)
	}
	if !sameGuard(x.g, g) || !sameMessage(x.m, m) || !slices.Equal(x.users, users) {
		t.Errorf("%s: Verify changes its arguments to %+v", what, x)
	}
	if e == api.ErrArg {
		g = api.Guard{}
	}
	if e != api.OK && (!sameGuard(got, g) || user != "") {
		t.Errorf("%s: with the error %d Verify returns %+v, %q", what, e, got, user)
	}
	return got
}

// P7.10
func TestVerify(t *testing.T) {
	x := accepted()
	got, user, e := auth.Verify(x.g, x.users, x.m, x.now)
	want := cloneGuard(x.g)
	want.Nonces[2].Last = 3
	if !sameGuard(got, want) || user != "u" || e != api.OK {
		t.Errorf("Verify = %+v, %q, %d; want %+v, u", got, user, e, want)
	}
	x.check(t, "everything right", api.OK)

	x.give(credentials(x.m, "n2", 4294967295, func(c *api.Credentials) { c.Integrity, c.Opaque, c.Cnonce = true, "any", "" }))
	if g := x.check(t, "the greatest count, auth-int", api.OK); g.Nonces[2].Last != 4294967295 {
		t.Errorf("the last count is %d", g.Nonces[2].Last)
	}
	x.m.Body = []byte("c")
	x.check(t, "another body, auth-int", api.ErrAuth)
	x = accepted()
	x.m.Body = []byte("c")
	x.check(t, "another body, auth", api.OK)
	x.m.Headers[1].Name = "aUTHORIZATION"
	x.check(t, "another case of the name", api.OK)
	x.give(" \t" + x.m.Headers[1].Value + " ")
	x.check(t, "blanks around", api.OK)
	x.m.URI = ""
	x.give(credentials(x.m, "n2", 3, nil))
	x.check(t, "no URI", api.OK)
	x.m.Method = ""
	x.give(credentials(x.m, "n2", 3, nil))
	x.check(t, "no method", api.OK)
}

// P7.10, 1
func TestVerifyArguments(t *testing.T) {
	x := accepted()
	guards, valid := changedGuards(x.g)
	for i, g := range guards {
		x := accepted()
		x.g = g
		if _, _, e := auth.Verify(x.g, x.users, x.m, x.now); (e == api.ErrArg) == valid[i] {
			t.Errorf("Verify with the guard %+v: %d", g, e)
		}
		_, _, want := plainVerify(x.g, x.users, x.m, x.now)
		x.check(t, "a changed guard", want)
		x.m.Headers = nil
		if valid[i] {
			x.check(t, "a valid guard, no credentials", api.ErrNone)
		} else {
			x.check(t, "a guard that is not valid, no credentials", api.ErrArg)
		}
	}
	for _, code := range []int{-1, 1, 100, 401, 1 << 40} {
		x := accepted()
		x.m.Code = code
		x.check(t, "a response", api.ErrArg)
	}
	for _, now := range []int{-1 << 63, -1, mostTime + 1, 1<<63 - 1} {
		x := accepted()
		x.now = now
		x.check(t, "no time", api.ErrArg)
		x.m.Headers = nil
		x.check(t, "no time, no credentials", api.ErrArg)
	}
	x.now = 0
	x.check(t, "before the nonce was issued", api.OK)
	x.now = mostTime
	x.check(t, "at the end of time", api.ErrStale)
}

// P7.10, 2
func TestVerifyNone(t *testing.T) {
	right := accepted().m.Headers[1].Value
	wrong := credentials(accepted().m, "n2", 3, func(c *api.Credentials) { c.Response = "x" })
	there := credentials(accepted().m, "n2", 3, func(c *api.Credentials) { c.Realm = "s" })
	for _, l := range [][]api.Header{
		nil, headers("To", right), headers("Proxy-Authorization", right, "Authorizatio", right, "a", right, "", right, "Authorization ", right, "x y", right),
		headers("Authorization", ""), headers("Authorization", right+","), headers("Authorization", right[1:]), headers("Authorization", "x "+right), headers("Authorization", "Digest "+leastChallenge), headers("Authorization", right+",realm=r"),
		headers("Authorization", there), headers("Authorization", there, "Authorization", there, "To", right),
		headers("Authorization", credentials(accepted().m, "n2", 3, func(c *api.Credentials) { c.Realm = "R" })), headers("Authorization", credentials(accepted().m, "n2", 3, func(c *api.Credentials) { c.Realm = "r " })),
	} {
		x := accepted()
		x.m.Headers = l
		x.check(t, "no credentials", api.ErrNone)
		x.users, x.g.Nonces = nil, nil
		x.check(t, "no credentials, users and nonces", api.ErrNone)
		for _, more := range []struct {
			text string
			e    api.Errno
		}{{right, api.OK}, {wrong, api.ErrAuth}} {
			x := accepted()
			x.m.Headers = append(slices.Clone(l), headers("authorization", more.text, "Authorization", right, "Authorization", wrong)...)
			x.check(t, "the first credentials count", more.e)
		}
	}
	x := accepted()
	x.g.Realm = ""
	x.check(t, "another realm", api.ErrNone)
}

// P7.10, 3
func TestVerifyAuth(t *testing.T) {
	m := accepted().m
	right := plainResponse(digest("u:r:p"), api.Credentials{Nonce: "n2", URI: "sip:a", Cnonce: "c", Count: 3}, "INVITE", nil)
	upper := []byte(right)
	for i, c := range upper {
		if 'a' <= c && c <= 'f' {
			upper[i] = c - 32
		}
	}
	for what, change := range map[string]func(*api.Credentials){
		"another URI":               func(c *api.Credentials) { c.URI = "sip:b" },
		"the URI in other letters":  func(c *api.Credentials) { c.URI = "sip:A" },
		"a longer URI":              func(c *api.Credentials) { c.URI = "sip:a " },
		"no URI":                    func(c *api.Credentials) { c.URI = "" },
		"an unknown user":           func(c *api.Credentials) { c.User = "w" },
		"no user":                   func(c *api.Credentials) { c.User = "" },
		"a user in other letters":   func(c *api.Credentials) { c.User = "U" },
		"the password of another":   func(c *api.Credentials) { c.User = "v" },
		"another response":          func(c *api.Credentials) { c.Response = "x" },
		"a response in upper case":  func(c *api.Credentials) { c.Response = string(upper) },
		"a longer response":         func(c *api.Credentials) { c.Response = right + "0" },
		"the beginning of one":      func(c *api.Credentials) { c.Response = right[:63] },
		"a response for another":    func(c *api.Credentials) { c.Response, c.Count = right, 4 },
		"another cnonce":            func(c *api.Credentials) { c.Response, c.Cnonce = right, "d" },
		"another nonce":             func(c *api.Credentials) { c.Response, c.Nonce = right, "n3" },
		"an unknown nonce":          func(c *api.Credentials) { c.Response, c.Nonce = "x", "none" },
		"another protection":        func(c *api.Credentials) { c.Response, c.Integrity = right, true },
		"a wrong one, used already": func(c *api.Credentials) { c.Response, c.Count = "x", 0 },
	} {
		x := accepted()
		x.give(credentials(m, "n2", 3, change))
		x.check(t, what, api.ErrAuth)
	}
	x := accepted()
	x.give(credentials(m, "n2", 3, func(c *api.Credentials) { c.Response = right }))
	x.check(t, "that response", api.OK)
	x.m.Method = "invite"
	x.check(t, "another method", api.ErrAuth)
	x = accepted()
	x.m.URI = "sip:b"
	x.check(t, "the URI of another request", api.ErrAuth)
	x = accepted()
	x.give(credentials(m, "n2", 3, func(c *api.Credentials) { c.URI = "sip:b" }))
	x.m.URI = "sip:b"
	x.check(t, "another URI in both", api.OK)
}

// P7.10, 3: which account counts
func TestVerifyAccounts(t *testing.T) {
	right, wrong := api.Account{User: "u", Secret: digest("u:r:p")}, api.Account{User: "u", Secret: digest("u:r:q")}
	other := api.Account{User: "v", Secret: right.Secret}
	for _, c := range []struct {
		users []api.Account
		e     api.Errno
	}{
		{nil, api.ErrAuth}, {[]api.Account{}, api.ErrAuth}, {[]api.Account{{}}, api.ErrAuth}, {[]api.Account{other}, api.ErrAuth}, {[]api.Account{wrong}, api.ErrAuth}, {[]api.Account{{User: "u"}}, api.ErrAuth},
		{[]api.Account{right}, api.OK}, {[]api.Account{other, right}, api.OK}, {[]api.Account{right, wrong}, api.OK}, {[]api.Account{other, right, wrong}, api.OK},
		{[]api.Account{wrong, right}, api.ErrAuth}, {[]api.Account{other, wrong, right}, api.ErrAuth}, {[]api.Account{{User: "u", Secret: "\x00"}, right}, api.ErrAuth},
	} {
		x := accepted()
		x.users = c.users
		x.check(t, "other accounts", c.e)
	}
	x := accepted()
	c := api.Credentials{User: "", Realm: "r", Nonce: "n2", URI: "sip:a", Cnonce: "c", Count: 3}
	c.Response = plainResponse("any text", c, "INVITE", nil)
	x.users = []api.Account{{Secret: "any text"}}
	x.give(plainPrinted(c))
	x.check(t, "an account without a name, and a secret that is no hash", api.OK)
}

// P7.10, 4
func TestVerifyStale(t *testing.T) {
	for _, c := range []struct {
		life, at, now int
		e             api.Errno
	}{
		{100, 20, 120, api.OK}, {100, 20, 121, api.ErrStale}, {100, 20, 20, api.OK}, {100, 20, 0, api.OK}, {100, 20, 19, api.OK},
		{1, 0, 0, api.OK}, {1, 0, 1, api.OK}, {1, 0, 2, api.ErrStale}, {1, mostTime, mostTime, api.OK}, {1, mostTime, 0, api.OK}, {mostTime, 0, mostTime, api.OK}, {mostTime - 1, 0, mostTime, api.ErrStale}, {1, mostTime - 1, mostTime, api.OK}, {1, mostTime - 2, mostTime, api.ErrStale},
	} {
		x := accepted()
		x.g.Life, x.g.Nonces[2].At, x.now = c.life, c.at, c.now
		x.check(t, "another time", c.e)
		x.g.Nonces[2].Last = 3
		x.check(t, "another time, and used already", max(c.e, api.ErrDuplicate))
	}
	for _, text := range []string{"n", "n5", "N2", "n2 ", "", "n22"} {
		x := accepted()
		x.give(credentials(x.m, text, 3, nil))
		x.check(t, "an unknown nonce", api.ErrStale)
		x.give(credentials(x.m, text, 0, nil))
		x.check(t, "an unknown nonce and the count 0", api.ErrStale)
	}
	x := accepted()
	x.g.Nonces = nil
	x.check(t, "no nonce", api.ErrStale)
	for i := range 5 {
		x := accepted()
		x.give(credentials(x.m, x.g.Nonces[i].Text, 9, nil))
		x.now = 50
		if g := x.check(t, "another nonce", api.OK); g.Nonces[i].Last != 9 {
			t.Errorf("the last count of nonce %d is %d", i, g.Nonces[i].Last)
		}
	}
}

// P7.10, 4 and 5: several nonces with one text
func TestVerifyTwins(t *testing.T) {
	for _, c := range []struct {
		first, second api.Nonce
		e             api.Errno
	}{
		{api.Nonce{At: 20}, api.Nonce{At: 20}, api.OK},
		{api.Nonce{At: 1}, api.Nonce{At: 20}, api.OK}, {api.Nonce{At: 20}, api.Nonce{At: 1}, api.ErrStale},
		{api.Nonce{At: 20, Last: 9}, api.Nonce{At: 20}, api.OK}, {api.Nonce{At: 20}, api.Nonce{At: 20, Last: 9}, api.ErrDuplicate},
		{api.Nonce{At: 20, Last: 9}, api.Nonce{At: 20, Last: 2}, api.OK}, {api.Nonce{At: 1, Last: 9}, api.Nonce{At: 30, Last: 2}, api.OK},
	} {
		x := accepted()
		x.g.Nonces[1], x.g.Nonces[3] = c.first, c.second
		x.g.Nonces[1].Text, x.g.Nonces[3].Text = "twin", "twin"
		x.give(credentials(x.m, "twin", 3, nil))
		g := x.check(t, "two nonces with one text", c.e)
		if g.Nonces[1] != x.g.Nonces[1] || c.e == api.OK && g.Nonces[3].Last != 3 {
			t.Errorf("afterwards the nonces are %+v", g.Nonces)
		}
	}
}

// P7.10, 5
func TestVerifyCounts(t *testing.T) {
	for _, c := range []struct {
		last, count int
		e           api.Errno
	}{
		{0, 0, api.ErrDuplicate}, {0, 1, api.OK}, {1, 0, api.ErrDuplicate}, {1, 1, api.ErrDuplicate}, {1, 2, api.OK}, {2, 1000, api.OK}, {1000, 999, api.ErrDuplicate}, {255, 256, api.OK}, {9, 16, api.OK},
		{1<<31 - 1, 1 << 31, api.OK}, {1 << 31, 1<<31 - 1, api.ErrDuplicate}, {mostCount - 1, mostCount, api.OK}, {mostCount, mostCount, api.ErrDuplicate}, {mostCount, 0, api.ErrDuplicate}, {0, mostCount, api.OK},
	} {
		x := accepted()
		x.g.Nonces[2].Last = c.last
		x.give(credentials(x.m, "n2", c.count, nil))
		if g := x.check(t, "another count", c.e); c.e == api.OK && g.Nonces[2].Last != c.count {
			t.Errorf("the last count is %d, not %d", g.Nonces[2].Last, c.count)
		}
	}
}

// P7.10 against the definition
func TestVerifyAll(t *testing.T) {
	choose := chooser(9)
	seen := map[api.Errno]int{}
	for range 20000 {
		x := accepted()
		x.g.Life, x.now = pick(&choose, 0, 1, 50, 100, 100, 100), pick(&choose, 20, 20, 119, 120, 121, -1)
		x.g.Realm = pick(&choose, "r", "r", "r", "s", "\x01")
		x.m.URI = pick(&choose, "sip:a", "sip:a", "sip:a", "sip:b")
		x.m.Code = pick(&choose, 0, 0, 0, 0, 0, 0, 0, 200)
		x.m.Headers = nil
		for range choose.below(4) {
			text := credentials(x.m, pick(&choose, "n2", "n2", "n3", "n9"), choose.below(6), func(c *api.Credentials) {
				c.Realm, c.User, c.Integrity = pick(&choose, "r", "r", "r", "s"), pick(&choose, "u", "u", "u", "v", "w"), choose.flag()
				c.Response = pick(&choose, "", "", "", "", "x")
			})
			x.m.Headers = append(x.m.Headers, api.Header{Name: pick(&choose, "Authorization", "Authorization", "authorization", "To"), Value: text})
		}
		_, _, want := plainVerify(x.g, x.users, x.m, x.now)
		x.check(t, "chosen arguments", want)
		seen[want]++
	}
	for _, e := range []api.Errno{api.OK, api.ErrArg, api.ErrNone, api.ErrAuth, api.ErrStale, api.ErrDuplicate} {
		if seen[e] < 200 {
			t.Errorf("the error %d was expected only %d times", e, seen[e])
		}
	}
}

// Rules 4 and 5
func TestGuardMemory(t *testing.T) {
	for what, call := range map[string]func(api.Guard) api.Guard{
		"Issue": func(g api.Guard) api.Guard {
			g, _, _ = auth.Issue(g, 5)
			return g
		},
		"Verify, accepted": func(g api.Guard) api.Guard {
			x := accepted()
			g, _, _ = auth.Verify(g, x.users, x.m, x.now)
			return g
		},
		"Verify, no credentials": func(g api.Guard) api.Guard {
			x := accepted()
			g, _, _ = auth.Verify(g, x.users, api.Message{}, x.now)
			return g
		},
		"Verify, no user": func(g api.Guard) api.Guard {
			x := accepted()
			g, _, _ = auth.Verify(g, nil, x.m, x.now)
			return g
		},
		"Verify, too late": func(g api.Guard) api.Guard {
			x := accepted()
			g, _, _ = auth.Verify(g, x.users, x.m, 1000)
			return g
		},
		"Verify, used already": func(g api.Guard) api.Guard {
			x := accepted()
			x.give(credentials(x.m, "n2", 1, nil))
			g, _, _ = auth.Verify(g, x.users, x.m, x.now)
			return g
		},
	} {
		for _, n := range []int{5, 64} {
			g := accepted().g
			g.Nonces = append(make([]api.Nonce, 0, 100), nonces(n)...)
			before := cloneGuard(g)
			first, second := call(g), call(g)
			want := cloneGuard(first)
			if !sameGuard(g, before) || g.Nonces[:n+1][n] != (api.Nonce{}) {
				t.Errorf("%s changes its argument, or what is behind it", what)
			}
			overwriteGuard(g)
			if !sameGuard(first, want) || !sameGuard(second, want) {
				t.Errorf("%s returns memory of its argument", what)
			}
			overwriteGuard(first)
			if !sameGuard(second, want) {
				t.Errorf("two results of %s share memory", what)
			}
		}
	}
}
