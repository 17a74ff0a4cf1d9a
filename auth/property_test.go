package auth_test

import (
	"testing"

	"dialtone/api"
	"dialtone/auth"
)

// P7.11: a request with an answer is accepted, and a second time refused.
func TestAnswered(t *testing.T) {
	choose := chooser(11)
	parts := []string{"a", "B", `"`, `\`, " ", "\t", ",", "=", "<", ">", "\u00e9", "\xff", ":"}
	for range 3000 {
		user, realm, password := choose.text(parts, 4), choose.text(parts, 4), choose.text(append(parts, "\x00"), 4)
		users := []api.Account{{User: user + "x"}, {User: user, Secret: auth.Secret(user, realm, password)}}
		life, at := 1+choose.below(1000), choose.below(1<<20)
		g, c, e := auth.Issue(api.Guard{Realm: realm, Key: choose.text(parts, 4), Life: life, Issued: choose.below(100)}, at)
		if e != api.OK {
			t.Fatalf("Issue: %d", e)
		}
		m := api.Message{Method: pick(&choose, "INVITE", "REGISTER"), URI: "sip:" + choose.text(parts, 4), Body: []byte(choose.text(parts, 9))}
		if choose.flag() {
			c.Opaque = choose.text(parts, 3)
		}
		text, _ := auth.PrintChallenge(c)
		if c, e = auth.ParseChallenge(text); e != api.OK {
			t.Fatalf("ParseChallenge(%q): %d", text, e)
		}
		count := 1
		for range 3 {
			a := api.Credentials{User: user, Cnonce: choose.text(parts, 3), Count: count, Integrity: choose.flag()}
			n, e := auth.Answer(c, a, password, m)
			if e != api.OK {
				t.Fatalf("Answer: %d", e)
			}
			if _, who, e := auth.Verify(g, users, n, at+life+1); who != "" || e != api.ErrStale {
				t.Errorf("%+v, too late: %q, %d", n, who, e)
			}
			if wrong, e := auth.Answer(c, a, password+"x", m); e != api.OK {
				t.Errorf("Answer with another password: %d", e)
			} else if _, who, e := auth.Verify(g, users, wrong, at); who != "" || e != api.ErrAuth {
				t.Errorf("%+v, with another password: %q, %d", wrong, who, e)
			}
			h, who, e := auth.Verify(g, users, n, at+choose.below(life+1))
			if who != user || e != api.OK || h.Nonces[0].Last != count {
				t.Fatalf("Verify(%+v, %+v) = %+v, %q, %d", g, n, h, who, e)
			}
			if _, who, e := auth.Verify(h, users, n, at); who != "" || e != api.ErrDuplicate {
				t.Errorf("%+v, a second time: %q, %d", n, who, e)
			}
			g, m = h, n
			count += 1 + choose.below(1<<20)
		}
		if len(m.Headers) != 1 {
			t.Errorf("after three answers the headers are %q", m.Headers)
		}
	}
}

// P7.11: a nonce is known as long as at most 63 others were issued after it.
func TestKnownNonces(t *testing.T) {
	users := []api.Account{{User: "u", Secret: auth.Secret("u", "r", "p")}}
	g, c, _ := auth.Issue(api.Guard{Realm: "r", Life: 1000}, 0)
	m, _ := auth.Answer(c, api.Credentials{User: "u", Count: 1}, "p", api.Message{Method: "M"})
	for i := range 70 {
		want := api.OK
		if i > 63 {
			want = api.ErrStale
		}
		if _, _, e := auth.Verify(g, users, m, i); e != want {
			t.Errorf("after %d other nonces: %d; want %d", i, e, want)
		}
		g, _, _ = auth.Issue(g, i)
	}
}

// P7.11: for every sequence of requests, the accepted counts of each nonce ascend.
func TestCountsAscend(t *testing.T) {
	choose := chooser(13)
	users := []api.Account{{User: "u", Secret: auth.Secret("u", "r", "p")}, {User: "v", Secret: auth.Secret("v", "r", "q")}}
	for range 60 {
		g := api.Guard{Realm: "r", Key: "k", Life: 1 + choose.below(200)}
		var challenges []api.Challenge
		var at []int
		last := map[string]int{}
		now, done := 0, 0
		for range 300 {
			now += choose.below(5)
			if len(challenges) == 0 || choose.below(20) == 0 {
				h, c, e := auth.Issue(g, now)
				if e != api.OK {
					t.Fatalf("Issue(%+v, %d): %d", g, now, e)
				}
				g, challenges, at = h, append(challenges, c), append(at, now)
			}
			i := choose.below(len(challenges))
			c, count := challenges[i], 1+choose.below(100)
			a := api.Credentials{User: pick(&choose, "u", "v"), Count: count, Integrity: choose.flag()}
			m, _ := auth.Answer(c, a, pick(&choose, "p", "p", "q"), api.Message{Method: "M", URI: "sip:a"})
			right := plainResponse(users[map[string]int{"u": 0, "v": 1}[a.User]].Secret, api.Credentials{Nonce: c.Nonce, URI: "sip:a", Count: count, Integrity: a.Integrity}, "M", nil)
			sent, _ := auth.ParseCredentials(m.Headers[0].Value)
			want := api.OK
			switch {
			case sent.Response != right:
				want = api.ErrAuth
			case now-at[i] > g.Life || len(challenges)-i > 64:
				want = api.ErrStale
			case count <= last[c.Nonce]:
				want = api.ErrDuplicate
			}
			h, who, e := auth.Verify(g, users, m, now)
			if e != want || e == api.OK && who != a.User || !auth.Valid(h) {
				t.Fatalf("Verify(%+v, %+v, %d) = %+v, %q, %d; want %d", g, m, now, h, who, e, want)
			}
			if e == api.OK {
				last[c.Nonce] = count
				done++
			}
			g = h
		}
		if done == 0 {
			t.Error("no request was accepted")
		}
	}
}
