package auth_test

import (
	"slices"
	"strings"
	"testing"

	"dialtone/api"
	"dialtone/auth"
)

// P7.1
func TestSecret(t *testing.T) {
	for _, x := range []struct{ user, realm, password, want string }{
		{"u", "r", "p", digest("u:r:p")},
		{"", "", "", digest("::")},
		{"Mufasa", "http-auth@example.org", "Circle of Life", "7987c64c30e25f1b74be53f966b49b90f2808aa92faf9a00262392d7b4794232"},
		{"a:b", "c", "d", digest("a:b:c:d")},
		{"U\x00", "\xff\"", "\r\n", digest("U\x00:\xff\":\r\n")},
		{" u", "r ", "\tp", digest(" u:r :\tp")},
	} {
		if got := auth.Secret(x.user, x.realm, x.password); got != x.want {
			t.Errorf("Secret(%q, %q, %q) = %s; want %s", x.user, x.realm, x.password, got, x.want)
		}
	}
}

// P7.2: a response that others have computed (RFC 7616, 3.9.1)
func TestResponseKnown(t *testing.T) {
	c := api.Credentials{
		User: "Mufasa", Realm: "http-auth@example.org", Nonce: "7ypf/xlj9XXwfDPEoM4URrv/xwf94BcCAzFZH4GiTo0v", URI: "/dir/index.html",
		Cnonce: "f2/wE4q74E6zIJEtWaHKaf5wv/H5QzzpXusqGemxURZJ", Count: 1,
	}
	got := auth.Response(auth.Secret("Mufasa", "http-auth@example.org", "Circle of Life"), c, "GET", []byte("unused"))
	if want := "753927fa0e85d155564e2e272a28d1802ca10daf4496794697cf8db5856cb6c1"; got != want {
		t.Errorf("Response = %s; want %s", got, want)
	}
}

// P7.2: each part of the text that is hashed
func TestResponse(t *testing.T) {
	full := api.Credentials{User: "u", Realm: "r", Nonce: "n", URI: "sip:a", Response: "x", Cnonce: "c", Opaque: "o", Count: 0x1a2b}
	for _, x := range []struct {
		c    api.Credentials
		want string
	}{
		{full, digest("s:n:00001a2b:c:auth:" + digest("M:sip:a"))},
		{api.Credentials{Nonce: "n", URI: "sip:a", Cnonce: "c", Count: 0x1a2b}, digest("s:n:00001a2b:c:auth:" + digest("M:sip:a"))},
		{api.Credentials{Nonce: "n", URI: "sip:a", Cnonce: "c", Count: 0x1a2b, Integrity: true}, digest("s:n:00001a2b:c:auth-int:" + digest("M:sip:a:"+digest("body")))},
		{api.Credentials{}, digest("s::00000000::auth:" + digest("M:"))},
		{api.Credentials{Nonce: "\x00\xff", URI: "a:b", Cnonce: ":", Count: 0xffffffff}, digest("s:\x00\xff:ffffffff:::auth:" + digest("M:a:b"))},
	} {
		body := []byte("body")
		if got := auth.Response("s", x.c, "M", body); got != x.want || string(body) != "body" {
			t.Errorf("Response(s, %+v, M, body) = %s; want %s", x.c, got, x.want)
		}
	}
	full.Integrity = true
	empty := digest(":n:00001a2b:c:auth-int:" + digest(":sip:a:"+digest("")))
	if a, b := auth.Response("", full, "", nil), auth.Response("", full, "", []byte{}); a != empty || b != empty {
		t.Errorf("Response without secret, method and body = %s, %s; want %s", a, b, empty)
	}
}

// P7.2: only the 32 low bits of the count
func TestResponseCounts(t *testing.T) {
	for _, x := range []struct {
		count int
		text  string
	}{
		{0, "00000000"}, {1, "00000001"}, {9, "00000009"}, {10, "0000000a"}, {15, "0000000f"}, {16, "00000010"}, {0xabcdef, "00abcdef"}, {1 << 31, "80000000"}, {1<<32 - 1, "ffffffff"},
		{1 << 32, "00000000"}, {1<<32 + 7, "00000007"}, {1<<62 + 255, "000000ff"}, {-1, "ffffffff"}, {-2, "fffffffe"}, {-1 << 63, "00000000"}, {1<<63 - 1, "ffffffff"},
	} {
		c := api.Credentials{Nonce: "n", URI: "a", Cnonce: "c", Count: x.count}
		if got, want := auth.Response("s", c, "M", nil), digest("s:n:"+x.text+":c:auth:"+digest("M:a")); got != want {
			t.Errorf("Response with the count %d = %s; want %s", x.count, got, want)
		}
	}
	choose := chooser(1)
	parts := []string{"a", ":", "\x00", "\xff", "auth", ""}
	for range 2000 {
		c := api.Credentials{Nonce: choose.text(parts, 3), URI: choose.text(parts, 3), Cnonce: choose.text(parts, 3), Count: choose.below(1<<20) << choose.below(40), Integrity: choose.flag()}
		secret, method, body := choose.text(parts, 3), choose.text(parts, 3), []byte(choose.text(parts, 30))
		if got, want := auth.Response(secret, c, method, body), plainResponse(secret, c, method, body); got != want {
			t.Errorf("Response(%q, %+v, %q, %q) = %s; want %s", secret, c, method, body, got, want)
		}
	}
}

// checkAnswer checks Answer against the definition, and that it leaves its arguments alone.
func checkAnswer(t *testing.T, c api.Challenge, a api.Credentials, password string, m api.Message) (api.Message, api.Errno) {
	t.Helper()
	want, wantError := plainAnswer(c, a, password, m)
	before := cloneMessage(m)
	got, e := auth.Answer(c, a, password, m)
	if !sameMessage(got, want) || e != wantError {
		t.Errorf("Answer(%+v, %+v, %q, %+v) = %+v, %d; want %+v, %d", c, a, password, m, got, e, want, wantError)
	}
	if !sameMessage(m, before) {
		t.Errorf("Answer changes %+v to %+v", before, m)
	}
	return got, e
}

// P7.7
func TestAnswer(t *testing.T) {
	c := api.Challenge{Realm: "r", Nonce: "n", Opaque: "o", Integrity: true, Stale: true}
	a := api.Credentials{User: "u", Cnonce: "c", Count: 17, Realm: "other", Nonce: "other", Opaque: "other", URI: "other", Response: "other"}
	m := api.Message{Method: "INVITE", URI: "sip:a@b", Headers: headers("To", "x", "Via", "y"), Body: []byte("hi")}
	got, e := auth.Answer(c, a, "p", m)
	response := digest(digest("u:r:p") + ":n:00000011:c:auth:" + digest("INVITE:sip:a@b"))
	want := api.Message{Method: "INVITE", URI: "sip:a@b", Body: []byte("hi"), Headers: headers("To", "x", "Via", "y", "Authorization",
		`Digest username="u", realm="r", nonce="n", uri="sip:a@b", response="`+response+`", algorithm=SHA-256, cnonce="c", qop=auth, nc=00000011, opaque="o"`)}
	if !sameMessage(got, want) || e != api.OK {
		t.Errorf("Answer = %+v, %d; want %+v", got, e, want)
	}
	a.Integrity, c.Opaque = true, ""
	got, e = auth.Answer(c, a, "p", m)
	response = digest(digest("u:r:p") + ":n:00000011:c:auth-int:" + digest("INVITE:sip:a@b:"+digest("hi")))
	want.Headers[2].Value = `Digest username="u", realm="r", nonce="n", uri="sip:a@b", response="` + response + `", algorithm=SHA-256, cnonce="c", qop=auth-int, nc=00000011`
	if !sameMessage(got, want) || e != api.OK {
		t.Errorf("Answer = %+v, %d; want %+v", got, e, want)
	}
	if got, e := checkAnswer(t, api.Challenge{}, api.Credentials{Count: 1}, "", api.Message{}); len(got.Headers) != 1 || e != api.OK {
		t.Errorf("Answer with a request of nothing = %+v, %d", got, e)
	}
}

// P7.7: which headers are left out
func TestAnswerLeavesOut(t *testing.T) {
	c := api.Challenge{Realm: "r", Nonce: "n"}
	a := api.Credentials{User: "u", Cnonce: "c", Count: 1}
	here, there := "Digest "+leastCredentials, instead(leastCredentials, "realm", "s")
	for _, x := range []struct {
		had, kept []api.Header
	}{
		{headers("Authorization", here), nil},
		{headers("authorization", here, "AUTHORIZATION", " "+here+"\t", "AuthoriZation", here+",x=1"), nil},
		{headers("A", "1", "Authorization", here, "B", "2", "Authorization", here, "C", "3"), headers("A", "1", "B", "2", "C", "3")},
		{headers("Authorization", instead(leastCredentials, "username", "other")), nil},
		{headers("Authorization", there), headers("Authorization", there)},
		{headers("Authorization", there, "Authorization", here, "authorization", there), headers("Authorization", there, "authorization", there)},
		{headers("Authorization", instead(leastCredentials, "realm", "R"), "Authorization", instead(leastCredentials, "realm", `"r "`), "Authorization", instead(leastCredentials, "realm", `""`)), headers("Authorization", instead(leastCredentials, "realm", "R"), "Authorization", instead(leastCredentials, "realm", `"r "`), "Authorization", instead(leastCredentials, "realm", `""`))},
		{headers("Authorization", here+",", "Authorization", "Digest "+leastChallenge, "Authorization", without(leastCredentials, "nc"), "Authorization", "Basic x", "Authorization", ""), headers("Authorization", here+",", "Authorization", "Digest "+leastChallenge, "Authorization", without(leastCredentials, "nc"), "Authorization", "Basic x", "Authorization", "")},
		{headers("Proxy-Authorization", here, "Authorizations", here, "a", here, "", here, "Authorization ", here, "x y", here, " Authorization", here), headers("Proxy-Authorization", here, "Authorizations", here, "a", here, "", here, "Authorization ", here, "x y", here, " Authorization", here)},
	} {
		m := api.Message{Method: "M", URI: "sip:a", Headers: x.had}
		got, e := checkAnswer(t, c, a, "p", m)
		if e != api.OK || len(got.Headers) != len(x.kept)+1 || !slices.Equal(got.Headers[:len(x.kept)], x.kept) {
			t.Errorf("Answer of %q = %q, %d; want %q before the last", x.had, got.Headers, e, x.kept)
		}
	}
}

// P7.7: errors
func TestAnswerErrors(t *testing.T) {
	c := api.Challenge{Realm: "r", Nonce: "n", Integrity: true}
	a := api.Credentials{User: "u", Cnonce: "c", Count: 1}
	m := api.Message{Method: "M", URI: "sip:a", Headers: headers("A", "1"), Body: []byte("b")}
	check := func(want api.Errno, c api.Challenge, a api.Credentials, m api.Message) {
		t.Helper()
		if got, e := checkAnswer(t, c, a, "p\x00", m); e != want || e != api.OK && !sameMessage(got, api.Message{}) {
			t.Errorf("Answer(%+v, %+v, %+v) = %+v, %d; want %d", c, a, m, got, e, want)
		}
	}
	check(api.OK, c, a, m)
	for _, code := range []int{-1, 1, 100, 200, 401, 1 << 40} {
		m := m
		m.Code = code
		check(api.ErrArg, c, a, m)
	}
	for _, count := range []int{0, -1, 1 << 32, 1<<32 + 1, -1 << 63, 1<<63 - 1} {
		a := a
		a.Count = count
		check(api.ErrArg, c, a, m)
	}
	for _, count := range []int{1, 2, 1<<32 - 1} {
		a := a
		a.Count = count
		check(api.OK, c, a, m)
	}
	for _, offered := range []bool{false, true} {
		for _, used := range []bool{false, true} {
			c, a, want := c, a, api.OK
			c.Integrity, a.Integrity = offered, used
			if used && !offered {
				want = api.ErrArg
			}
			check(want, c, a, m)
		}
	}
	for _, s := range []string{"\x00", "a\nb", "\x7f", "\x1f"} {
		for i := range 6 {
			c, a, m := c, a, m
			*[]*string{&c.Realm, &c.Nonce, &c.Opaque, &a.User, &a.Cnonce, &m.URI}[i] = s
			check(api.ErrArg, c, a, m)
		}
		// These are not those of the credentials.
		for i := range 6 {
			a, m := a, m
			*[]*string{&a.Realm, &a.Nonce, &a.Opaque, &a.URI, &a.Response, &m.Method}[i] = s
			check(api.OK, c, a, m)
		}
	}
}

// P7.7 against the definition
func TestAnswerAll(t *testing.T) {
	choose := chooser(7)
	values := []string{"Digest " + leastCredentials, instead(leastCredentials, "realm", "s"), instead(leastCredentials, "realm", `""`), "Digest " + leastChallenge, ""}
	names := []string{"Authorization", "authorization", "AUTHORIZATION", "To", "Proxy-Authorization", ""}
	done := 0
	for range 5000 {
		c := api.Challenge{Realm: pick(&choose, "r", "s", "", "\x01"), Nonce: pick(&choose, "n", "", `"`), Opaque: pick(&choose, "", "o"), Integrity: choose.flag(), Stale: choose.flag()}
		a := api.Credentials{User: pick(&choose, "u", "", "a b"), Cnonce: pick(&choose, "c", "", "\\"), Count: pick(&choose, 0, 1, 2, 255, 1<<32-1, 1<<32), Integrity: choose.flag()}
		m := api.Message{Method: pick(&choose, "INVITE", "M", ""), URI: pick(&choose, "sip:a", "SIP:A", ""), Code: pick(&choose, 0, 0, 0, 200), Body: []byte(choose.text([]string{"a", "\x00"}, 3))}
		for range choose.below(5) {
			m.Headers = append(m.Headers, api.Header{Name: names[choose.below(len(names))], Value: values[choose.below(len(values))]})
		}
		if _, e := checkAnswer(t, c, a, pick(&choose, "p", "", "\xff:"), m); e == api.OK {
			done++
		}
	}
	if done < 1000 {
		t.Errorf("only %d requests were answered", done)
	}
}

// Rules 4 and 5
func TestAnswerMemory(t *testing.T) {
	c := api.Challenge{Realm: "r", Nonce: "n"}
	a := api.Credentials{User: "u", Cnonce: "c", Count: 1}
	roomy := append(make([]api.Header, 0, 10), headers("Authorization", "Digest "+leastCredentials, "A", "1", "B", "2")...)
	m := api.Message{Method: "M", URI: "sip:a", Headers: roomy, Body: []byte("body")}
	before := cloneMessage(m)
	first, _ := auth.Answer(c, a, "p", m)
	second, _ := auth.Answer(c, a, "p", m)
	want := cloneMessage(first)
	if !sameMessage(m, before) || roomy[:4][3] != (api.Header{}) {
		t.Errorf("Answer changes its argument, or what is behind it: %+v", roomy[:4])
	}
	overwriteMessage(m)
	if !sameMessage(first, want) || !sameMessage(second, want) {
		t.Errorf("Answer returns memory of its argument: %+v; want %+v", first, want)
	}
	overwriteMessage(first)
	if !sameMessage(second, want) {
		t.Errorf("two results of Answer share memory: %+v; want %+v", second, want)
	}
	if len(strings.Split(want.Headers[2].Value, ", ")) != 9 {
		t.Errorf("Answer = %+v", want)
	}
}
