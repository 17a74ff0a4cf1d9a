package auth_test

import (
	"strconv"
	"strings"
	"testing"

	"dialtone/api"
	"dialtone/auth"
	"dialtone/lexis"
)

const (
	leastChallenge   = "realm=r,nonce=n,algorithm=SHA-256,qop=auth"
	leastCredentials = "username=u,realm=r,nonce=n,uri=a,response=x,algorithm=SHA-256,cnonce=c,qop=auth,nc=00000001"
)

func checkChallenge(t *testing.T, s string, want api.Challenge, wantError api.Errno) {
	t.Helper()
	if got, e := auth.ParseChallenge(s); got != want || e != wantError {
		t.Errorf("ParseChallenge(%q) = %+v, %d; want %+v, %d", s, got, e, want, wantError)
	}
}

func checkCredentials(t *testing.T, s string, want api.Credentials, wantError api.Errno) {
	t.Helper()
	if got, e := auth.ParseCredentials(s); got != want || e != wantError {
		t.Errorf("ParseCredentials(%q) = %+v, %d; want %+v, %d", s, got, e, want, wantError)
	}
}

// P7.3
func TestParseChallenge(t *testing.T) {
	least := api.Challenge{Realm: "r", Nonce: "n"}
	with := func(change func(*api.Challenge)) api.Challenge {
		c := least
		change(&c)
		return c
	}
	integrity := with(func(c *api.Challenge) { c.Integrity = true })
	stale := with(func(c *api.Challenge) { c.Stale = true })
	for s, want := range map[string]api.Challenge{
		"Digest " + leastChallenge:                                                    least,
		"digest " + leastChallenge:                                                    least,
		"DIGEST\t" + leastChallenge:                                                   least,
		"dIgEsT \t " + leastChallenge:                                                 least,
		" \t Digest " + leastChallenge + " \t ":                                       least,
		`Digest realm="r", nonce="n", algorithm="SHA-256", qop="auth"`:                least,
		`Digest qop="auth",algorithm=SHA-256,nonce="n",realm="r"`:                     least,
		"Digest REALM=r,Nonce=n,aLGORITHM=SHA-256,QOP=auth":                           least,
		"Digest realm \t= \tr \t,\t nonce =n,algorithm= SHA-256 ,  qop\t=\tauth":      least,
		`Digest realm = "r" ,nonce = "n" ,algorithm = "SHA-256" , qop = "auth" `:      least,
		"Digest realm=r,nonce=n,algorithm=sha-256,qop=auth":                           least,
		"Digest realm=r,nonce=n,algorithm=sHa-256,qop=auth":                           least,
		`Digest realm="",nonce="",algorithm=SHA-256,qop=auth`:                         {},
		`Digest realm="a \"b\\",nonce="\n\,=",algorithm="\S\H\A-256",qop="\auth"`:     {Realm: `a "b\`, Nonce: "n,="},
		"Digest realm=\" \t\u00e9\xff<>,=;\"," + leastChallenge[8:]:                   {Realm: " \t\u00e9\xff<>,=;", Nonce: "n"},
		"Digest realm=-.!%*_+'~`aZ09," + leastChallenge[8:]:                           {Realm: "-.!%*_+'~`aZ09", Nonce: "n"},
		"Digest " + leastChallenge + ",opaque=o":                                      with(func(c *api.Challenge) { c.Opaque = "o" }),
		"Digest " + leastChallenge + `,opaque=""`:                                     least,
		"Digest OPAQUE=\"O,\"," + leastChallenge:                                      with(func(c *api.Challenge) { c.Opaque = "O," }),
		"Digest " + leastChallenge + ",stale=true":                                    stale,
		"Digest " + leastChallenge + ",STALE=TRUE":                                    stale,
		"Digest " + leastChallenge + `,stale="tRuE"`:                                  stale,
		"Digest " + leastChallenge + ",stale=false":                                   least,
		"Digest " + leastChallenge + `,stale=""`:                                      least,
		"Digest " + leastChallenge + ",stale=truer":                                   least,
		"Digest " + leastChallenge + ",stale=tru":                                     least,
		"Digest " + leastChallenge + `,stale=" true"`:                                 least,
		"Digest " + leastChallenge + ",stale=1":                                       least,
		"Digest " + leastChallenge + ",x=y,domain=\"sip:a\",nc=00000001,username=u":   least,
		"Digest realms=x,real=y,xnonce=z," + leastChallenge:                           least,
		`Digest realm=r,nonce=n,algorithm=SHA-256,qop="auth,auth-int"`:                integrity,
		`Digest realm=r,nonce=n,algorithm=SHA-256,qop="auth-int,auth"`:                integrity,
		"Digest realm=r,nonce=n,algorithm=SHA-256,qop=\" auth-int \t,\t auth \"":      integrity,
		`Digest realm=r,nonce=n,algorithm=SHA-256,qop="x,auth,y z,auth-int,auth"`:     integrity,
		`Digest realm=r,nonce=n,algorithm=SHA-256,qop=",auth,"`:                       least,
		`Digest realm=r,nonce=n,algorithm=SHA-256,qop="auth,auth,AUTH-INT,auth-in"`:   least,
		`Digest realm=r,nonce=n,algorithm=SHA-256,qop="auth,auth-ints,xauth-int"`:     least,
		`Digest realm=r,nonce=n,algorithm=SHA-256,qop="auth,\"auth-int\",auth int,<"`: least,
	} {
		checkChallenge(t, s, want, api.OK)
	}
}

// P7.3 and P7.5: the beginning and the fields, error by error, and which of several comes first
func TestFieldErrors(t *testing.T) {
	for _, x := range []struct {
		s string
		e api.Errno
	}{
		{"", api.ErrUnsupported}, {" ", api.ErrUnsupported}, {"Digest", api.ErrUnsupported}, {"Digest \t", api.ErrUnsupported}, {"\tDigest ", api.ErrUnsupported}, {"D", api.ErrUnsupported}, {"Diges x=1", api.ErrUnsupported}, {"Digestx=1", api.ErrUnsupported},
		{"Digest,x=1", api.ErrUnsupported}, {"Digest=1", api.ErrUnsupported}, {`Digest"x"`, api.ErrUnsupported}, {"Digests x=1", api.ErrUnsupported}, {"Basic x=1", api.ErrUnsupported}, {"x=1", api.ErrUnsupported}, {"D igest x=1", api.ErrUnsupported}, {"Digest\nx=1", api.ErrUnsupported}, {"Digest\u00a0x=1", api.ErrUnsupported},
		// The letters are those from A to Z alone; some others have these as their lower-case letters.
		{"D\u0130gest x=1", api.ErrUnsupported}, {"Dige\u017ft x=1", api.ErrUnsupported}, {"\xc4igest x=1", api.ErrUnsupported}, {"$igest x=1", api.ErrUnsupported},
		// the beginning before what follows
		{`Basic "`, api.ErrUnsupported}, {"Digest,", api.ErrUnsupported}, {"Digest>", api.ErrUnsupported},

		{`Digest x="`, api.ErrShort}, {`Digest "`, api.ErrShort}, {`Digest x="a\`, api.ErrShort}, {`Digest x="a\"`, api.ErrShort}, {"Digest x=\"a\\\t", api.ErrShort}, {`Digest x="a" "`, api.ErrShort}, {"Digest <", api.ErrShort}, {"Digest x=<a,b", api.ErrShort},
		{"Digest >", api.ErrSyntax}, {"Digest x=1>", api.ErrSyntax}, {"Digest x=\"\x01\"", api.ErrSyntax}, {"Digest x=\"\x7f\"", api.ErrSyntax}, {"Digest x=\"\\\x01\"", api.ErrSyntax}, {"Digest x=\"\\\u00e9\"", api.ErrSyntax}, {"Digest x=\"\\\t\"", api.ErrSyntax},
		// that of Split before those of the fields
		{`Digest x,x=1,x=2,"`, api.ErrShort}, {"Digest x=1,X=2,<", api.ErrShort}, {`Digest x=1,X=2,y=">,"a`, api.ErrDuplicate}, {`Digest x=1,x=2,>,"`, api.ErrSyntax},

		{"Digest x", api.ErrSyntax}, {"Digest =", api.ErrSyntax}, {"Digest =1", api.ErrSyntax}, {"Digest x=", api.ErrSyntax}, {"Digest x= ", api.ErrSyntax}, {"Digest x y=1", api.ErrSyntax}, {"Digest x=1 2", api.ErrSyntax}, {"Digest x==1", api.ErrSyntax}, {"Digest x=1=2", api.ErrSyntax}, {"Digest x=a:b", api.ErrSyntax}, {"Digest x=a/b", api.ErrSyntax}, {"Digest x;y=1", api.ErrSyntax},
		{`Digest "x"=1`, api.ErrSyntax}, {`Digest x="1"2`, api.ErrSyntax}, {`Digest x=1"2"`, api.ErrSyntax}, {`Digest x="1" "2"`, api.ErrSyntax}, {`Digest x="1" 2`, api.ErrSyntax}, {"Digest x=<1>", api.ErrSyntax}, {"Digest <x>=1", api.ErrSyntax}, {"Digest x=1<>", api.ErrSyntax}, {"Digest x=(1)", api.ErrSyntax}, {"Digest \u00e9=1", api.ErrSyntax}, {"Digest x=\u00e9", api.ErrSyntax}, {"Digest x\r\n=1", api.ErrSyntax}, {"Digest x=1\x00", api.ErrSyntax}, {`Digest x=<">`, api.ErrSyntax},
		{"Digest ,", api.ErrSyntax}, {"Digest x=1,", api.ErrSyntax}, {"Digest ,x=1", api.ErrSyntax}, {"Digest x=1,,y=2", api.ErrSyntax}, {"Digest x=1, ,y=2", api.ErrSyntax}, {"Digest x=1;y=2", api.ErrSyntax}, {"Digest Digest x=1", api.ErrSyntax},

		{"Digest x=1,x=1", api.ErrDuplicate}, {"Digest x=1,X=2", api.ErrDuplicate}, {`Digest X-y="",a=1,x-Y=""`, api.ErrDuplicate}, {"Digest realm=r,nonce=n,realm=r", api.ErrDuplicate}, {"Digest NC=1,nc=2", api.ErrDuplicate}, {"Digest a=1,b=2,c=3,b=4", api.ErrDuplicate},
		// field by field
		{"Digest x=1,x=2,y", api.ErrDuplicate}, {"Digest x=1,y,x=2", api.ErrSyntax}, {"Digest x=1,x", api.ErrSyntax}, {"Digest x=1,x=2,x=", api.ErrDuplicate}, {"Digest x=1,x=", api.ErrSyntax},

		// these before the missing fields
		{"Digest x=1", api.ErrNone}, {`Digest x="1"`, api.ErrNone}, {`Digest x=""`, api.ErrNone}, {"Digest x=1,y=1,xx=1", api.ErrNone}, {"Digest algorithm=MD5,qop=x,nc=1", api.ErrNone},
	} {
		checkChallenge(t, x.s, api.Challenge{}, x.e)
		checkCredentials(t, x.s, api.Credentials{}, x.e)
	}
	for _, l := range []string{leastChallenge, leastCredentials} {
		for _, x := range []struct {
			s string
			e api.Errno
		}{
			{"Digest" + l, api.ErrUnsupported}, {"Basic " + l, api.ErrUnsupported}, {l, api.ErrUnsupported}, {"Digest " + l + `,"`, api.ErrShort}, {"Digest " + l + ",>", api.ErrSyntax},
			{"Digest " + l + ",", api.ErrSyntax}, {"Digest ," + l, api.ErrSyntax}, {"Digest " + l + ",x", api.ErrSyntax}, {"Digest " + l + ",Realm=s", api.ErrDuplicate}, {"Digest " + l + ",x=1,X=1", api.ErrDuplicate}, {"Digest " + l + ",opaque=1,OPAQUE=1", api.ErrDuplicate},
		} {
			checkChallenge(t, x.s, api.Challenge{}, x.e)
			checkCredentials(t, x.s, api.Credentials{}, x.e)
		}
	}
}

// P7.3 and P7.5: which names are equal
func TestFieldNames(t *testing.T) {
	eachByte(func(a string) {
		eachByte(func(b string) {
			want := api.ErrNone
			switch {
			case !lexis.Token(a) || !lexis.Token(b):
				return
			case strings.EqualFold(a, b):
				want = api.ErrDuplicate
			}
			checkChallenge(t, "Digest "+a+"=1,"+b+"=2", api.Challenge{}, want)
			checkCredentials(t, "Digest x"+a+"=1,x"+b+"=2", api.Credentials{}, want)
		})
	})
}

// without returns the text of the fields of a list but one.
func without(list, name string) string {
	var kept []string
	for f := range strings.SplitSeq(list, ",") {
		if !strings.HasPrefix(f, name+"=") {
			kept = append(kept, f)
		}
	}
	return "Digest " + strings.Join(kept, ",")
}

// instead returns the text of the fields of a list, with another value of one.
func instead(list, name, value string) string { return without(list, name) + "," + name + "=" + value }

// P7.3: missing fields and other values
func TestParseChallengeErrors(t *testing.T) {
	none := api.Challenge{}
	for _, name := range []string{"realm", "nonce"} {
		checkChallenge(t, without(leastChallenge, name), none, api.ErrNone)
		checkChallenge(t, without(leastChallenge, name)+",x"+name+"=1", none, api.ErrNone)
		for _, other := range []string{"algorithm", "qop"} {
			checkChallenge(t, without(strings.TrimPrefix(without(leastChallenge, name), "Digest "), other), none, api.ErrNone)
			checkChallenge(t, instead(strings.TrimPrefix(without(leastChallenge, name), "Digest "), other, "x"), none, api.ErrNone)
		}
	}
	for _, name := range []string{"algorithm", "qop"} {
		checkChallenge(t, without(leastChallenge, name), none, api.ErrUnsupported)
		for _, value := range []string{`""`, "x", "MD5", "true", `","`} {
			checkChallenge(t, instead(leastChallenge, name, value), none, api.ErrUnsupported)
		}
	}
	for _, value := range []string{"SHA-25", "SHA-2566", "SHA-512", "SHA256", "SHA-256-sess", "xSHA-256", `" SHA-256"`, `"SHA-256 "`, "\"\u017fHA-256\"", "\"SH\u00e1-256\"", "SH!-256", `"SHA-256,SHA-256"`} {
		checkChallenge(t, instead(leastChallenge, "algorithm", value), none, api.ErrUnsupported)
	}
	for _, value := range []string{"auth-int", "AUTH", "Auth", `"AUTH,auth-int"`, "auths", "xauth", `"auth auth"`, `"auth;auth-int"`, `"au,th"`, `"\"auth\""`, "\"auth\u00a0\"", `" "`, `"auth-int,auth-int"`} {
		checkChallenge(t, instead(leastChallenge, "qop", value), none, api.ErrUnsupported)
	}
}

// P7.5
func TestParseCredentials(t *testing.T) {
	least := api.Credentials{User: "u", Realm: "r", Nonce: "n", URI: "a", Response: "x", Cnonce: "c", Count: 1}
	with := func(change func(*api.Credentials)) api.Credentials {
		c := least
		change(&c)
		return c
	}
	integrity := with(func(c *api.Credentials) { c.Integrity = true })
	for s, want := range map[string]api.Credentials{
		"Digest " + leastCredentials:                                            least,
		" \tdIGEST \t" + leastCredentials + "\t ":                               least,
		"Digest " + strings.ReplaceAll(leastCredentials, "=", "\t = "):          least,
		"Digest " + strings.ReplaceAll(leastCredentials, ",", "\t , "):          least,
		"Digest " + strings.ReplaceAll(leastCredentials, "nonce", "NONCE"):      least,
		"Digest " + leastCredentials + `,opaque="o p"`:                          with(func(c *api.Credentials) { c.Opaque = "o p" }),
		"Digest " + leastCredentials + `,opaque=""`:                             least,
		"Digest " + leastCredentials + ",stale=true,x=y,auth-int=1,domain=\"\"": least,
		instead(leastCredentials, "qop", "auth-int"):                            integrity,
		instead(leastCredentials, "qop", `"auth-int"`):                          integrity,
		instead(leastCredentials, "qop", `"auth"`):                              least,
		instead(leastCredentials, "algorithm", "sha-256"):                       least,
		instead(leastCredentials, "algorithm", `"ShA-256"`):                     least,
		instead(leastCredentials, "username", `"a \"b\\\,\\"`):                  with(func(c *api.Credentials) { c.User = `a "b\,\` }),
		instead(leastCredentials, "username", `""`):                             with(func(c *api.Credentials) { c.User = "" }),
		instead(leastCredentials, "realm", `""`):                                with(func(c *api.Credentials) { c.Realm = "" }),
		instead(leastCredentials, "nonce", `" "`):                               with(func(c *api.Credentials) { c.Nonce = " " }),
		instead(leastCredentials, "uri", `"sip:Bob@h;x=<1>?y,"`):                with(func(c *api.Credentials) { c.URI = "sip:Bob@h;x=<1>?y," }),
		instead(leastCredentials, "response", "\"\u00e9\xff\t\""):               with(func(c *api.Credentials) { c.Response = "\u00e9\xff\t" }),
		instead(leastCredentials, "cnonce", `"C"`):                              with(func(c *api.Credentials) { c.Cnonce = "C" }),
		instead(leastCredentials, "nc", "00000000"):                             with(func(c *api.Credentials) { c.Count = 0 }),
		instead(leastCredentials, "nc", "12345678"):                             with(func(c *api.Credentials) { c.Count = 0x12345678 }),
		instead(leastCredentials, "nc", "9abcdef0"):                             with(func(c *api.Credentials) { c.Count = 0x9abcdef0 }),
		instead(leastCredentials, "nc", `"ABCDEFab"`):                           with(func(c *api.Credentials) { c.Count = 0xabcdefab }),
		instead(leastCredentials, "nc", "ffffFFFF"):                             with(func(c *api.Credentials) { c.Count = 4294967295 }),
	} {
		checkCredentials(t, s, want, api.OK)
	}
}

// P7.5: missing fields and other values, and which error comes first
func TestParseCredentialsErrors(t *testing.T) {
	none := api.Credentials{}
	for _, name := range []string{"username", "realm", "nonce", "uri", "response", "cnonce", "nc"} {
		checkCredentials(t, without(leastCredentials, name), none, api.ErrNone)
		checkCredentials(t, without(leastCredentials, name)+",x"+name+"=00000001", none, api.ErrNone)
		for _, other := range []string{"algorithm", "qop"} {
			checkCredentials(t, without(strings.TrimPrefix(without(leastCredentials, name), "Digest "), other), none, api.ErrNone)
			checkCredentials(t, instead(strings.TrimPrefix(without(leastCredentials, name), "Digest "), other, "x"), none, api.ErrNone)
		}
		if name != "nc" {
			checkCredentials(t, instead(strings.TrimPrefix(without(leastCredentials, name), "Digest "), "nc", "1"), none, api.ErrNone)
		}
	}
	for _, name := range []string{"algorithm", "qop"} {
		checkCredentials(t, without(leastCredentials, name), none, api.ErrUnsupported)
		checkCredentials(t, instead(strings.TrimPrefix(without(leastCredentials, name), "Digest "), "nc", "1"), none, api.ErrUnsupported)
		for _, value := range []string{`""`, "x", "MD5", "true", `","`} {
			checkCredentials(t, instead(leastCredentials, name, value), none, api.ErrUnsupported)
			checkCredentials(t, instead(strings.TrimPrefix(instead(leastCredentials, name, value), "Digest "), "nc", "1"), none, api.ErrUnsupported)
		}
	}
	for _, value := range []string{"SHA-25", "SHA-2566", "SHA256", `" SHA-256"`, "\"\u017fHA-256\""} {
		checkCredentials(t, instead(leastCredentials, "algorithm", value), none, api.ErrUnsupported)
	}
	for _, value := range []string{"AUTH", "Auth-Int", "auth-", "auths", "auth-in", "auth-ints", `" auth"`, `"auth "`, `"auth,auth-int"`, `"auth-int,auth"`, `"auth,"`, `"auth, auth"`} {
		checkCredentials(t, instead(leastCredentials, "qop", value), none, api.ErrUnsupported)
	}
	for _, value := range []string{`""`, "0", "1", "0000001", "000000001", "0000000000000001", "0000000g", "g0000000", "0x000001", "-0000001", "+0000001", "0000_001", `" 0000001"`, `"0000001 "`, "0000000.", "0000000-", "\"000000\u00e9\"", "\"0000000\xff\"", "0000000`", `"0000000@"`, `"0000000/"`, `"0000000:"`, "0000000G"} {
		checkCredentials(t, instead(leastCredentials, "nc", value), none, api.ErrSyntax)
	}
}

// P7.3 and P7.5: every byte at each place, against the definitions
func TestParseBytes(t *testing.T) {
	check := func(s string) {
		c, e := plainChallenge(s)
		checkChallenge(t, s, c, e)
		d, e := plainCredentials(s)
		checkCredentials(t, s, d, e)
	}
	eachByte(func(b string) {
		for _, s := range []string{
			"Digest " + leastChallenge + `,opaque="o"`, "Digest " + leastChallenge + ",stale=true",
			`Digest realm="r\"",nonce="n",algorithm="SHA-256",qop="auth,auth-int"`,
			"Digest " + leastCredentials, instead(leastCredentials, "qop", `"auth-int"`), instead(leastCredentials, "nc", "ABcd9876"),
		} {
			for i := range len(s) {
				check(s[:i] + b + s[i:])
				check(s[:i] + b + s[i+1:])
			}
			check(s + b)
		}
	})
}

// P7.3 and P7.5: all short texts and many longer ones, against the definitions
func TestParseAll(t *testing.T) {
	accepted := 0
	check := func(s string) {
		c, e := plainChallenge(s)
		checkChallenge(t, s, c, e)
		d, f := plainCredentials(s)
		checkCredentials(t, s, d, f)
		if e == api.OK || f == api.OK {
			accepted++
		}
	}
	allTexts([]string{"Digest", " ", "\t", "x", "X", "=", ",", `"`, `\`, "<", ">", "\x01"}, 4, func(s string) {
		check(s)
		check("Digest " + s)
	})
	allTexts([]string{"x", "X", "y", "=", ",", `"`, `\`, " ", "<", ">"}, 5, func(s string) {
		check("Digest " + s)
		check("Digest " + leastChallenge + "," + s)
	})
	choose := chooser(3)
	words := []string{"auth", "auth-int", ",", " , ", " ", "AUTH", "x", ""}
	for range 60000 {
		list := pick(&choose, leastChallenge, leastCredentials, leastCredentials)
		fields := strings.Split(list, ",")
		for range choose.below(4) {
			at := choose.below(len(fields))
			name, value, _ := strings.Cut(fields[at], "=")
			switch choose.below(7) {
			case 0:
				fields = append(fields[:at], fields[at+1:]...)
				fields = append(fields, pick(&choose, "opaque", "stale", "x", name)+"="+pick(&choose, "true", "o", "TRUE"))
			case 1:
				fields[at] = name + `="` + value + `"`
			case 2:
				fields[at] = strings.ToUpper(name) + " = " + value
			case 3:
				fields[at] = name + "=" + choose.text([]string{"a", "0", "F", `"`, `\`, " ", ",", "\t"}, 8)
			case 4:
				fields[at] = `qop="` + choose.text(words, 5) + `"`
			case 5:
				fields[at] = "nc=" + choose.text([]string{"0", "a", "F", "9", "00", "g"}, 8)
			case 6:
				fields = append(fields, choose.text([]string{"x", "=", `"`, " ", "realm"}, 4))
			}
		}
		check(pick(&choose, "Digest ", "digest\t", "Digest  ", "Digest", " Digest ") + strings.Join(fields, pick(&choose, ",", ", ", " ,\t")))
	}
	if accepted < 10000 {
		t.Errorf("only %d texts were read", accepted)
	}
}

// P7.3 and P7.5: there is no limit to the number and the length of fields.
func TestParseLarge(t *testing.T) {
	var b strings.Builder
	for i := range 100000 {
		b.WriteString(",x" + strconv.Itoa(i) + "=" + strconv.Itoa(i))
	}
	long := strings.Repeat("n", 1<<20)
	checkChallenge(t, "Digest "+leastChallenge+b.String(), api.Challenge{Realm: "r", Nonce: "n"}, api.OK)
	checkChallenge(t, "Digest "+leastChallenge+b.String()+",X99999=1", api.Challenge{}, api.ErrDuplicate)
	checkChallenge(t, instead(leastChallenge, "nonce", long), api.Challenge{Realm: "r", Nonce: long}, api.OK)
	checkCredentials(t, instead(leastCredentials, "cnonce", `"`+long+`"`)+b.String(), api.Credentials{User: "u", Realm: "r", Nonce: "n", URI: "a", Response: "x", Cnonce: long, Count: 1}, api.OK)
}

// P7.4
func TestPrintChallenge(t *testing.T) {
	for _, x := range []struct {
		c    api.Challenge
		want string
	}{
		{api.Challenge{Realm: "r", Nonce: "n"}, `Digest realm="r", nonce="n", algorithm=SHA-256, qop="auth"`},
		{api.Challenge{}, `Digest realm="", nonce="", algorithm=SHA-256, qop="auth"`},
		{api.Challenge{Realm: "r", Nonce: "n", Opaque: "o"}, `Digest realm="r", nonce="n", opaque="o", algorithm=SHA-256, qop="auth"`},
		{api.Challenge{Realm: "r", Nonce: "n", Integrity: true}, `Digest realm="r", nonce="n", algorithm=SHA-256, qop="auth,auth-int"`},
		{api.Challenge{Realm: "r", Nonce: "n", Stale: true}, `Digest realm="r", nonce="n", algorithm=SHA-256, qop="auth", stale=true`},
		{api.Challenge{Realm: `a "b"`, Nonce: `\`, Opaque: ", \t", Integrity: true, Stale: true}, `Digest realm="a \"b\"", nonce="\\", opaque=", ` + "\t" + `", algorithm=SHA-256, qop="auth,auth-int", stale=true`},
		{api.Challenge{Realm: "\u00e9\xff", Nonce: "<", Opaque: ">"}, "Digest realm=\"\u00e9\xff\", nonce=\"<\", opaque=\">\", algorithm=SHA-256, qop=\"auth\""},
	} {
		if got, e := auth.PrintChallenge(x.c); got != x.want || e != api.OK {
			t.Errorf("PrintChallenge(%+v) = %q, %d; want %q", x.c, got, e, x.want)
		}
	}
}

// P7.6
func TestPrintCredentials(t *testing.T) {
	for _, x := range []struct {
		c    api.Credentials
		want string
	}{
		{api.Credentials{User: "u", Realm: "r", Nonce: "n", URI: "sip:a", Response: "x", Cnonce: "c", Count: 1}, `Digest username="u", realm="r", nonce="n", uri="sip:a", response="x", algorithm=SHA-256, cnonce="c", qop=auth, nc=00000001`},
		{api.Credentials{}, `Digest username="", realm="", nonce="", uri="", response="", algorithm=SHA-256, cnonce="", qop=auth, nc=00000000`},
		{api.Credentials{Opaque: "o", Integrity: true, Count: 4294967295}, `Digest username="", realm="", nonce="", uri="", response="", algorithm=SHA-256, cnonce="", qop=auth-int, nc=ffffffff, opaque="o"`},
		{api.Credentials{User: `"`, Realm: `\`, Nonce: "\t", URI: "<>", Response: "\u00e9", Cnonce: "\xff", Opaque: `", nc="`, Count: 0x1a2b3c4d}, "Digest username=\"\\\"\", realm=\"\\\\\", nonce=\"\t\", uri=\"<>\", response=\"\u00e9\", algorithm=SHA-256, cnonce=\"\xff\", qop=auth, nc=1a2b3c4d, opaque=\"\\\", nc=\\\"\""},
	} {
		if got, e := auth.PrintCredentials(x.c); got != x.want || e != api.OK {
			t.Errorf("PrintCredentials(%+v) = %q, %d; want %q", x.c, got, e, x.want)
		}
	}
	for _, count := range []int{-1, -4294967295, 4294967296, 4294967297, 1 << 62, -1 << 63} {
		if got, e := auth.PrintCredentials(api.Credentials{Count: count}); got != "" || e != api.ErrArg {
			t.Errorf("PrintCredentials with the count %d = %q, %d", count, got, e)
		}
	}
}

// P7.4 and P7.6: every byte in every text
func TestPrintBytes(t *testing.T) {
	for _, around := range []string{"", "a"} {
		eachByte(func(b string) {
			s, want := around+b+around, api.OK
			if isControl(b[0]) {
				want = api.ErrArg
			}
			for _, c := range []api.Challenge{{Realm: s}, {Nonce: s}, {Opaque: s}, {Realm: s, Nonce: s, Opaque: s, Integrity: true, Stale: true}} {
				text := ""
				if want == api.OK {
					text = plainOffered(c)
				}
				if got, e := auth.PrintChallenge(c); got != text || e != want {
					t.Errorf("PrintChallenge(%+v) = %q, %d; want %q, %d", c, got, e, text, want)
				}
			}
			for _, c := range []api.Credentials{{User: s}, {Realm: s}, {Nonce: s}, {URI: s}, {Response: s}, {Cnonce: s}, {Opaque: s}, {User: s, Opaque: s}} {
				text := ""
				if want == api.OK {
					text = plainPrinted(c)
				}
				if got, e := auth.PrintCredentials(c); got != text || e != want {
					t.Errorf("PrintCredentials(%+v) = %q, %d; want %q, %d", c, got, e, text, want)
				}
			}
		})
	}
}

// P7.11: what is printed is read as the same.
func TestPrintedAndRead(t *testing.T) {
	choose := chooser(5)
	parts := []string{"a", "B", `"`, `\`, " ", "\t", ",", "=", "<", ">", "\u00e9", "\xff", "Digest ", "nc=1", "\\\"", ";"}
	for range 20000 {
		c := api.Challenge{Realm: choose.text(parts, 5), Nonce: choose.text(parts, 5), Opaque: choose.text(parts, 2), Integrity: choose.flag(), Stale: choose.flag()}
		s, e := auth.PrintChallenge(c)
		if s != plainOffered(c) || e != api.OK {
			t.Errorf("PrintChallenge(%+v) = %q, %d; want %q", c, s, e, plainOffered(c))
		}
		checkChallenge(t, s, c, api.OK)

		d := api.Credentials{
			User: choose.text(parts, 4), Realm: choose.text(parts, 4), Nonce: choose.text(parts, 4), URI: choose.text(parts, 4), Response: choose.text(parts, 4),
			Cnonce: choose.text(parts, 4), Opaque: choose.text(parts, 2), Count: choose.below(1<<16)<<16 | choose.below(1<<16), Integrity: choose.flag(),
		}
		s, e = auth.PrintCredentials(d)
		if s != plainPrinted(d) || e != api.OK {
			t.Errorf("PrintCredentials(%+v) = %q, %d; want %q", d, s, e, plainPrinted(d))
		}
		checkCredentials(t, s, d, api.OK)
	}
}
