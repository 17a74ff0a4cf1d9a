package address_test

import (
	"regexp"
	"strconv"
	"strings"
	"testing"

	"dialtone/address"
)

// P2.3
func TestHost(t *testing.T) {
	a63, a64 := strings.Repeat("a", 63), strings.Repeat("a", 64)
	name255 := strings.Repeat(a63+".", 3) + a63
	for s, want := range map[string]string{
		"Example.COM": "example.com", "EXAMPLE": "example", "a": "a", "Z": "z", "0x": "0x", "a-b": "a-b", "a--b.C-1": "a--b.c-1",
		"1.2.3.a": "1.2.3.a", "1.2-3": "1.2-3", "1-2": "1-2", "a.1": "a.1", "1.a.1": "1.a.1", "256.1.1.x": "256.1.1.x",
		a63: a63, a63 + "." + a63: a63 + "." + a63, name255: name255,

		"10.0.0.1": "10.0.0.1", "0.0.0.0": "0.0.0.0", "255.255.255.255": "255.255.255.255", "1.20.199.249": "1.20.199.249",

		"[2001:0DB8::01]": "[2001:db8::1]", "[::1]": "[::1]", "[2001:db8::]": "[2001:db8::]", "[::]": "[::]", "[1:2::8]": "[1:2::8]",
		"[1:2:3:4:5:6:7:8]": "[1:2:3:4:5:6:7:8]", "[0:00:000:0000:00A0:0B:C:FFFF]": "[0:0:0:0:a0:b:c:ffff]",
		"[::2:3:4:5:6:7:8]": "[::2:3:4:5:6:7:8]", "[1:2:3:4:5:6:7::]": "[1:2:3:4:5:6:7::]", "[1:2:3::5:6:7:8]": "[1:2:3::5:6:7:8]",
		"[2001:0DB8::00]": "[2001:db8::0]", "[0::0]": "[0::0]",
	} {
		if got, ok := address.Host(s); got != want || !ok {
			t.Errorf("Host(%q) = %q, %v; want %q", s, got, ok, want)
		}
	}
	for _, s := range []string{
		"", ".", "a.", ".a", "a..b", "-", "-a", "a-", "a.-b", "a-.b", "a_b", "a b", " a", "a ", "a:1", "a/b", "\u00e9", "a\x80", "a\x00", "%61",
		a64, a64 + ".a", "a." + a64, name255 + "a", name255 + ".a", strings.Repeat("a.", 127) + "aa", strings.Repeat("1.", 128) + "a",
		"1", "1.2", "1.2.3", "1.2.3.4.5", "1.2.3.", ".1.2.3", "1..2.3", "01.2.3.4", "1.2.3.04", "00.0.0.0", "256.1.1.1", "1.1.1.256", "1.1.1.300", "1.1.1.1000", "1.1.1.0000", "+1.1.1.1", "1.1.1. 1",
		"[", "]", "[]", "[:]", "[1]", "[:::]", "[::::]", "[1::2::3]", "[::1::]", "[:::1]", "[1:::2]", "[1:2:3:4:5:6:7]", "[1:2:3:4:5:6:7:8:9]", "[1:2:3:4:5:6:7:8::]", "[::1:2:3:4:5:6:7:8]", "[1:2:3:4::5:6:7:8]", "[1:2::3:4:5:6:7:8:9]",
		"[:1:2:3:4:5:6:7]", "[1:2:3:4:5:6:7:]", "[:1::2]", "[1::2:]", "[12345::]", "[00001::]", "[g::]", "[::g]", "[::1", "::1]", "::1", "[::1]]", "[[::1]", "[::1]x", "x[::1]", "[::1.2.3.4]", "[ ::1]", "[::1 ]", "[example]", "[1.2.3.4]", "[::\u00e9]",
	} {
		if got, ok := address.Host(s); got != "" || ok {
			t.Errorf("Host(%q) = %q, %v", s, got, ok)
		}
	}
}

// P2.3: the class of each byte within each kind of host
func TestHostBytes(t *testing.T) {
	for c := range 256 {
		b := string([]byte{byte(c)})
		letterOrDigit := strings.Contains(everyClass[:62], b)
		checkHost(t, "x"+b+"y", letterOrDigit || b == "-" || b == ".")
		checkHost(t, "x"+b, letterOrDigit)
		checkHost(t, b+"x", letterOrDigit)
		checkHost(t, "1.2.3."+b, letterOrDigit)
		checkHost(t, "["+b+"::]", strings.Contains("0123456789abcdefABCDEF", b))
	}
	for n := range 1200 {
		s := strconv.Itoa(n)
		checkHost(t, s+".1.1.1", n <= 255)
		checkHost(t, "1.1."+s+".1", n <= 255)
	}
}

func checkHost(t *testing.T, s string, want bool) {
	t.Helper()
	got, ok := address.Host(s)
	if ok != want || ok && got != lowered(s) || !ok && got != "" {
		t.Errorf("Host(%q) = %q, %v", s, got, ok)
	}
}

var (
	numbersForm = regexp.MustCompile(`^((0|[1-9][0-9]?|1[0-9][0-9]|2[0-4][0-9]|25[0-5])(\.|$)){4}$`)
	nameForm    = regexp.MustCompile(`^([A-Za-z0-9]([A-Za-z0-9-]{0,61}[A-Za-z0-9])?(\.|$))+$`)
	groupForm   = regexp.MustCompile(`^[0-9A-Fa-f]{1,4}$`)
)

// isHost follows the definition of a host.
func isHost(s string) bool {
	if strings.HasPrefix(s, "[") && strings.HasSuffix(s, "]") {
		return isGroups(s[1 : len(s)-1])
	}
	if strings.HasSuffix(s, ".") {
		return false
	}
	return numbersForm.MatchString(s) || nameForm.MatchString(s) && len(s) <= 255 && strings.Trim(s, "0123456789.") != ""
}

// isGroups writes zeros in the place of the gap, for each number of them, until there are eight groups.
func isGroups(s string) bool {
	eight := func(s string) bool {
		l := strings.Split(s, ":")
		for _, g := range l {
			if !groupForm.MatchString(g) {
				return false
			}
		}
		return len(l) == 8
	}
	if eight(s) {
		return true
	}
	at := strings.Index(s, "::")
	if at < 0 {
		return false
	}
	for zeros := 1; zeros <= 8; zeros++ {
		filled := strings.TrimSuffix(strings.Repeat("0:", zeros), ":")
		if at > 0 {
			filled = s[:at] + ":" + filled
		}
		if at+2 < len(s) {
			filled += ":" + s[at+2:]
		}
		if eight(filled) {
			return true
		}
	}
	return false
}

var zeroBefore = regexp.MustCompile(`([:\[])0+([0-9a-f])`)

// P2.3, against the definition, and P2.14: a normal form has itself as normal form.
func TestHostAll(t *testing.T) {
	check := func(s string) {
		got, ok := address.Host(s)
		want := ""
		if isHost(s) {
			want = lowered(s)
			if s[0] == '[' {
				want = zeroBefore.ReplaceAllString(want, "$1$2")
				want = zeroBefore.ReplaceAllString(want, "$1$2")
			}
		}
		if got != want || ok != (want != "") {
			t.Errorf("Host(%q) = %q, %v; want %q", s, got, ok, want)
		}
		if again, _ := address.Host(got); again != got {
			t.Errorf("Host(%q) = %q, and then %q", s, got, again)
		}
	}
	allTexts([]string{"A", "1", "-", ".", "["}, 6, check)
	allTexts([]string{"0", "9", "25", ".", "-"}, 7, check)
	allTexts([]string{"1", "0", ":", "Ab"}, 7, func(s string) { check("[" + s + "]") })
	choose := chooser(1)
	for range 20000 {
		check("[" + choose.text([]string{"1", "02", "0000", ":", ":", ":", "F", "1:2:3:4"}, 16) + "]")
	}
}
