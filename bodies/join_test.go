package bodies_test

import (
	"fmt"
	"slices"
	"strings"
	"testing"

	"dialtone/api"
	"dialtone/bodies"
)

func checkJoin(t *testing.T, parts []api.Part, boundary, want string, e api.Errno) {
	t.Helper()
	b, f := bodies.Join(parts, boundary)
	if string(b) != want || e != f {
		t.Errorf("Join(%q, %q) = %q, %d; want %q, %d", parts, boundary, b, f, want, e)
	}
}

// P5.2
func TestJoin(t *testing.T) {
	checkJoin(t, plain("hi"), "b", lines("--b", "", "hi", "--b--", ""), api.OK)
	checkJoin(t, plain(""), "b", lines("--b", "", "", "--b--", ""), api.OK)
	checkJoin(t, plain("1", "", "\r\n", "4\r\n5"), "a-b.!%*_+'~`", lines("--a-b.!%*_+'~`", "", "1", "--a-b.!%*_+'~`", "", "", "--a-b.!%*_+'~`", "", "\r\n", "--a-b.!%*_+'~`", "", "4\r\n5", "--a-b.!%*_+'~`--", ""), api.OK)
	checkJoin(t, []api.Part{part("hi", "c", " Text/Plain ;B=1; a", "l", "07", "W", "", "w", " \t", "w", "a\tb")}, "b",
		lines("--b", "Content-Type: Text/Plain;a;b=1", "Content-Length: 7", "W: ", "W: ", "W: a\tb", "", "hi", "--b--", ""), api.OK)
	checkJoin(t, []api.Part{part("\x00\xff\r", "V", "SIP/2.0/udp H,SIP/2.0/tcp I"), part("hi")}, "b",
		lines("--b", "Via: SIP/2.0/UDP h, SIP/2.0/TCP i", "", "\x00\xff\r", "--b", "", "hi", "--b--", ""), api.OK)
}

// P5.2: ErrArg for the boundary and for the number of parts
func TestJoinArguments(t *testing.T) {
	long := strings.Repeat("x", 70)
	checkJoin(t, plain("hi"), long, lines("--"+long, "", "hi", "--"+long+"--", ""), api.OK)
	for _, boundary := range []string{"", long + "x", "a b", " b", "b ", "b:", "b/c", "\u00e9", "b\r\n", `"b"`} {
		checkJoin(t, plain("hi"), boundary, "", api.ErrArg)
		checkJoin(t, plain("--"+boundary), boundary, "", api.ErrArg)
		checkJoin(t, plain(strings.Repeat("a", 8192)), boundary, "", api.ErrArg)
	}
	eachByte(func(b string) {
		if strings.Contains(tokenBytes, b) {
			checkJoin(t, plain("hi"), b, lines("--"+b, "", "hi", "--"+b+"--", ""), api.OK)
		} else {
			checkJoin(t, plain("hi"), b, "", api.ErrArg)
		}
	})
	checkJoin(t, nil, "b", "", api.ErrArg)
	checkJoin(t, []api.Part{}, "b", "", api.ErrArg)
	for n := 1; n < 12; n++ {
		l := make([]api.Part, n)
		if n <= 8 {
			checkJoin(t, l, "b", strings.Repeat("--b\r\n\r\n\r\n", n)+"--b--\r\n", api.OK)
			continue
		}
		checkJoin(t, l, "b", "", api.ErrArg)
		l[n-1] = part("--b")
		checkJoin(t, l, "b", "", api.ErrArg)
	}
}

// notValid contains parts that are not valid.
func notValid() []api.Part {
	long := strings.Repeat("v", 1025)
	many := part("")
	for range 65 {
		many.Headers = append(many.Headers, headers("W", "1")...)
	}
	return []api.Part{
		part("hi", "", "1"), part("hi", "a b", "1"), part("hi", "w:", "1"), part("hi", " w", "1"), part("hi", "w ", "1"), part("hi", strings.Repeat("n", 65), "1"), part("hi", "c", "a/b", "\u00e9", "1"),
		part("hi", "w", long), part("hi", "w", strings.Repeat(" ", 1025)), part("hi", "w", long[1:]+" "), part("hi", "k", strings.Repeat("a,", 400)+"a"), part("hi", "c", "a/b", "w", long),
		part("hi", "w", "a\nb"), part("hi", "w", "\x00"), part("hi", "w", "\x7f"), part("hi", "w", "a\r\n b"),
		part("hi", "c", ""), part("hi", "c", "a/"), part("hi", "c", "a b"), part("hi", "c", "a;x;X"), part("hi", "c", "a"+manyParams(17)), part("hi", "l", "x"), part("hi", "l", "2147483648"), part("hi", "l", "-1"),
		part("hi", "k", "a,,b"), part("hi", "k", `a;b="`), part("hi", "t", "x"), part("hi", "v", "SIP/2.0/UDP h:0"), part("hi", "CSeq", "1"), many,
	}
}

// P5.2: ErrArg for a part
func TestJoinValid(t *testing.T) {
	for _, p := range notValid() {
		for _, l := range [][]api.Part{{p}, {part("1"), p}, {p, part("1")}, {part("--b"), p}, {part(strings.Repeat("a", 8192)), p}} {
			checkJoin(t, l, "b", "", api.ErrArg)
		}
	}
	many := part("hi")
	want := "--b\r\n"
	for range 64 {
		many.Headers = append(many.Headers, headers("l", "00")...)
		want += "Content-Length: 0\r\n"
	}
	checkJoin(t, []api.Part{many}, "b", want+"\r\nhi\r\n--b--\r\n", api.OK)
	full, name := strings.Repeat("v", 1024), strings.Repeat("n", 64)
	checkJoin(t, []api.Part{part("hi", "w", full, name, full[2:]+" \t")}, "b", lines("--b", "W: "+full, "N"+name[1:]+": "+full[2:], "", "hi", "--b--", ""), api.OK)
	list := strings.Repeat("a, ", 341) + "a" // it has 1024 bytes
	checkJoin(t, []api.Part{part("hi", "k", strings.ReplaceAll(list, " ", ""))}, "b", lines("--b", "Supported: "+list, "", "hi", "--b--", ""), api.OK)
}

// P5.2: ErrDuplicate
func TestJoinDuplicate(t *testing.T) {
	for _, body := range []string{"--b", "--b0", "--b--", "--b\r\n", "--bx", "--b\x00", "\r\n--b", "x\r\n--b-", "\n\r\n--b y", "-\r\n--b", "\r\n\r\n--b", "--b", "x\r\n--a\r\n--b"} {
		checkJoin(t, plain(body), "b", "", api.ErrDuplicate)
		checkJoin(t, plain("1", body), "b", "", api.ErrDuplicate)
		checkJoin(t, plain(body, "1"), "b", "", api.ErrDuplicate)
		checkJoin(t, plain("1", body, strings.Repeat("a", 8192)), "b", "", api.ErrDuplicate)
		checkJoin(t, plain(body), "bbb", lines("--bbb", "", body, "--bbb--", ""), api.OK)
	}
	for _, body := range []string{"-b", "--", "-", "x--b", " --b", "---b", "\r--b", "\n--b", "\r\n --b", "\r\n-b", "\r\n---b", "--B", "\r\n--B", "\r\n", "\r\n--", "-\r\n-b"} {
		checkJoin(t, plain(body, "1"), "b", lines("--b", "", body, "--b", "", "1", "--b--", ""), api.OK)
	}
	checkJoin(t, []api.Part{part("1", "--b", "w")}, "B", lines("--B", "--B: w", "", "1", "--B--", ""), api.OK)
	checkJoin(t, []api.Part{part("1", "w", "--b")}, "b", lines("--b", "W: --b", "", "1", "--b--", ""), api.OK)
}

// P5.2: ErrLimit
func TestJoinLength(t *testing.T) {
	// cut returns what Join returns if want would be its result.
	cut := func(want string) (string, api.Errno) {
		if len(want) > 8192 {
			return "", api.ErrLimit
		}
		return want, api.OK
	}
	blank := strings.Repeat(" ", 500)
	for n := 8100; n < 8200; n++ {
		body := strings.Repeat("a", n)
		want, e := cut(lines("--b", "", body, "--b--", ""))
		checkJoin(t, plain(body), "b", want, e)
		want, e = cut(lines("--b", "Content-Encoding: ", "", body, "--b", "", "", "--b--", ""))
		checkJoin(t, []api.Part{part(body, "e", blank), part("")}, "b", want, e)
	}
	checkJoin(t, plain(strings.Repeat("a", 100000)), "b", "", api.ErrLimit)
	checkJoin(t, plain(strings.Repeat("a", 4000), strings.Repeat("b", 4000), strings.Repeat("c", 4000)), "b", "", api.ErrLimit)
}

// P5.3
func TestBoundary(t *testing.T) {
	for _, c := range []struct {
		parts []api.Part
		want  string
	}{
		{nil, "b0"}, {[]api.Part{}, "b0"}, {make([]api.Part, 20), "b0"}, {plain("hi", "b0", "-b0", "--b", "--c0", "--B0", "--", "--b-0", "--b 0"), "b0"},
		{plain("--b0"), "b1"}, {plain("x--b0y"), "b1"}, {plain("---b0"), "b1"}, {plain("--b\r\n0--b0"), "b1"}, {plain("--b--b0"), "b1"}, {plain("--b1"), "b0"}, {plain("--b00"), "b1"}, {plain("--b01"), "b1"}, {plain("--b0123"), "b1"},
		{plain("--b0--b1--b2"), "b3"}, {plain("--b2--b1--b0"), "b3"}, {plain("--b0", "--b1", "--b2"), "b3"}, {plain("--b2", "", "--b0"), "b1"}, {plain("--b", "0"), "b0"}, {plain("-", "-b0"), "b0"},
		{plain("--b0--b10"), "b2"}, {plain("--b0--b20"), "b1"}, {plain("--b0--b15--b2--b3"), "b4"}, {plain("--b0--b1" + strings.Repeat("9", 5000) + "--b2"), "b3"},
		{plain("--b0 --b1 --b2 --b3 --b4 --b5 --b6 --b7 --b8 --b9"), "b10"}, {plain("--b0 --b10 --b2 --b3 --b4 --b5 --b6 --b7 --b8 --b9"), "b11"}, {plain("--b0 --b123 --b2 --b3 --b4 --b5 --b6 --b7 --b8 --b9"), "b10"}, {plain("--b0 --b1/ --b2: --b3\u00b2 --b4"), "b5"},
		{[]api.Part{part("--b1", "--b0", "--b0", "w", "--b0")}, "b0"}, {append(notValid(), part("--b0")), "b1"},
	} {
		if got := bodies.Boundary(c.parts); got != c.want {
			t.Errorf("Boundary(%q) = %q; want %q", c.parts, got, c.want)
		}
	}
}

// P5.3: with every byte
func TestBoundaryEachByte(t *testing.T) {
	eachByte(func(b string) {
		one, three := "b1", "b3"
		if b == "1" {
			one = "b2"
		}
		if b == "3" {
			three = "b4"
		}
		if got := bodies.Boundary(plain("--b0--b" + b)); got != one {
			t.Errorf("Boundary with --b%q = %q", b, got)
		}
		if got := bodies.Boundary(plain("--b0"+b+"--b1", "--b2"+b, "--b"+b)); got != three {
			t.Errorf("Boundary with numbers beside %q = %q", b, got)
		}
	})
}

// P5.3: with many numbers
func TestBoundaryMany(t *testing.T) {
	var l []string
	for n := range 30000 {
		l = append(l, fmt.Sprintf("--b%d", n))
	}
	slices.Reverse(l)
	if got := bodies.Boundary(plain(strings.Join(l[:10000], ""), strings.Join(l[10000:], " "))); got != "b30000" {
		t.Errorf("Boundary = %q", got)
	}
}

// Rules 4 and 5
func TestJoinMemory(t *testing.T) {
	parts := cloneParts([]api.Part{part("one", "c", "A/B", "k", "a,b"), part("two"), part("", "w", " 3 ")})
	before := cloneParts(parts)
	want := mustJoin(t, parts, "b")
	first, _ := bodies.Join(parts, "b")
	second, _ := bodies.Join(parts, "b")
	bodies.Boundary(parts)
	unchanged(t, "Join", parts, before)
	overwriteAll(parts)
	if string(first) != want {
		t.Errorf("Join returns memory of its argument: %q; want %q", first, want)
	}
	first = first[:cap(first)]
	for i := range first {
		first[i] = '#'
	}
	if string(second) != want {
		t.Errorf("two results of Join share memory: %q; want %q", second, want)
	}
}
