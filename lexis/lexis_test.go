package lexis_test

import (
	"slices"
	"strings"
	"testing"

	"dialtone/api"
	"dialtone/lexis"
)

const tokenBytes = "ABCDEFGHIJKLMNOPQRSTUVWXYZabcdefghijklmnopqrstuvwxyz0123456789-.!%*_+'~`"

func isControl(c byte) bool { return c < 32 && c != 9 || c == 127 }

// textCase is a call of Unquote or Comment, with what it returns.
type textCase struct {
	s    string
	at   int
	text string
	to   int
	e    api.Errno
}

func checkTexts(t *testing.T, name string, read func(string, int) (string, int, api.Errno), cases []textCase) {
	t.Helper()
	for _, c := range cases {
		text, to, e := read(c.s, c.at)
		if text != c.text || to != c.to || e != c.e {
			t.Errorf("%s(%q, %d) = %q, %d, %d; want %q, %d, %d", name, c.s, c.at, text, to, e, c.text, c.to, c.e)
		}
	}
}

// pieceCase is a text with its pieces, or with an error and its offset.
type pieceCase struct {
	s      string
	pieces []api.Piece
	at     int
	e      api.Errno
}

func checkPieces(t *testing.T, name string, read func(string) ([]api.Piece, int, api.Errno), cases []pieceCase) {
	t.Helper()
	for _, c := range cases {
		pieces, at, e := read(c.s)
		if !slices.Equal(pieces, c.pieces) || at != c.at || e != c.e {
			t.Errorf("%s(%q) = %+v, %d, %d; want %+v, %d, %d", name, c.s, pieces, at, e, c.pieces, c.at, c.e)
		}
	}
}

// P1.1
func TestToken(t *testing.T) {
	for s, want := range map[string]bool{
		"a-1.b": true, tokenBytes: true, "A": true, "0": true, "`": true,
		"": false, "a b": false, "a/b": false, " a": false, "a ": false, "\x00": false, "a\x80": false, "\u00e9": false, "a\tb": false,
	} {
		if lexis.Token(s) != want {
			t.Errorf("Token(%q) = %v", s, !want)
		}
	}
	for c := range 256 {
		s := string([]byte{byte(c)})
		if want := strings.Contains(tokenBytes, s); lexis.Token(s) != want || lexis.Token("a"+s+"b") != want {
			t.Errorf("Token of the byte %d is not %v", c, want)
		}
	}
}

// P1.2
func TestTokenEnd(t *testing.T) {
	for _, c := range []struct {
		s        string
		at, want int
	}{
		{"ab;c", 0, 2}, {"ab;c", 1, 2}, {"ab;c", 2, 2}, {"ab;c", 3, 4}, {"ab;c", 4, 4},
		{"ab;c", -1, 2}, {"ab;c", -1 << 62, 2}, {"ab;c", 5, 4}, {"ab;c", 1 << 62, 4},
		{"", 0, 0}, {"", -1, 0}, {"", 1, 0}, {";ab", 0, 0}, {"a b", 0, 1}, {"a\x80", 0, 1},
		{tokenBytes, 0, len(tokenBytes)},
	} {
		if got := lexis.TokenEnd(c.s, c.at); got != c.want {
			t.Errorf("TokenEnd(%q, %d) = %d; want %d", c.s, c.at, got, c.want)
		}
	}
	for c := range 256 {
		s := string([]byte{byte(c)})
		want := 0
		if strings.Contains(tokenBytes, s) {
			want = 1
		}
		if got := lexis.TokenEnd(s, 0); got != want {
			t.Errorf("TokenEnd of the byte %d = %d", c, got)
		}
	}
}

// P1.3
func TestBlanks(t *testing.T) {
	for _, c := range []struct {
		s        string
		at, want int
	}{
		{" \t a ", 0, 3}, {" \t a ", 2, 3}, {" \t a ", 3, 3}, {" \t a ", 4, 5}, {" \t a ", 5, 5},
		{" a", -1, 1}, {" a", -1 << 62, 1}, {" a ", 4, 3}, {" a ", 1 << 62, 3},
		{"", 0, 0}, {"", -1, 0}, {"", 1, 0}, {"a ", 0, 0}, {"\r\n ", 0, 0},
	} {
		if got := lexis.Blanks(c.s, c.at); got != c.want {
			t.Errorf("Blanks(%q, %d) = %d; want %d", c.s, c.at, got, c.want)
		}
	}
	for c := range 256 {
		want := 0
		if c == 32 || c == 9 {
			want = 1
		}
		if got := lexis.Blanks(string([]byte{byte(c)}), 0); got != want {
			t.Errorf("Blanks of the byte %d = %d", c, got)
		}
	}
}

// P1.4
func TestQuote(t *testing.T) {
	for _, c := range []struct{ s, want string }{
		{`a"b`, `"a\"b"`}, {"", `""`}, {`\`, `"\\"`}, {`"`, `"\""`}, {`\"`, `"\\\""`},
		{"plain text", `"plain text"`}, {"(;<>,)", `"(;<>,)"`}, {"a\tb", "\"a\tb\""}, {"\x80\xff", "\"\x80\xff\""},
	} {
		if got, e := lexis.Quote(c.s); got != c.want || e != api.OK {
			t.Errorf("Quote(%q) = %q, %d; want %q", c.s, got, e, c.want)
		}
	}
	for c := range 256 {
		s := "a" + string([]byte{byte(c)}) + "b"
		got, e := lexis.Quote(s)
		switch {
		case isControl(byte(c)):
			if got != "" || e != api.ErrSyntax {
				t.Errorf("Quote(%q) = %q, %d", s, got, e)
			}
		case e != api.OK || (len(got) == 6) != (c == '"' || c == '\\'):
			t.Errorf("Quote(%q) = %q, %d", s, got, e)
		}
	}
}

// P1.5
func TestUnquote(t *testing.T) {
	checkTexts(t, "Unquote", lexis.Unquote, []textCase{
		{`x "a\""`, 2, `a"`, 7, api.OK},
		{`""`, 0, "", 2, api.OK},
		{`""""`, 2, "", 4, api.OK},
		{`"a"b"`, 0, "a", 3, api.OK},
		{`"a"b"`, 2, "b", 5, api.OK},
		{`"\\"x`, 0, `\`, 4, api.OK},
		{`"\a\ \~\(" y`, 0, "a ~(", 10, api.OK},
		{"\"\ta\x80\xff\"", 0, "\ta\x80\xff", 6, api.OK},
		{"\"<(a)>\"", 0, "<(a)>", 7, api.OK},

		{`"a"`, -1, "", 0, api.ErrArg},
		{`"a"`, 4, "", 0, api.ErrArg},
		{`"a"`, -1 << 62, "", 0, api.ErrArg},
		{`"a"`, 1 << 62, "", 0, api.ErrArg},
		{"", 1, "", 0, api.ErrArg},
		{"", -1, "", 0, api.ErrArg},

		{"", 0, "", 0, api.ErrSyntax},
		{`"a"`, 3, "", 3, api.ErrSyntax},
		{`"a"`, 1, "", 1, api.ErrSyntax},
		{"ab", 0, "", 0, api.ErrSyntax},
		{"x\"a\x00\"", 1, "", 3, api.ErrSyntax},
		{"\"a\r\nb\"", 0, "", 2, api.ErrSyntax},
		{"\"\x7f\"", 0, "", 1, api.ErrSyntax},
		{"\"\x1f", 0, "", 1, api.ErrSyntax},
		{"\"a\\\t\"", 0, "", 2, api.ErrSyntax},
		{"\"a\\\x7f\"", 0, "", 2, api.ErrSyntax},
		{"\"a\\\x80\"", 0, "", 2, api.ErrSyntax},
		{"\"a\\\x1f\"", 0, "", 2, api.ErrSyntax},
		{"\"\\\"\x01\\\x01", 0, "", 3, api.ErrSyntax},

		{`"`, 0, "", 1, api.ErrShort},
		{`"ab`, 0, "", 3, api.ErrShort},
		{`"ab\`, 0, "", 4, api.ErrShort},
		{`"ab\"`, 0, "", 5, api.ErrShort},
		{`"a" "b`, 4, "", 6, api.ErrShort},
	})
	for c := range 256 {
		b := string([]byte{byte(c)})
		if c >= 32 && c <= 126 {
			checkTexts(t, "Unquote", lexis.Unquote, []textCase{{`"\` + b + `"`, 0, b, 4, api.OK}})
		} else {
			checkTexts(t, "Unquote", lexis.Unquote, []textCase{{`"\` + b + `"`, 0, "", 1, api.ErrSyntax}})
		}
		switch {
		case isControl(byte(c)):
			checkTexts(t, "Unquote", lexis.Unquote, []textCase{{`"` + b + `"`, 0, "", 1, api.ErrSyntax}})
		case c != '"' && c != '\\':
			checkTexts(t, "Unquote", lexis.Unquote, []textCase{{`"` + b + `"`, 0, b, 3, api.OK}})
		}
	}
}

// P1.6
func TestComment(t *testing.T) {
	nested := func(n int) string { return strings.Repeat("(", n) + strings.Repeat(")", n) }
	checkTexts(t, "Comment", lexis.Comment, []textCase{
		{"(a (b))c", 0, "a (b)", 7, api.OK},
		{"()", 0, "", 2, api.OK},
		{"x(a)(b)", 1, "a", 4, api.OK},
		{"x(a)(b)", 4, "b", 7, api.OK},
		{`(a\)\(\\b)`, 0, `a\)\(\\b`, 10, api.OK},
		{`(")`, 0, `"`, 3, api.OK},
		{"(\t\x80\xff)", 0, "\t\x80\xff", 5, api.OK},
		{nested(8), 0, nested(7), 16, api.OK},
		{"(" + strings.Repeat("(a)", 20) + ")", 0, strings.Repeat("(a)", 20), 62, api.OK},
		{"((((((((a))))))(b))c)d", 0, "(((((((a))))))(b))c", 21, api.OK},

		{"(a)", -1, "", 0, api.ErrArg},
		{"(a)", 4, "", 0, api.ErrArg},
		{"(a)", -1 << 62, "", 0, api.ErrArg},
		{"(a)", 1 << 62, "", 0, api.ErrArg},

		{"", 0, "", 0, api.ErrSyntax},
		{"(a)", 3, "", 3, api.ErrSyntax},
		{"(a)", 1, "", 1, api.ErrSyntax},
		{"\"(a)\"", 0, "", 0, api.ErrSyntax},
		{"x(a(\x00))", 1, "", 4, api.ErrSyntax},
		{"(a\r\n b)", 0, "", 2, api.ErrSyntax},
		{"(\x7f", 0, "", 1, api.ErrSyntax},
		{"(a\\\t)", 0, "", 2, api.ErrSyntax},
		{"(a\\\x80)", 0, "", 2, api.ErrSyntax},
		{"(a\\\x7f)", 0, "", 2, api.ErrSyntax},
		{"((((((((\x01(", 0, "", 8, api.ErrSyntax},

		{nested(9), 0, "", 8, api.ErrLimit},
		{"x" + nested(9), 1, "", 9, api.ErrLimit},
		{"((((((((a)(", 0, "", 11, api.ErrShort},
		{"((((((((a)((", 0, "", 11, api.ErrLimit},
		{"(((((((((\x01", 0, "", 8, api.ErrLimit},
		{strings.Repeat("(", 100), 0, "", 8, api.ErrLimit},

		{"(", 0, "", 1, api.ErrShort},
		{"(a", 0, "", 2, api.ErrShort},
		{"((a)", 0, "", 4, api.ErrShort},
		{`(a\`, 0, "", 3, api.ErrShort},
		{`(a\)`, 0, "", 4, api.ErrShort},
		{"((((((((", 0, "", 8, api.ErrShort},
	})
	for c := range 256 {
		b := string([]byte{byte(c)})
		if c >= 32 && c <= 126 {
			checkTexts(t, "Comment", lexis.Comment, []textCase{{`(\` + b + `)`, 0, `\` + b, 4, api.OK}})
		} else {
			checkTexts(t, "Comment", lexis.Comment, []textCase{{`(\` + b + `)`, 0, "", 1, api.ErrSyntax}})
		}
		switch {
		case isControl(byte(c)):
			checkTexts(t, "Comment", lexis.Comment, []textCase{{"(" + b + ")", 0, "", 1, api.ErrSyntax}})
		case b != "(" && b != ")" && b != `\`:
			checkTexts(t, "Comment", lexis.Comment, []textCase{{"(" + b + ")", 0, b, 3, api.OK}})
		}
	}
}

// P1.7
func TestNumber(t *testing.T) {
	for _, c := range []struct {
		s    string
		want int
		e    api.Errno
	}{
		{"007", 7, api.OK}, {"0", 0, api.OK}, {"0000000000", 0, api.OK}, {"0000000001", 1, api.OK}, {"1234567890", 1234567890, api.OK},
		{"2147483647", 2147483647, api.OK}, {"2147483648", 0, api.ErrRange}, {"9999999999", 0, api.ErrRange}, {"4294967296", 0, api.ErrRange},
		{"", 0, api.ErrSyntax}, {"-1", 0, api.ErrSyntax}, {"+1", 0, api.ErrSyntax}, {"00000000007", 0, api.ErrSyntax}, {"99999999999", 0, api.ErrSyntax},
		{" 1", 0, api.ErrSyntax}, {"1 ", 0, api.ErrSyntax}, {"1a", 0, api.ErrSyntax}, {"0x1", 0, api.ErrSyntax}, {"1_0", 0, api.ErrSyntax},
		{"99999 9999", 0, api.ErrSyntax}, {strings.Repeat("0", 1000), 0, api.ErrSyntax},
	} {
		if n, e := lexis.Number(c.s); n != c.want || e != c.e {
			t.Errorf("Number(%q) = %d, %d; want %d, %d", c.s, n, e, c.want, c.e)
		}
	}
	for c := range 256 {
		n, e := lexis.Number(string([]byte{byte(c)}))
		if c >= '0' && c <= '9' {
			if n != c-'0' || e != api.OK {
				t.Errorf("Number of the byte %d = %d, %d", c, n, e)
			}
		} else if n != 0 || e != api.ErrSyntax {
			t.Errorf("Number of the byte %d = %d, %d", c, n, e)
		}
	}
}

// P1.8
func TestSplit(t *testing.T) {
	comma := func(s string) ([]api.Piece, int, api.Errno) { return lexis.Split(s, ',') }
	checkPieces(t, "Split at commas", comma, []pieceCase{
		{`a , "b,c" <d,e>,,`, []api.Piece{{At: 0, Text: "a"}, {At: 4, Text: `"b,c" <d,e>`}, {At: 16}, {At: 17}}, 0, api.OK},
		{"", []api.Piece{{}}, 0, api.OK},
		{" \t", []api.Piece{{At: 2}}, 0, api.OK},
		{",", []api.Piece{{At: 0}, {At: 1}}, 0, api.OK},
		{" , \t", []api.Piece{{At: 1}, {At: 4}}, 0, api.OK},
		{"\t a b\t,c", []api.Piece{{At: 2, Text: "a b"}, {At: 7, Text: "c"}}, 0, api.OK},
		{`a"\",",b`, []api.Piece{{At: 0, Text: `a"\","`}, {At: 7, Text: "b"}}, 0, api.OK},
		{`<",">,b`, []api.Piece{{At: 0, Text: `<",">`}, {At: 6, Text: "b"}}, 0, api.OK},
		{`<<,>,b`, []api.Piece{{At: 0, Text: `<<,>`}, {At: 5, Text: "b"}}, 0, api.OK},
		{`"<",b`, []api.Piece{{At: 0, Text: `"<"`}, {At: 4, Text: "b"}}, 0, api.OK},
		{`">",b`, []api.Piece{{At: 0, Text: `">"`}, {At: 4, Text: "b"}}, 0, api.OK},
		{"(a,b)", []api.Piece{{At: 0, Text: "(a"}, {At: 3, Text: "b)"}}, 0, api.OK},
		{"\x00,\\,\r\n", []api.Piece{{At: 0, Text: "\x00"}, {At: 2, Text: "\\"}, {At: 4, Text: "\r\n"}}, 0, api.OK},

		{`a,"b`, nil, 4, api.ErrShort},
		{`a,"b\`, nil, 5, api.ErrShort},
		{"a,\"b\x01\"", nil, 4, api.ErrSyntax},
		{"a,\"b\\\x80\"", nil, 4, api.ErrSyntax},
		{"a,<b,", nil, 5, api.ErrShort},
		{"a,<", nil, 3, api.ErrShort},
		{"a,b>", nil, 3, api.ErrSyntax},
		{"<a>>", nil, 3, api.ErrSyntax},
		{"a><", nil, 1, api.ErrSyntax},
		{`<a"`, nil, 3, api.ErrShort},
		{`">" >"`, nil, 4, api.ErrSyntax},
		{`<a>,"`, nil, 5, api.ErrShort},
	})
	for c := range 256 {
		sep := byte(c)
		s := "a" + string([]byte{sep}) + "b"
		pieces, at, e := lexis.Split(s, sep)
		switch sep {
		case ' ', '\t', '"', '<', '>':
			if pieces != nil || at != 0 || e != api.ErrArg {
				t.Errorf("Split(%q, %d) = %+v, %d, %d", s, c, pieces, at, e)
			}
		case 'a':
			if !slices.Equal(pieces, []api.Piece{{At: 0}, {At: 1}, {At: 2, Text: "b"}}) || e != api.OK {
				t.Errorf("Split(%q, %d) = %+v, %d, %d", s, c, pieces, at, e)
			}
		case 'b':
			if !slices.Equal(pieces, []api.Piece{{At: 0, Text: "a"}, {At: 2}, {At: 3}}) || e != api.OK {
				t.Errorf("Split(%q, %d) = %+v, %d, %d", s, c, pieces, at, e)
			}
		default:
			if !slices.Equal(pieces, []api.Piece{{At: 0, Text: "a"}, {At: 2, Text: "b"}}) || at != 0 || e != api.OK {
				t.Errorf("Split(%q, %d) = %+v, %d, %d", s, c, pieces, at, e)
			}
		}
	}
	if pieces, at, e := lexis.Split(`a>"`, '"'); pieces != nil || at != 0 || e != api.ErrArg {
		t.Errorf("Split of a wrong text at a quotation mark = %+v, %d, %d", pieces, at, e)
	}
}

// P1.9
func TestUnfold(t *testing.T) {
	checkPieces(t, "Unfold", lexis.Unfold, []pieceCase{
		{"a: 1\r\n  2 \r\n\r\n", []api.Piece{{At: 0, Text: "a: 1 2"}, {At: 12}}, 0, api.OK},
		{"", nil, 0, api.OK},
		{"\r\n", []api.Piece{{}}, 0, api.OK},
		{"\r\n\r\n", []api.Piece{{At: 0}, {At: 2}}, 0, api.OK},
		{"a \t\r\nb\r\n", []api.Piece{{At: 0, Text: "a"}, {At: 5, Text: "b"}}, 0, api.OK},
		{"a\r\n \r\n\t\t\r\n b\t\r\nc\r\n", []api.Piece{{At: 0, Text: "a b"}, {At: 15, Text: "c"}}, 0, api.OK},
		{"\r\n a\r\nb\r\n", []api.Piece{{At: 0, Text: "a"}, {At: 6, Text: "b"}}, 0, api.OK},
		{"\r\n \r\n", []api.Piece{{At: 0}}, 0, api.OK},
		{"a  b\tc\r\n", []api.Piece{{At: 0, Text: "a  b\tc"}}, 0, api.OK},
		{"\x80\xff\r\n", []api.Piece{{At: 0, Text: "\x80\xff"}}, 0, api.OK},

		{" a\r\n", nil, 0, api.ErrSyntax},
		{"\ta\x01", nil, 0, api.ErrSyntax},
		{" ", nil, 0, api.ErrSyntax},
		{"a\rb\r\n", nil, 1, api.ErrSyntax},
		{"a\nb\r\n", nil, 1, api.ErrSyntax},
		{"a\r\r\n", nil, 1, api.ErrSyntax},
		{"a\r\n\nb", nil, 3, api.ErrSyntax},
		{"a\r\nb\x7f", nil, 4, api.ErrSyntax},
		{"a\r\nb\x00\x01\r", nil, 4, api.ErrSyntax},
		{"a\r\nb\n", nil, 4, api.ErrSyntax},
		{"a\r\r", nil, 1, api.ErrSyntax},

		{"a", nil, 1, api.ErrShort},
		{"a\r", nil, 2, api.ErrShort},
		{"\r", nil, 1, api.ErrShort},
		{"a\r\nb", nil, 4, api.ErrShort},
		{"a\r\n ", nil, 4, api.ErrShort},
		{"a\r\nb\r", nil, 5, api.ErrShort},
	})
	for c := range 256 {
		b := string([]byte{byte(c)})
		want := pieceCase{"a" + b + "b\r\n", []api.Piece{{At: 0, Text: "a" + b + "b"}}, 0, api.OK}
		if isControl(byte(c)) {
			want.pieces, want.at, want.e = nil, 1, api.ErrSyntax
		}
		checkPieces(t, "Unfold", lexis.Unfold, []pieceCase{want})
	}
}

// P1.10
func TestFold(t *testing.T) {
	a := func(n int) string { return strings.Repeat("a", n) }
	for _, c := range []struct {
		s     string
		width int
		want  string
		e     api.Errno
	}{
		{a(40) + " b", 20, a(40) + "\r\n b\r\n", api.OK},
		{"", 20, "\r\n", api.OK},
		{"a", 1000, "a\r\n", api.OK},
		{a(9) + " " + a(10), 20, a(9) + " " + a(10) + "\r\n", api.OK},
		{a(9) + " " + a(11), 20, a(9) + "\r\n " + a(11) + "\r\n", api.OK},
		{a(20) + " b", 20, a(20) + "\r\n b\r\n", api.OK},
		{a(5) + " " + a(14) + " b", 20, a(5) + " " + a(14) + "\r\n b\r\n", api.OK},
		{a(5) + " " + a(15) + " b", 20, a(5) + "\r\n " + a(15) + " b\r\n", api.OK},
		{a(20) + " " + a(19) + " " + a(19), 20, a(20) + "\r\n " + a(19) + "\r\n " + a(19) + "\r\n", api.OK},
		{a(20) + " " + a(20) + " " + a(20), 20, a(20) + "\r\n " + a(20) + "\r\n " + a(20) + "\r\n", api.OK},
		{a(25) + " " + a(25) + " " + a(25), 20, a(25) + "\r\n " + a(25) + "\r\n " + a(25) + "\r\n", api.OK},
		{a(20) + "  " + a(20), 20, a(20) + "  " + a(20) + "\r\n", api.OK},
		{a(20) + "\t" + a(20), 20, a(20) + "\t" + a(20) + "\r\n", api.OK},
		{a(20) + "\t " + a(20), 20, a(20) + "\t " + a(20) + "\r\n", api.OK},
		{a(20) + " \t" + a(20), 20, a(20) + " \t" + a(20) + "\r\n", api.OK},
		{a(15) + "  " + a(15) + " b", 20, a(15) + "  " + a(15) + "\r\n b\r\n", api.OK},
		{"one two  three four five six seven eight nine ten", 20, "one two  three four\r\n five six seven\r\n eight nine ten\r\n", api.OK},
		{a(999) + " " + a(1), 1000, a(999) + "\r\n a\r\n", api.OK},
		{a(998) + " " + a(1), 1000, a(998) + " a\r\n", api.OK},
		{strings.Repeat("\x80", 20) + " \xff", 20, strings.Repeat("\x80", 20) + "\r\n \xff\r\n", api.OK},

		{"a b", 19, "", api.ErrArg}, {"a b", 1001, "", api.ErrArg}, {"a b", 0, "", api.ErrArg}, {"a b", -20, "", api.ErrArg},
		{" a\x00", 19, "", api.ErrArg}, {"a", 1 << 62, "", api.ErrArg}, {"a", -1 << 62, "", api.ErrArg},
		{" a", 20, "", api.ErrSyntax}, {"a ", 20, "", api.ErrSyntax}, {"\ta", 20, "", api.ErrSyntax}, {"a\t", 20, "", api.ErrSyntax},
		{" ", 20, "", api.ErrSyntax}, {"a\r\n b", 20, "", api.ErrSyntax}, {"a\x7fb", 20, "", api.ErrSyntax}, {"\x00", 20, "", api.ErrSyntax},
	} {
		if got, e := lexis.Fold(c.s, c.width); got != c.want || e != c.e {
			t.Errorf("Fold(%q, %d) = %q, %d; want %q, %d", c.s, c.width, got, e, c.want, c.e)
		}
	}
	for c := range 256 {
		s := "a" + string([]byte{byte(c)}) + "b"
		want, wantError := s+"\r\n", api.OK
		if isControl(byte(c)) {
			want, wantError = "", api.ErrSyntax
		}
		if got, e := lexis.Fold(s, 20); got != want || e != wantError {
			t.Errorf("Fold(%q, 20) = %q, %d", s, got, e)
		}
	}
}
