package lexis_test

import (
	"slices"
	"strings"
	"testing"

	"dialtone/api"
	"dialtone/lexis"
)

// allTexts calls visit for every text of at most n parts.
func allTexts(parts []string, n int, visit func(string)) {
	var extend func(s string, n int)
	extend = func(s string, n int) {
		visit(s)
		if n == 0 {
			return
		}
		for _, p := range parts {
			extend(s+p, n-1)
		}
	}
	extend("", n)
}

// manyTexts calls visit for n texts, of up to most parts each, that a fixed sequence of numbers chooses.
func manyTexts(parts []string, n, most int, visit func(string)) {
	x := uint32(1)
	next := func(n int) int {
		x = x*1664525 + 1013904223
		return int(x>>8) % n
	}
	for range n {
		var b strings.Builder
		for range next(most + 1) {
			b.WriteString(parts[next(len(parts))])
		}
		visit(b.String())
	}
}

// quotedPrefix is the definition of a quoted string: it returns the content and the length of the one that s begins with.
func quotedPrefix(s string) (string, int, bool) {
	if !strings.HasPrefix(s, `"`) {
		return "", 0, false
	}
	content := ""
	for i := 1; i < len(s); i++ {
		switch {
		case s[i] == '"':
			return content, i + 1, true
		case s[i] == '\\':
			if i+1 == len(s) || s[i+1] < 32 || s[i+1] > 126 {
				return "", 0, false
			}
			i++
		case isControl(s[i]):
			return "", 0, false
		}
		content += s[i : i+1]
	}
	return "", 0, false
}

// commentPrefix is the definition of a comment: it returns the length and the depth of the one that s begins with.
func commentPrefix(s string) (length, depth int, ok bool) {
	if !strings.HasPrefix(s, "(") {
		return 0, 0, false
	}
	depth = 1
	for i := 1; i < len(s); {
		switch {
		case s[i] == ')':
			return i + 1, depth, true
		case s[i] == '(':
			n, d, ok := commentPrefix(s[i:])
			if !ok {
				return 0, 0, false
			}
			depth = max(depth, d+1)
			i += n
		case s[i] == '\\':
			if i+1 == len(s) || s[i+1] < 32 || s[i+1] > 126 {
				return 0, 0, false
			}
			i += 2
		case isControl(s[i]):
			return 0, 0, false
		default:
			i++
		}
	}
	return 0, 0, false
}

// P1.5: exactly the quoted strings are read, and an error does not depend on what is behind its offset.
func TestUnquoteAll(t *testing.T) {
	allTexts([]string{`"`, `\`, "a", "\t", "\x01", "\x80"}, 6, func(s string) {
		for at := range len(s) + 1 {
			text, to, e := lexis.Unquote(s, at)
			content, n, ok := quotedPrefix(s[at:])
			switch {
			case ok:
				if text != content || to != at+n || e != api.OK {
					t.Errorf("Unquote(%q, %d) = %q, %d, %d", s, at, text, to, e)
				}
			case text != "" || e != api.ErrSyntax && e != api.ErrShort:
				t.Errorf("Unquote(%q, %d) = %q, %d, %d", s, at, text, to, e)
			case e == api.ErrShort && to != len(s):
				t.Errorf("Unquote(%q, %d): short at %d", s, at, to)
			}
		}
	})
}

// P1.6: exactly the comments are read.
func TestCommentAll(t *testing.T) {
	check := func(s string) {
		for at := range len(s) + 1 {
			text, to, e := lexis.Comment(s, at)
			n, depth, ok := commentPrefix(s[at:])
			switch {
			case ok && depth <= api.MaxDepth:
				if e != api.OK || to != at+n || text != s[at+1:at+n-1] {
					t.Errorf("Comment(%q, %d) = %q, %d, %d", s, at, text, to, e)
				}
			case ok:
				if e != api.ErrLimit || text != "" || s[to] != '(' {
					t.Errorf("Comment(%q, %d) = %q, %d, %d", s, at, text, to, e)
				}
			case text != "" || e != api.ErrSyntax && e != api.ErrShort && e != api.ErrLimit:
				t.Errorf("Comment(%q, %d) = %q, %d, %d", s, at, text, to, e)
			}
		}
	}
	allTexts([]string{"(", ")", `\`, "a", "\x01"}, 6, check)
	manyTexts([]string{"(", "(", ")", "a"}, 5000, 40, check)
}

// splitNaive marks the bytes in quoted strings and angle brackets first, and then divides.
func splitNaive(s string, sep byte) ([]api.Piece, bool) {
	inside := make([]bool, len(s))
	for i := 0; i < len(s); {
		n := 0
		switch s[i] {
		case '"':
			_, length, ok := quotedPrefix(s[i:])
			if !ok {
				return nil, false
			}
			n = length
		case '<':
			n = strings.Index(s[i:], ">") + 1
			if n == 0 {
				return nil, false
			}
		case '>':
			return nil, false
		}
		for j := range n {
			inside[i+j] = true
		}
		i += max(n, 1)
	}
	var pieces []api.Piece
	from := 0
	for to := range len(s) + 1 {
		if to == len(s) || s[to] == sep && !inside[to] {
			part := s[from:to]
			left := len(part) - len(strings.TrimLeft(part, " \t"))
			pieces = append(pieces, api.Piece{At: from + left, Text: strings.Trim(part, " \t")})
			from = to + 1
		}
	}
	return pieces, true
}

// P1.8 and P1.11: the pieces stand where the definition says, and are found again when they are joined.
func TestSplitAll(t *testing.T) {
	check := func(s string) {
		pieces, at, e := lexis.Split(s, ',')
		want, ok := splitNaive(s, ',')
		if !slices.Equal(pieces, want) || ok != (e == api.OK) || ok && at != 0 || !ok && e != api.ErrSyntax && e != api.ErrShort {
			t.Errorf("Split(%q) = %+v, %d, %d; want %+v", s, pieces, at, e, want)
		}
		if !ok {
			return
		}
		var texts []string
		for _, p := range pieces {
			if s[p.At:p.At+len(p.Text)] != p.Text {
				t.Errorf("Split(%q): %q is not at %d", s, p.Text, p.At)
			}
			texts = append(texts, p.Text)
		}
		again, _, e := lexis.Split(strings.Join(texts, ","), ',')
		var found []string
		for _, p := range again {
			found = append(found, p.Text)
		}
		if !slices.Equal(found, texts) || e != api.OK {
			t.Errorf("Split(%q): the pieces are %q, and then %q", s, texts, found)
		}
	}
	allTexts([]string{",", `"`, "<", ">", " ", `\`, "a"}, 6, check)
	manyTexts([]string{",", `"b,c"`, "<d,e>", " ", "\t", `\`, "a"}, 5000, 30, check)
}

// P1.8: an error is met at the first offset from which on no text can be divided.
func TestSplitErrors(t *testing.T) {
	allTexts([]string{",", `"`, "<", ">", `\`, "\x01"}, 6, func(s string) {
		_, at, e := lexis.Split(s, ',')
		switch e {
		case api.ErrShort:
			_, closedMark := splitNaive(s+`"`, ',')
			_, closedEscape := splitNaive(s+`\"`, ',')
			_, closedEscaped := splitNaive(s+`a"`, ',')
			_, closedAngle := splitNaive(s+">", ',')
			if at != len(s) || !closedMark && !closedEscape && !closedEscaped && !closedAngle {
				t.Errorf("Split(%q): short at %d", s, at)
			}
		case api.ErrSyntax:
			if at >= len(s) {
				t.Errorf("Split(%q): an error at %d", s, at)
				return
			}
			for _, rest := range []string{"", `"`, `\"`, `a"`, ">", `">`, `>"`} {
				if _, ok := splitNaive(s+rest, ','); ok {
					t.Errorf("Split(%q): an error, but with %q there is none", s, rest)
				}
			}
			if _, _, e := lexis.Split(s[:at], ','); e == api.ErrSyntax {
				t.Errorf("Split(%q): the error at %d is not the first", s, at)
			}
		}
	})
}

// unfoldNaive cuts a text into physical lines first, and then joins them.
func unfoldNaive(s string) []api.Piece {
	var lines []api.Piece
	at := 0
	for _, p := range strings.SplitAfter(s, "\r\n") {
		text := strings.Trim(strings.TrimSuffix(p, "\r\n"), " \t")
		switch {
		case p == "":
		case p[0] != ' ' && p[0] != '\t':
			lines = append(lines, api.Piece{At: at, Text: text})
		case text != "" && lines[len(lines)-1].Text != "":
			lines[len(lines)-1].Text += " " + text
		case text != "":
			lines[len(lines)-1].Text = text
		}
		at += len(p)
	}
	return lines
}

// unfoldError returns the error of Unfold and its offset, one condition after the other.
func unfoldError(s string) (int, api.Errno) {
	if strings.HasPrefix(s, " ") || strings.HasPrefix(s, "\t") {
		return 0, api.ErrSyntax
	}
	for i := range len(s) {
		pair := s[i] == '\r' && strings.HasPrefix(s[i:], "\r\n") || s[i] == '\n' && strings.HasSuffix(s[:i], "\r")
		if isControl(s[i]) && !pair && !(s[i] == '\r' && i == len(s)-1) {
			return i, api.ErrSyntax
		}
	}
	if s != "" && !strings.HasSuffix(s, "\r\n") {
		return len(s), api.ErrShort
	}
	return 0, api.OK
}

// P1.9
func TestUnfoldAll(t *testing.T) {
	allTexts([]string{"\r", "\n", "\r\n", " ", "\t", "a", "\x01"}, 6, func(s string) {
		wantAt, wantError := unfoldError(s)
		var want []api.Piece
		if wantError == api.OK {
			want = unfoldNaive(s)
		}
		lines, at, e := lexis.Unfold(s)
		if !slices.Equal(lines, want) || at != wantAt || e != wantError {
			t.Errorf("Unfold(%q) = %+v, %d, %d; want %+v, %d, %d", s, lines, at, e, want, wantAt, wantError)
		}
	})
}

// foldNaive follows the definition of Fold word for word.
func foldNaive(s string, width int) string {
	folded := ""
	for len(s) > width {
		var breaks []int
		for i := 1; i+1 < len(s); i++ {
			if s[i] == ' ' && !strings.ContainsAny(s[i-1:i]+s[i+1:i+2], " \t") {
				breaks = append(breaks, i)
			}
		}
		if len(breaks) == 0 {
			break
		}
		at := breaks[0]
		for _, b := range breaks {
			if b <= width {
				at = b
			}
		}
		folded += s[:at] + "\r\n"
		s = s[at:]
	}
	return folded + s + "\r\n"
}

// P1.10 and P1.11: Fold divides as its definition says, and Unfold gives the line back.
func TestFoldAll(t *testing.T) {
	manyTexts([]string{" ", " ", "  ", "\t", "a", "bb", "ccccccc", "dddddddddddddddddddd"}, 5000, 60, func(s string) {
		s = strings.Trim(s, " \t")
		for _, width := range []int{20, 21, 30, 78, 1000} {
			got, e := lexis.Fold(s, width)
			if want := foldNaive(s, width); got != want || e != api.OK {
				t.Errorf("Fold(%q, %d) = %q, %d; want %q", s, width, got, e, want)
			}
			lines, _, e := lexis.Unfold(got)
			if !slices.Equal(lines, []api.Piece{{Text: s}}) || e != api.OK {
				t.Errorf("Unfold(%q) = %+v, %d", got, lines, e)
			}
		}
	})
}

// P1.11: what Quote returns is read back, whatever is behind it.
func TestQuoteIsReadBack(t *testing.T) {
	allTexts([]string{`"`, `\`, "a", " ", "\t", "\x80", "\x01"}, 5, func(s string) {
		q, e := lexis.Quote(s)
		if strings.Contains(s, "\x01") {
			if q != "" || e != api.ErrSyntax {
				t.Errorf("Quote(%q) = %q, %d", s, q, e)
			}
			return
		}
		for _, rest := range []string{"", "x", `"`, `\`, "\x00", `"a"`} {
			text, to, e := lexis.Unquote("ab"+q+rest, 2)
			if text != s || to != 2+len(q) || e != api.OK {
				t.Errorf("Unquote(%q, 2) = %q, %d, %d", "ab"+q+rest, text, to, e)
			}
		}
	})
}

// P1.11: the lines of two texts, one after the other, are those of both.
func TestUnfoldOfTwoTexts(t *testing.T) {
	var texts []string
	allTexts([]string{"\r\n", " ", "a", "b\r\n"}, 4, func(s string) {
		if _, _, e := lexis.Unfold(s); e == api.OK {
			texts = append(texts, s)
		}
	})
	for _, a := range texts {
		for _, b := range texts {
			want, _, _ := lexis.Unfold(a)
			second, _, _ := lexis.Unfold(b)
			for _, p := range second {
				want = append(want, api.Piece{At: len(a) + p.At, Text: p.Text})
			}
			if got, _, e := lexis.Unfold(a + b); !slices.Equal(got, want) || e != api.OK {
				t.Errorf("Unfold(%q) = %+v, %d; want %+v", a+b, got, e, want)
			}
		}
	}
}

// The rules of the document: results are new memory, and a second call gives the same.
func TestResultsAreNew(t *testing.T) {
	split := func(s string) ([]api.Piece, int, api.Errno) { return lexis.Split(s, ',') }
	for _, read := range []func(string) ([]api.Piece, int, api.Errno){split, lexis.Unfold} {
		first, _, _ := read("a,b\r\nc,d\r\n")
		want := slices.Clone(first)
		for i := range first {
			first[i] = api.Piece{At: -1, Text: "changed"}
		}
		if second, _, _ := read("a,b\r\nc,d\r\n"); !slices.Equal(second, want) {
			t.Errorf("the second call returns %+v; want %+v", second, want)
		}
	}
}

// Long texts are read in time that grows with their length alone.
func TestLongTexts(t *testing.T) {
	const n = 200000
	if s, to, e := lexis.Unquote(`"`+strings.Repeat(`\a`, n)+`"`, 0); len(s) != n || to != 2*n+2 || e != api.OK {
		t.Errorf("Unquote = %d bytes, %d, %d", len(s), to, e)
	}
	if s, to, e := lexis.Comment("("+strings.Repeat("(a)", n)+")", 0); len(s) != 3*n || to != 3*n+2 || e != api.OK {
		t.Errorf("Comment = %d bytes, %d, %d", len(s), to, e)
	}
	if l, _, e := lexis.Split(strings.Repeat(`"a"<b>,`, n), ','); len(l) != n+1 || e != api.OK {
		t.Errorf("Split = %d pieces, %d", len(l), e)
	}
	if l, _, e := lexis.Unfold("a\r\n" + strings.Repeat(" a\r\n", n)); len(l) != 1 || len(l[0].Text) != 2*n+1 || e != api.OK {
		t.Errorf("Unfold = %d lines, %d", len(l), e)
	}
	if s, e := lexis.Fold(strings.Repeat("a ", n)+"a", 20); strings.Count(s, "\r\n") != 2*n/20+1 || e != api.OK {
		t.Errorf("Fold = %d lines, %d; want %d", strings.Count(s, "\r\n"), e, 2*n/20+1)
	}
}
