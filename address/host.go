package address

import "strings"

const (
	mostName   = 255 // bytes of a name
	mostLabel  = 63
	mostNumber = 3 // digits of one of four numbers
	mostGroup  = 4 // digits of a group
	allNumbers = 4
	allGroups  = 8
)

// Host returns the normal form of a host.
func Host(s string) (string, bool) {
	switch {
	case strings.HasPrefix(s, "["):
		return bracketHost(s)
	case isName(s):
		return lower(s), true
	case isFourNumbers(s):
		return s, true
	}
	return "", false
}

// isName reports whether s is a host of labels.
func isName(s string) bool {
	if len(s) > mostName {
		return false
	}
	for _, label := range strings.Split(s, ".") {
		if !isLabel(label) {
			return false
		}
	}
	return contains(s, letter) || strings.IndexByte(s, '-') >= 0
}

// isLabel reports whether s is a label of a name.
func isLabel(s string) bool {
	if s == "" || len(s) > mostLabel {
		return false
	}
	other := func(c byte) bool { return !letter(c) && !digit(c) && c != '-' }
	return !contains(s, other) && s[0] != '-' && s[len(s)-1] != '-'
}

// isFourNumbers reports whether s is a host of four numbers.
func isFourNumbers(s string) bool {
	numbers := strings.SplitN(s, ".", allNumbers+1)
	if len(numbers) != allNumbers {
		return false
	}
	for _, n := range numbers {
		if !isByte(n) {
			return false
		}
	}
	return true
}

// isByte reports whether s is a number from 0 to 255 without superfluous zeros.
func isByte(s string) bool {
	if s == "" || len(s) > mostNumber || len(s) > 1 && s[0] == '0' {
		return false
	}
	n := 0
	for i := range len(s) {
		if !digit(s[i]) {
			return false
		}
		n = n*10 + int(s[i]-'0')
	}
	return n <= 255
}

// bracketHost returns the normal form of a host of groups in brackets.
func bracketHost(s string) (string, bool) {
	inside, closed := strings.CutSuffix(s[1:], "]")
	if !closed {
		return "", false
	}
	before, behind, gap := strings.Cut(inside, "::")
	left, okLeft := groups(before)
	right, okRight := groups(behind)
	n := len(left) + len(right)
	if !okLeft || !okRight || gap && n >= allGroups || !gap && n != allGroups {
		return "", false
	}
	middle := ""
	if gap {
		middle = "::"
	}
	return "[" + strings.Join(left, ":") + middle + strings.Join(right, ":") + "]", true
}

// groups returns the normal forms of the groups of s, of which there may be none.
func groups(s string) ([]string, bool) {
	if s == "" {
		return nil, true
	}
	l := strings.SplitN(s, ":", allGroups+1)
	if len(l) > allGroups {
		return nil, false
	}
	for i, g := range l {
		if !isGroup(g) {
			return nil, false
		}
		zeros := strings.TrimLeft(g[:len(g)-1], "0") // the last digit stays
		l[i] = lower(zeros + g[len(g)-1:])
	}
	return l, true
}

// isGroup reports whether s is a group of hexadecimal digits.
func isGroup(s string) bool {
	other := func(c byte) bool {
		_, ok := hexValue(c)
		return !ok
	}
	return s != "" && len(s) <= mostGroup && !contains(s, other)
}
