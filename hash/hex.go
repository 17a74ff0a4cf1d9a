package hash

import "dialtone/api"

const digits = "0123456789abcdef"

// Hex returns bytes as hexadecimal text.
func Hex(b []byte) string {
	text := make([]byte, 0, 2*len(b))
	for _, c := range b {
		text = append(text, digits[c>>4], digits[c&15])
	}
	return string(text)
}

// Unhex returns the bytes of hexadecimal text.
func Unhex(s string) ([]byte, api.Errno) {
	if len(s)%2 != 0 {
		return nil, api.ErrSyntax
	}
	b := make([]byte, len(s)/2)
	for i := range len(s) {
		v, ok := digit(s[i])
		if !ok {
			return nil, api.ErrSyntax
		}
		b[i/2] = b[i/2]<<4 | v
	}
	return b, api.OK
}

// digit returns the value of a hexadecimal digit.
func digit(c byte) (byte, bool) {
	switch {
	case '0' <= c && c <= '9':
		return c - '0', true
	case 'a' <= c && c <= 'f':
		return c - 'a' + 10, true
	case 'A' <= c && c <= 'F':
		return c - 'A' + 10, true
	}
	return 0, false
}
