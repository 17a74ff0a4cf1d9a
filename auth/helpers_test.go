package auth_test

import (
	"bytes"
	"crypto/sha256"
	"encoding/hex"
	"slices"
	"strings"

	"dialtone/api"
)

// chooser chooses numbers by a fixed sequence.
type chooser uint32

func (c *chooser) below(n int) int {
	*c = *c*1664525 + 1013904223
	return int(*c>>8) % n
}

func (c *chooser) text(parts []string, most int) string {
	var b strings.Builder
	for range c.below(most + 1) {
		b.WriteString(parts[c.below(len(parts))])
	}
	return b.String()
}

func (c *chooser) flag() bool { return c.below(2) == 1 }

// pick returns one of the elements.
func pick[T any](c *chooser, l ...T) T { return l[c.below(len(l))] }

// allTexts calls visit for every text of at most n parts.
func allTexts(parts []string, n int, visit func(string)) {
	var extend func(s string, n int)
	extend = func(s string, n int) {
		visit(s)
		if n == 0 {
			return
		}
		for _, p := range parts {
			extend(s+p, n-1)
		}
	}
	extend("", n)
}

// eachByte calls visit for every byte, as a text.
func eachByte(visit func(b string)) {
	for c := range 256 {
		visit(string([]byte{byte(c)}))
	}
}

func isControl(c byte) bool { return c < 32 && c != 9 || c == 127 }

func hasControl(s string) bool { return slices.ContainsFunc([]byte(s), isControl) }

// digest is the library's hash, as text.
func digest(s string) string {
	sum := sha256.Sum256([]byte(s))
	return hex.EncodeToString(sum[:])
}

func cloneGuard(g api.Guard) api.Guard {
	g.Nonces = slices.Clone(g.Nonces)
	return g
}

func sameGuard(a, b api.Guard) bool {
	return a.Realm == b.Realm && a.Key == b.Key && a.Life == b.Life && a.Issued == b.Issued && slices.Equal(a.Nonces, b.Nonces)
}

func cloneMessage(m api.Message) api.Message {
	m.Headers, m.Body = slices.Clone(m.Headers), bytes.Clone(m.Body)
	return m
}

func sameMessage(a, b api.Message) bool {
	return a.Method == b.Method && a.URI == b.URI && a.Code == b.Code && a.Reason == b.Reason &&
		slices.Equal(a.Headers, b.Headers) && bytes.Equal(a.Body, b.Body)
}

// overwriteMessage changes what the slices of m hold.
func overwriteMessage(m api.Message) {
	for i := range m.Headers {
		m.Headers[i] = api.Header{Name: "overwritten"}
	}
	for i := range m.Body {
		m.Body[i]++
	}
}

// overwriteGuard changes what the slice of g holds.
func overwriteGuard(g api.Guard) {
	for i := range g.Nonces {
		g.Nonces[i] = api.Nonce{Text: "overwritten", At: 7, Last: 7}
	}
}

// headers returns headers, given by names and values in turn.
func headers(l ...string) []api.Header {
	var hs []api.Header
	for i := 0; i < len(l); i += 2 {
		hs = append(hs, api.Header{Name: l[i], Value: l[i+1]})
	}
	return hs
}

// nonces returns n nonces with different texts, times and counts.
func nonces(n int) []api.Nonce {
	var l []api.Nonce
	for i := range n {
		l = append(l, api.Nonce{Text: "n" + string(rune('0'+i)), At: i * 10, Last: i})
	}
	return l
}
