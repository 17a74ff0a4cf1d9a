package message_test

import (
	"slices"
	"strings"
	"testing"

	"dialtone/api"
	"dialtone/message"
)

// mixed returns a message with headers in several spellings, not all of them valid.
func mixed() api.Message {
	m := api.Message{Method: "A B", URI: "u", Code: 7, Reason: "r\n", Body: []byte("body")}
	m.Headers = headers("v", "a ,b", "bad name", "1", "Subject", "x, y", "VIA", "c", "s", "", "", "2", "Via", ", d", "bad name", "3", "subject", "z", "SUPPORTED", `"`)
	return m
}

// checkHeaders compares the headers of m, and checks that all else of it is that of mixed.
func checkHeaders(t *testing.T, what string, m api.Message, want []api.Header) {
	t.Helper()
	rest := mixed()
	rest.Headers = want
	if !equal(m, rest) {
		t.Errorf("%s = %+v, want %+v", what, m, rest)
	}
}

// nameless contains names that are equal to none, themselves included.
func nameless() []string {
	return []string{"", "bad name", " Via", "Via ", "v:", "\u00e9", "Subject\x00", strings.Repeat("a", 65)}
}

// P4.5
func TestGet(t *testing.T) {
	m := mixed()
	for name, want := range map[string]string{"v": "a ,b", "V": "a ,b", "via": "a ,b", "vIA": "a ,b", "s": "x, y", "SUBJECT": "x, y", "k": `"`, "Supported": `"`} {
		if got, ok := message.Get(m, name); got != want || !ok {
			t.Errorf("Get of %q = %q, %v; want %q", name, got, ok, want)
		}
	}
	for _, name := range append(nameless(), "To", "t", "x", "Vi", "Via-", "u", "Subjec") {
		if got, ok := message.Get(m, name); got != "" || ok {
			t.Errorf("Get of %q = %q, %v", name, got, ok)
		}
	}
	if got, ok := message.Get(response("To", " ", "t", "x"), "T"); got != " " || !ok {
		t.Errorf("Get of a blank value = %q, %v", got, ok)
	}
	if got, ok := message.Get(response("s", ""), "s"); got != "" || !ok {
		t.Errorf("Get of an empty value = %q, %v", got, ok)
	}
	for _, name := range nameless() {
		if got, ok := message.Get(response(name, "x"), name); got != "" || ok {
			t.Errorf("Get of %q, which is equal to none, = %q, %v", name, got, ok)
		}
	}
	if got, ok := message.Get(api.Message{}, "Via"); got != "" || ok {
		t.Errorf("Get without headers = %q, %v", got, ok)
	}
}

// P4.6
func TestAll(t *testing.T) {
	for _, c := range []struct {
		m    api.Message
		name string
		want []string
	}{
		{mixed(), "Via", []string{"a", "b", "c", ", d"}}, {mixed(), "v", []string{"a", "b", "c", ", d"}},
		{mixed(), "S", []string{"x, y", "", "z"}}, {mixed(), "k", []string{`"`}}, {mixed(), "To", nil},
		{response("m", `"a, b" <sip:a,b> , * `, "contact", "\t", "M", " sip:c\t", "Contact", "a,,b", "m", "<"), "contact", []string{`"a, b" <sip:a,b>`, "*", "\t", "sip:c", "a,,b", "<"}},
		{response("Subject", " a ", "s", "a , b"), "s", []string{" a ", "a , b"}},
		{response("From", "sip:a, sip:b"), "f", []string{"sip:a, sip:b"}},
		{api.Message{}, "Via", nil}, {response("x y", "a", "", "b"), "x y", nil}, {response("x y", "a", "", "b"), "", nil},
	} {
		before := clone(c.m)
		got := message.All(c.m, c.name)
		if !slices.Equal(got, c.want) || !equal(c.m, before) {
			t.Errorf("All of %q in %q = %q; want %q", c.name, c.m.Headers, got, c.want)
		}
		for i := range got {
			got[i] = "changed"
		}
		if again := message.All(c.m, c.name); !slices.Equal(again, c.want) {
			t.Errorf("the results of All share memory: %q", again)
		}
	}
	for _, name := range sortedKeys(lists()) {
		if got := message.All(response(name, "a,b", strings.ToLower(name), "c"), name); !slices.Equal(got, []string{"a", "b", "c"}) {
			t.Errorf("All of %s = %q", name, got)
		}
	}
	for _, name := range append(sortedKeys(repeatable()), sortedKeys(singles())...) {
		if got := message.All(response(name, "a,b", strings.ToLower(name), " c"), name); !slices.Equal(got, []string{"a,b", " c"}) {
			t.Errorf("All of %s = %q", name, got)
		}
	}
	for _, name := range nameless() {
		if got := message.All(mixed(), name); len(got) > 0 {
			t.Errorf("All of %q = %q", name, got)
		}
	}
}

// P4.7
func TestSet(t *testing.T) {
	for _, name := range []string{"v", "VIA", "Via"} {
		checkHeaders(t, "Set "+name, message.Set(mixed(), name, " new,"),
			headers("Via", " new,", "bad name", "1", "Subject", "x, y", "s", "", "", "2", "bad name", "3", "subject", "z", "SUPPORTED", `"`))
	}
	checkHeaders(t, "Set subject", message.Set(mixed(), "sUBJECT", ""),
		headers("v", "a ,b", "bad name", "1", "Subject", "", "VIA", "c", "", "2", "Via", ", d", "bad name", "3", "SUPPORTED", `"`))
	checkHeaders(t, "Set k", message.Set(mixed(), "k", "a"), append(mixed().Headers[:9:9], headers("Supported", "a")...))
	for name, canon := range map[string]string{"t": "To", "x-my": "X-My", "call-id": "Call-ID", "Z": "Z"} {
		checkHeaders(t, "Set "+name, message.Set(mixed(), name, "new\n"), append(mixed().Headers, headers(canon, "new\n")...))
	}
	for _, name := range nameless() {
		checkHeaders(t, "Set "+name, message.Set(mixed(), name, "new"), append(mixed().Headers, headers(name, "new")...))
	}
	if m := message.Set(api.Message{}, "t", "a"); !equal(m, api.Message{Headers: headers("To", "a")}) {
		t.Errorf("Set without headers = %+v", m)
	}
	for _, name := range []string{"v", "To", "bad name"} {
		hasOwnMemory(t, "Set "+name, mixed(), func(m api.Message) api.Message { return message.Set(m, name, "new") })
	}
}

// P4.8
func TestPush(t *testing.T) {
	for _, name := range []string{"s", "SUBJECT"} {
		checkHeaders(t, "Push "+name, message.Push(mixed(), name, " new,"),
			headers("v", "a ,b", "bad name", "1", "Subject", " new,", "Subject", "x, y", "VIA", "c", "s", "", "", "2", "Via", ", d", "bad name", "3", "subject", "z", "SUPPORTED", `"`))
	}
	checkHeaders(t, "Push k", message.Push(mixed(), "k", "a"), append(mixed().Headers[:9:9], headers("Supported", "a", "SUPPORTED", `"`)...))
	for name, canon := range map[string]string{"v": "Via", "t": "To", "x-my": "X-My", "call-id": "Call-ID", "Z": "Z"} {
		checkHeaders(t, "Push "+name, message.Push(mixed(), name, "new\n"), append(headers(canon, "new\n"), mixed().Headers...))
	}
	for _, name := range nameless() {
		checkHeaders(t, "Push "+name, message.Push(mixed(), name, "new"), append(headers(name, "new"), mixed().Headers...))
	}
	if m := message.Push(api.Message{}, "t", "a"); !equal(m, api.Message{Headers: headers("To", "a")}) {
		t.Errorf("Push without headers = %+v", m)
	}
	for _, name := range []string{"s", "To", "bad name"} {
		hasOwnMemory(t, "Push "+name, mixed(), func(m api.Message) api.Message { return message.Push(m, name, "new") })
	}
}

// P4.9
func TestDrop(t *testing.T) {
	for _, name := range []string{"v", "VIA", "Via"} {
		checkHeaders(t, "Drop "+name, message.Drop(mixed(), name),
			headers("bad name", "1", "Subject", "x, y", "s", "", "", "2", "bad name", "3", "subject", "z", "SUPPORTED", `"`))
	}
	checkHeaders(t, "Drop k", message.Drop(mixed(), "k"), mixed().Headers[:9])
	for _, name := range append(nameless(), "To", "u", "Z") {
		checkHeaders(t, "Drop "+name, message.Drop(mixed(), name), mixed().Headers)
	}
	if m := message.Drop(api.Message{Code: 1, Headers: headers("t", "", "TO", "a")}, "to"); !equal(m, api.Message{Code: 1}) {
		t.Errorf("Drop of all headers = %+v", m)
	}
	for _, name := range []string{"s", "To", "bad name"} {
		hasOwnMemory(t, "Drop "+name, mixed(), func(m api.Message) api.Message { return message.Drop(m, name) })
	}
}

// P4.10
func TestDropFirst(t *testing.T) {
	rest := mixed().Headers[1:]
	checkHeaders(t, "DropFirst v", message.DropFirst(mixed(), "Via"), append(headers("v", "b"), rest...))
	checkHeaders(t, "DropFirst v, twice", message.DropFirst(message.DropFirst(mixed(), "Via"), "v"), rest)
	checkHeaders(t, "DropFirst s", message.DropFirst(mixed(), "s"), slices.Delete(mixed().Headers, 2, 3))
	checkHeaders(t, "DropFirst k", message.DropFirst(mixed(), "k"), mixed().Headers[:9])
	for _, name := range append(nameless(), "To", "u", "Z") {
		checkHeaders(t, "DropFirst "+name, message.DropFirst(mixed(), name), mixed().Headers)
	}
	for _, c := range []struct{ before, behind []api.Header }{
		{headers("m", "\"a, b\" <sip:a,b>;x=\",\" ,*,\tsip:c ", "M", "sip:d"), headers("m", "*, sip:c", "M", "sip:d")},
		{headers("m", " sip:a ", "M", "sip:d,sip:e"), headers("M", "sip:d,sip:e")},
		{headers("m", "", "M", "a,b"), headers("M", "a,b")},
		{headers("m", "a,b,,c", "M", "a,b"), headers("M", "a,b")},
		{headers("m", "a,b,", "M", "a,b"), headers("M", "a,b")},
		{headers("m", "a,<b", "M", "a,b"), headers("M", "a,b")},
		{headers("m", "a,b"), headers("m", "b")},
		{headers("z", "z", "m", "a", "y", "y", "m", "b"), headers("z", "z", "y", "y", "m", "b")},
	} {
		m, want := response(), response()
		m.Headers, want.Headers = c.before, c.behind
		if got := message.DropFirst(m, "Contact"); !equal(got, want) {
			t.Errorf("DropFirst of %q = %q, want %q", c.before, got.Headers, c.behind)
		}
	}
	for _, name := range append(sortedKeys(repeatable()), sortedKeys(singles())...) {
		if m := message.DropFirst(response("z", "z", name, "a, b", name, "c"), name); !equal(m, response("z", "z", name, "c")) {
			t.Errorf("DropFirst of %s = %q", name, m.Headers)
		}
	}
	for _, name := range sortedKeys(lists()) {
		if m := message.DropFirst(response("z", "z", name, "a,b ,c", name, "d"), name); !equal(m, response("z", "z", name, "b, c", name, "d")) {
			t.Errorf("DropFirst of %s = %q", name, m.Headers)
		}
	}
	for _, name := range []string{"v", "s", "To", "bad name"} {
		hasOwnMemory(t, "DropFirst "+name, mixed(), func(m api.Message) api.Message { return message.DropFirst(m, name) })
	}
}
