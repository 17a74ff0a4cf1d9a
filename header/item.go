package header

import (
	"iter"
	"slices"
	"strings"

	"dialtone/address"
	"dialtone/api"
	"dialtone/lexis"
)

// Item reads an item.
func Item(value string) (api.Item, api.Errno) {
	value = trimmed(value)
	end := lexis.TokenEnd(value, 0)
	if strings.HasPrefix(value[end:], "/") {
		end = lexis.TokenEnd(value, end+1)
	}
	if !isItem(value[:end]) {
		return api.Item{}, api.ErrSyntax
	}
	params, _, e := address.Params(value[end:])
	if e != api.OK {
		return api.Item{}, e
	}
	return api.Item{Value: value[:end], Params: params}, api.OK
}

// isItem reports whether s is a token, or two with a slash between them.
func isItem(s string) bool {
	first, second, slash := strings.Cut(s, "/")
	return lexis.Token(first) && (!slash || lexis.Token(second))
}

// PrintItem writes an item.
func PrintItem(x api.Item) (string, api.Errno) {
	params, e := address.PrintParams(sorted(slices.Values(x.Params)))
	if e != api.OK || !isItem(x.Value) {
		return "", api.ErrArg
	}
	return x.Value + params, api.OK
}

// sorted returns the parameters by ascending names.
func sorted(l iter.Seq[api.Param]) []api.Param {
	return slices.SortedFunc(l, func(a, b api.Param) int { return strings.Compare(a.Name, b.Name) })
}
