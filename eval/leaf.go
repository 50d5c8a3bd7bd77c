package eval

import (
	"slices"
	"strings"

	"brook/api"
	"brook/entry"
	"brook/match"
)

// leaf tells the truth of a filter that holds no others.
func leaf(f api.Filter, e api.Entry) int {
	if !mayAsk(f) {
		return api.Undefined
	}
	if fits(f, e) {
		return api.True
	}
	return api.False
}

// mayAsk tells whether f's Type is one, of which may be asked what f asks.
func mayAsk(f api.Filter) bool {
	switch f.Kind {
	case api.FEq:
		_, ok := match.Norm(f.Type, f.Val)
		return ok
	case api.FGe, api.FLe:
		_, ok := match.Less(f.Type, f.Val, f.Val)
		return ok
	case api.FSub:
		return match.Rule(f.Type) == api.RText
	}
	_, ok := match.Canon(f.Type)
	return ok
}

// fits tells whether e has what f asks for.
func fits(f api.Filter, e api.Entry) bool {
	switch f.Kind {
	case api.FEq:
		return entry.Has(e, f.Type, f.Val)
	case api.FGe:
		return some(e, f.Type, func(v string) bool { return notBelow(f.Type, v, f.Val) })
	case api.FLe:
		return some(e, f.Type, func(v string) bool { return notBelow(f.Type, f.Val, v) })
	case api.FSub:
		return some(e, f.Type, hasParts(f))
	}
	return len(entry.Vals(e, f.Type)) > 0
}

// some tells whether of one of e's values of a type is says true.
func some(e api.Entry, typ string, is func(v string) bool) bool {
	return slices.ContainsFunc(entry.Vals(e, typ), is)
}

// notBelow tells whether a and b have an order, and a is not below b in it.
func notBelow(typ, a, b string) bool {
	less, ok := match.Less(typ, a, b)
	return ok && !less
}

// hasParts makes the question whether a value has a norm that f's Parts make up.
func hasParts(f api.Filter) func(v string) bool {
	var parts []string
	for _, part := range f.Parts {
		parts = append(parts, lowered(part))
	}
	return func(v string) bool {
		norm, ok := match.Norm(f.Type, v)
		return ok && madeOf(norm, parts)
	}
}

// madeOf tells whether a norm begins with the first of parts, ends with the last, and has the others between.
func madeOf(norm string, parts []string) bool {
	last := len(parts) - 1
	rest, begins := strings.CutPrefix(norm, parts[0])
	rest, ends := strings.CutSuffix(rest, parts[last])
	if !begins || !ends {
		return false
	}
	// Each one is taken where it first stands, which leaves the most to those behind it.
	for _, part := range parts[1:last] {
		_, behind, found := strings.Cut(rest, part)
		if !found {
			return false
		}
		rest = behind
	}
	return true
}

// lowered makes letters A to Z small. Blanks stay, so layer 2's Fold does not serve; the library's ToLower turns other letters, too.
func lowered(s string) string {
	b := []byte(s)
	for i, c := range b {
		if c >= 'A' && c <= 'Z' {
			b[i] = c + 'a' - 'A'
		}
	}
	return string(b)
}
