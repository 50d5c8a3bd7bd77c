package find

import (
	"slices"
	"sync/atomic"

	"brook/acl"
	"brook/api"
	"brook/dn"
	"brook/eval"
	"brook/tree"
)

// every stands among Types for all that there are.
const every = "*"

// sight goes through views; looked counts those at which it has looked, and so tells which one is next. It is one call's own: a count for all calls would be kept.
type sight struct {
	views  []api.Entry
	looked atomic.Int64
}

func (s *sight) more() bool {
	return int(s.looked.Load()) < len(s.views)
}

// next looks for the next view that f matches; ok tells whether there is one.
func (s *sight) next(f api.Filter) (v api.Entry, ok bool) {
	for s.more() {
		v = s.views[s.looked.Add(1)-1]
		if eval.Eval(f, v) == api.True {
			return v, true
		}
	}
	return api.Entry{}, false
}

// views makes of each entry in a scope what who may read of it; where that is nothing there is no view. What is looked at is one of these, never an entry itself.
func views(l []api.Entry, rules []api.Rule, who string, scope int, base string) []api.Entry {
	var all []api.Entry
	for _, e := range l {
		if !within(scope, tree.Key(e), base) {
			continue
		}
		if v := acl.View(rules, who, e); len(v.Attrs) > 0 {
			all = append(all, v)
		}
	}
	return all
}

// within tells whether a key stands in the scope of another one.
func within(scope int, key, base string) bool {
	switch scope {
	case api.Base:
		return key == base
	case api.One:
		// What is above no name is empty, too.
		return key != "" && dn.Up(key) == base
	}
	return dn.Under(key, base)
}

// asking makes the question whether a type is one of types, in letters of whatever case.
func asking(types []string) func(typ string) bool {
	if len(types) == 0 || slices.Contains(types, every) {
		return func(string) bool { return true }
	}
	times := map[string]int{}
	for _, typ := range types {
		times[lowered(typ)]++
	}
	return func(typ string) bool { return times[lowered(typ)] > 0 }
}

// part makes of a view, which is the caller's own, what is asked for.
func part(v api.Entry, asks func(typ string) bool) api.Entry {
	var l []api.Attr
	for _, a := range v.Attrs {
		if asks(a.Type) {
			l = append(l, a)
		}
	}
	return api.Entry{Dn: v.Dn, Attrs: l}
}

// lowered makes letters A to Z small. Blanks stay, so layer 2's Fold does not serve; the library's ToLower turns other letters, too.
func lowered(s string) string {
	b := []byte(s)
	for i, c := range b {
		if c >= 'A' && c <= 'Z' {
			b[i] = c + 'a' - 'A'
		}
	}
	return string(b)
}
