package filter_test

import (
	"fmt"
	"slices"
	"strings"
	"testing"

	"brook/api"
	"brook/filter"
)

func leaf(kind int, typ, val string) api.Filter { return api.Filter{Kind: kind, Type: typ, Val: val} }

func sub(typ string, parts ...string) api.Filter {
	return api.Filter{Kind: api.FSub, Type: typ, Parts: parts}
}

func of(kind int, kids ...api.Filter) api.Filter { return api.Filter{Kind: kind, Kids: kids} }

func times(n int, f api.Filter) []api.Filter { return slices.Repeat([]api.Filter{f}, n) }

// inside puts f into n others, one in another.
func inside(n, kind int, f api.Filter) api.Filter {
	for range n {
		f = of(kind, f)
	}
	return f
}

// all tells all of a filter; nil lists and empty ones are one.
func all(f api.Filter) string {
	s := fmt.Sprintf("%d %q %q %q {", f.Kind, f.Type, f.Val, f.Parts)
	for _, kid := range f.Kids {
		s += all(kid) + "; "
	}
	return s + "}"
}

func deepOf(f api.Filter) int {
	deep := 0
	for _, kid := range f.Kids {
		deep = max(deep, deepOf(kid)+1)
	}
	return deep
}

var (
	lists  = []int{api.FAnd, api.FOr, api.FNot}
	leaves = []int{api.FEq, api.FSub, api.FGe, api.FLe, api.FHas}
	has    = leaf(api.FHas, "cn", "")
	long   = strings.Repeat("v", api.MaxVal)
)

// plain makes one of each kind of leaves.
func plain(kind int, typ string) api.Filter {
	f := leaf(kind, typ, "")
	if kind == api.FSub {
		f.Parts = []string{"a", "b"}
	}
	return f
}

// dice is a small generator: the same numbers in each run.
type dice uint32

func (d *dice) below(n int) int {
	*d = *d*1664525 + 1013904223
	return int(*d>>8) % n
}

func (d *dice) of(l ...string) string { return l[d.below(len(l))] }

func (d *dice) val() string {
	return d.of("", "a", "Ann Lee", " ", "*", "()", `\`, `\2a`, "=", ">=", "<=x", "&", "|(", "!", "\x00", "\x1f ~\x7f", "é", "\xff\xfe", long, "**", ")")
}

// leaf throws one that may be.
func (d *dice) leaf() api.Filter {
	typ := d.of("cn", "CN", "o", "a-1", "uidNumber", "z-", strings.Repeat("T", api.MaxType))
	kind := leaves[d.below(len(leaves))]
	switch kind {
	case api.FHas:
		return leaf(kind, typ, "")
	case api.FSub:
		parts := []string{d.val()}
		for range d.below(7) {
			parts = append(parts, "m"+strings.TrimPrefix(d.val(), "v"))
		}
		parts = append(parts, d.val())
		if len(parts) == 2 && parts[0]+parts[1] == "" {
			parts[d.below(2)] = "x"
		}
		return sub(typ, parts...)
	}
	return leaf(kind, typ, d.val())
}

// filter throws one that may be, at most so deep.
func (d *dice) filter(deep int) api.Filter {
	if deep == 0 || d.below(3) == 0 {
		return d.leaf()
	}
	kind := lists[d.below(len(lists))]
	if kind == api.FNot {
		return of(kind, d.filter(deep-1))
	}
	f := of(kind)
	for range d.below(4) {
		f.Kids = append(f.Kids, d.filter(deep-1))
	}
	return f
}

// mays asks May, of f and of what holds f, and sees that Text tells something of what may be alone.
func mays(t *testing.T, what string, f api.Filter, want bool) {
	t.Helper()
	if filter.May(f) != want {
		t.Errorf("6.1: May of %s: %v", what, !want)
	}
	if s := filter.Text(f); (s != "") != want {
		t.Errorf("6.2: Text of %s: %.100q", what, s)
	}
	for _, kind := range lists {
		g := of(kind, f)
		if ok := want && deepOf(g) <= api.MaxDeep; filter.May(g) != ok || (filter.Text(g) != "") != ok {
			t.Errorf("6.1: kind %d of %s: %v", kind, what, !ok)
		}
	}
}

// TestMayKids: 6.1, how many Kids there may be, and that each of them may be.
func TestMayKids(t *testing.T) {
	bad := leaf(api.FEq, "1", "x")
	for _, kind := range lists {
		not := kind == api.FNot
		for n, want := range map[int]bool{0: !not, 1: true, 2: !not, 3: !not, api.MaxVals - 1: !not, api.MaxVals: !not, api.MaxVals + 1: false, 2 * api.MaxVals: false, 1 << 16: false} {
			mays(t, fmt.Sprint("kind ", kind, " of ", n), of(kind, times(n, has)...), want)
			for _, at := range []int{0, n / 2, n - 1} {
				if n == 0 || n > api.MaxVals {
					continue
				}
				kids := times(n, has)
				kids[at] = bad
				mays(t, fmt.Sprint("kind ", kind, " of ", n, ", a bad one at ", at), of(kind, kids...), false)
				kids[at] = api.Filter{}
				mays(t, fmt.Sprint("kind ", kind, " of ", n, ", none at ", at), of(kind, kids...), false)
				kids[at] = of(api.FAnd, of(api.FOr, has, bad))
				mays(t, fmt.Sprint("kind ", kind, " of ", n, ", a deeper bad one at ", at), of(kind, kids...), false)
			}
		}
		if kind != api.FNot {
			mays(t, "an empty list", api.Filter{Kind: kind, Kids: []api.Filter{}}, true)
		}
	}
}

// TestMayDeep: 6.1, MaxDeep and one deeper; those without Kids are not deep.
func TestMayDeep(t *testing.T) {
	for _, kind := range lists {
		inner := []api.Filter{of(api.FAnd), of(api.FOr)}
		for _, k := range leaves {
			inner = append(inner, plain(k, "o"))
		}
		for i, f := range inner {
			for n := range api.MaxDeep + 8 {
				mays(t, fmt.Sprint("kind ", kind, " around ", i, ", so deep: ", n), inside(n, kind, f), n <= api.MaxDeep)
			}
		}
		mays(t, "FNot of none", inside(api.MaxDeep-1, kind, of(api.FNot)), false)
	}
	deep, deeper := inside(api.MaxDeep-1, api.FNot, has), inside(api.MaxDeep, api.FNot, has)
	for _, kind := range lists[:2] {
		for at := range api.MaxVals {
			kids := times(api.MaxVals, of(kind))
			kids[at] = deep
			mays(t, fmt.Sprint("deep at ", at), of(kind, kids...), true)
			kids[at] = deeper
			mays(t, fmt.Sprint("deeper at ", at), of(kind, kids...), false)
		}
	}
	if f := inside(1<<16-2, api.FOr, of(api.FAnd)); filter.May(f) || filter.Text(f) != "" {
		t.Error("6.1: so deep as R1 lets it be")
	}
}

// TestMayType: 6.1, types as 2.1 asks them, of each leaf.
func TestMayType(t *testing.T) {
	for _, kind := range leaves {
		for c := range 256 {
			s := string([]byte{byte(c)})
			letter := c >= 'A' && c <= 'Z' || c >= 'a' && c <= 'z'
			more := letter || c >= '0' && c <= '9' || c == '-'
			for typ, want := range map[string]bool{s: letter, s + "a": letter, s + s: letter, "a" + s: more, "Z" + s + "b": more, strings.Repeat("a", api.MaxType-1) + s: more, strings.Repeat("a", api.MaxType) + s: false} {
				mays(t, fmt.Sprintf("kind %d of type %q", kind, typ), plain(kind, typ), want)
			}
		}
		for typ, want := range map[string]bool{"": false, " ": false, "o ": false, " o": false, "a--": true, "2.5.4.3": false, "a.b": false, "a;b": false, "é": false, "aé": false, "a=": false, "*": false, "cn\x00": false, strings.Repeat("t", api.MaxType): true, strings.Repeat("t", api.MaxType+1): false, strings.Repeat("t", 1<<16): false, "nosuchtype": true} {
			mays(t, fmt.Sprintf("kind %d of type %.40q", kind, typ), plain(kind, typ), want)
		}
	}
}

// TestMayVal: 6.1, how long values may be; any bytes may stand in them.
func TestMayVal(t *testing.T) {
	for _, kind := range []int{api.FEq, api.FGe, api.FLe} {
		for val, want := range map[string]bool{"": true, " ": true, "x": true, long[1:]: true, long: true, long + "v": false, strings.Repeat("v", 1<<16): false, strings.Repeat("é", api.MaxVal/2): true, strings.Repeat("é", api.MaxVal/2) + "v": false, strings.Repeat("*", api.MaxVal): true, strings.Repeat("*", api.MaxVal+1): false, strings.Repeat(" ", api.MaxVal+1): false} {
			mays(t, fmt.Sprintf("kind %d of value %.40q", kind, val), leaf(kind, "o", val), want)
		}
		for c := range 256 {
			mays(t, fmt.Sprintf("kind %d of byte %d", kind, c), leaf(kind, "o", string([]byte{byte(c)})), true)
		}
	}
}

// TestMayParts: 6.1, how many parts there may be, how long, and which of them empty.
func TestMayParts(t *testing.T) {
	for n := range 12 {
		parts := slices.Repeat([]string{"x"}, n)
		mays(t, fmt.Sprint("parts ", n), sub("o", parts...), n >= 2 && n <= 8)
		for i := range n {
			l := slices.Clone(parts)
			l[i] = ""
			mays(t, fmt.Sprint("parts ", n, ", empty at ", i), sub("o", l...), n >= 2 && n <= 8 && (i == 0 || i == n-1))
			for j := range i {
				l := slices.Clone(l)
				l[j] = ""
				mays(t, fmt.Sprint("parts ", n, ", empty at ", i, j), sub("o", l...), n > 2 && n <= 8 && j == 0 && i == n-1)
			}
			l[i] = long
			mays(t, fmt.Sprint("parts ", n, ", long at ", i), sub("o", l...), n >= 2 && n <= 8)
			l[i] = long + "v"
			mays(t, fmt.Sprint("parts ", n, ", longer at ", i), sub("o", l...), false)
		}
		mays(t, fmt.Sprint("parts ", n, ", all empty"), sub("o", make([]string, n)...), false)
	}
	mays(t, "very many parts", sub("o", slices.Repeat([]string{"x"}, 1<<16)...), false)
	mays(t, "all parts long", sub("o", slices.Repeat([]string{long}, 8)...), true)
	mays(t, "two parts, the first empty", sub("o", "", long), true)
	mays(t, "two parts, the last empty", sub("o", long, ""), true)
	mays(t, "parts of blanks", sub("o", " ", " ", " "), true)
}

// TestMayZero: 6.1, what a kind does not have is zero; other kinds there are none.
func TestMayZero(t *testing.T) {
	more := map[string]func(*api.Filter){
		"type":  func(f *api.Filter) { f.Type = "o" },
		"val":   func(f *api.Filter) { f.Val = "x" },
		"part":  func(f *api.Filter) { f.Parts = []string{""} },
		"parts": func(f *api.Filter) { f.Parts = []string{"a", "b"} },
		"kid":   func(f *api.Filter) { f.Kids = []api.Filter{has} },
		"none":  func(f *api.Filter) { f.Kids = []api.Filter{{}} },
		"empty": func(f *api.Filter) { f.Kids, f.Parts = []api.Filter{}, []string{} },
	}
	own := map[int]string{api.FAnd: "kid empty", api.FOr: "kid empty", api.FNot: "kid", api.FEq: "type val empty", api.FGe: "type val empty", api.FLe: "type val empty", api.FSub: "type parts", api.FHas: "type empty"}
	base := map[int]api.Filter{api.FAnd: of(api.FAnd), api.FOr: of(api.FOr, has), api.FNot: of(api.FNot, has)}
	for _, kind := range leaves {
		base[kind] = plain(kind, "o")
	}
	for kind, f := range base {
		mays(t, fmt.Sprint("kind ", kind), f, true)
		for what, add := range more {
			g := f
			add(&g)
			mays(t, fmt.Sprint("kind ", kind, " with ", what), g, slices.Contains(strings.Fields(own[kind]), what))
		}
		for _, other := range []int{0, -1, api.FHas + 1, 9, 99, -8, 1 << 40, kind + 1<<32, kind - 256, kind + 256} {
			g := f
			g.Kind = other
			mays(t, fmt.Sprint("kind ", other), g, false)
			mays(t, fmt.Sprint("kind ", other, " alone"), api.Filter{Kind: other}, false)
			mays(t, fmt.Sprint("kind ", other, " and a type"), api.Filter{Kind: other, Type: "o"}, false)
		}
	}
}

// TestSame: alike in all; nil lists and empty ones are one.
func TestSame(t *testing.T) {
	odd := api.Filter{Kind: 77, Type: "o", Val: "x", Parts: []string{"", "a"}, Kids: []api.Filter{has, {}, of(api.FNot)}}
	different := []api.Filter{
		{}, {Kind: 99}, {Kind: -1}, {Kind: 1 << 32}, {Type: "o"}, {Val: "o"}, {Parts: []string{"o"}}, {Kids: []api.Filter{{Type: "o"}}}, {Parts: []string{""}}, {Parts: []string{"", ""}}, {Kids: []api.Filter{{}}}, {Kids: []api.Filter{{}, {}}}, {Kids: []api.Filter{{Kids: []api.Filter{{}}}}},
		odd, has, leaf(api.FHas, "CN", ""), leaf(api.FHas, "cn ", ""), leaf(api.FEq, "cn", ""), leaf(api.FEq, "cn", "a"), leaf(api.FEq, "cn", "A"), leaf(api.FEq, "cn", " a"), leaf(api.FGe, "cn", "a"), leaf(api.FLe, "cn", "a"), leaf(api.FEq, "o", "a"),
		sub("o", "a", "b"), sub("o", "b", "a"), sub("o", "a", "b", "c"), sub("o", "a"), sub("o", "ab", ""), sub("o", "", "ab"), sub("O", "a", "b"), sub("o", "a", "B"), sub("o", "a", "x", "c"),
		of(api.FAnd, has), of(api.FOr, has), of(api.FNot, has), of(api.FAnd), of(api.FOr), of(api.FAnd, has, has), of(api.FAnd, has, of(api.FOr)), of(api.FAnd, of(api.FOr), has), of(api.FAnd, of(api.FAnd, has)), of(api.FAnd, of(api.FAnd), has), inside(12, api.FNot, has), inside(13, api.FNot, has), inside(13, api.FNot, leaf(api.FHas, "o", "")),
		of(api.FOr, times(40, has)...), of(api.FOr, append(times(39, has), leaf(api.FHas, "o", ""))...), of(api.FOr, append(times(39, has), of(api.FOr))...), of(api.FOr, times(41, has)...),
	}
	for i, a := range different {
		for j, b := range different {
			if filter.Same(a, b) != (i == j) {
				t.Errorf("6.2: Same of %d, %d", i, j)
			}
		}
		if !filter.Same(a, copied(a)) || !filter.Same(copied(a), a) {
			t.Errorf("6.2: Same of %d and its copy", i)
		}
	}
	empty := api.Filter{Parts: []string{}, Kids: []api.Filter{}}
	if !filter.Same(empty, api.Filter{}) || !filter.Same(api.Filter{}, empty) || !filter.Same(of(api.FAnd, empty), of(api.FAnd, api.Filter{})) {
		t.Error("R3: nil and empty lists")
	}
	deep := inside(1<<16-2, api.FOr, has)
	if !filter.Same(deep, inside(1<<16-2, api.FOr, has)) || filter.Same(deep, inside(1<<16-2, api.FOr, leaf(api.FHas, "o", ""))) || filter.Same(deep, inside(1<<16-3, api.FOr, has)) {
		t.Error("6.2: Same of deep ones")
	}
}

// copied makes a filter that shares no list with f.
func copied(f api.Filter) api.Filter {
	f.Parts = slices.Clone(f.Parts)
	f.Kids = slices.Clone(f.Kids)
	for i, kid := range f.Kids {
		f.Kids[i] = copied(kid)
	}
	return f
}
