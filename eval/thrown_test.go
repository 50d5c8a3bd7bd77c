package eval_test

import (
	"math/big"
	"regexp"
	"slices"
	"strings"
	"testing"

	"brook/api"
	"brook/dn"
	"brook/eval"
	"brook/filter"
)

// dice is a small generator: the same numbers in each run.
type dice uint32

func (d *dice) below(n int) int {
	*d = *d*1664525 + 1013904223
	return int(*d>>8) % n
}

func (d *dice) of(l ...string) string { return l[d.below(len(l))] }

func (d *dice) typ() string {
	return d.of("cn", "CN", "Cn", "sn", "o", "O", "uidNumber", "uidnumber", "Member", "userPassword", "dc", "description")
}

func (d *dice) val() string {
	return d.of("", " ", "a", "A", "ab", "abab", "ABA", "b a", "b  A ", "aab", "5", "-5", "05", "15", "9", "100", "-0", "o=a", "O= A", "o=b", "\xff", "\x00a", "é", "É", long, long+"v", "bab", "ba ab")
}

func (d *dice) part() string { return d.of("a", "b", "A", "ab", "BA", " ", "aa", "\xff", "é", "vv") }

func (d *dice) entry() api.Entry {
	e := api.Entry{Dn: d.of("", "cn=a", "none")}
	for range d.below(7) {
		a := api.Attr{Type: d.typ()}
		for range d.below(4) {
			a.Vals = append(a.Vals, d.val())
		}
		e.Attrs = append(e.Attrs, a)
	}
	return e
}

func (d *dice) leaf() api.Filter {
	switch kind := []int{api.FEq, api.FSub, api.FGe, api.FLe, api.FHas}[d.below(5)]; kind {
	case api.FHas:
		return leaf(kind, d.typ(), "")
	case api.FSub:
		first, last := "", ""
		if d.below(2) == 0 {
			first = d.part()
		}
		if d.below(2) == 0 {
			last = d.part()
		}
		parts := []string{first}
		for range d.below(3) {
			parts = append(parts, d.part())
		}
		return sub(d.typ(), append(parts, last)...)
	default:
		return leaf(kind, d.typ(), d.val())
	}
}

// filter throws one at most so deep; some may not be.
func (d *dice) filter(deep int) api.Filter {
	if deep == 0 || d.below(3) == 0 {
		return d.leaf()
	}
	f := of([]int{api.FAnd, api.FOr, api.FNot}[d.below(3)])
	n := d.below(4)
	if f.Kind == api.FNot && d.below(20) > 0 {
		n = 1
	}
	for range n {
		f.Kids = append(f.Kids, d.filter(deep-1))
	}
	return f
}

var (
	blanks = regexp.MustCompile(" +")
	number = regexp.MustCompile("^(0|-?[1-9][0-9]{0,14})$")
)

// normOf is 3.2's Norm, by other means.
func normOf(rule int, val string) (string, bool) {
	if val == "" || len(val) > api.MaxVal {
		return "", false
	}
	switch rule {
	case api.RText:
		s := small(strings.Trim(blanks.ReplaceAllString(val, " "), " "))
		return s, s != ""
	case api.RInt:
		return val, number.MatchString(val)
	case api.RDn:
		key, ok := dn.Key(val)
		return key, ok && key != ""
	}
	return val, rule == api.RBytes
}

// orderOf tells how a is to b, by 3.2; ok tells whether they have an order.
func orderOf(rule int, a, b string) (order int, ok bool) {
	x, okA := normOf(rule, a)
	y, okB := normOf(rule, b)
	if !okA || !okB || rule != api.RText && rule != api.RInt {
		return 0, false
	}
	if rule == api.RText {
		return strings.Compare(x, y), true
	}
	m, _ := new(big.Int).SetString(x, 10)
	n, _ := new(big.Int).SetString(y, 10)
	return m.Cmp(n), true
}

// runes makes of each byte the rune of that number: the library's patterns go by runes.
func runes(s string) string {
	var l []rune
	for _, c := range []byte(s) {
		l = append(l, rune(c))
	}
	return string(l)
}

// patternOf is a pattern of the norms that Parts make up.
func patternOf(parts []string) *regexp.Regexp {
	var l []string
	for _, part := range parts {
		l = append(l, regexp.QuoteMeta(runes(small(part))))
	}
	return regexp.MustCompile("(?s)^" + strings.Join(l, ".*") + "$")
}

func valsOf(e api.Entry, typ string) []string {
	for _, a := range e.Attrs {
		if small(a.Type) == small(typ) {
			return a.Vals
		}
	}
	return nil
}

// wantedLeaf is 7.1 by its words, of a leaf that may be.
func wantedLeaf(f api.Filter, e api.Entry) int {
	rule, vals := rules[small(f.Type)], valsOf(e, f.Type)
	norm, okNorm := normOf(rule, f.Val)
	_, okOrder := orderOf(rule, f.Val, f.Val)
	known := map[int]bool{api.FHas: true, api.FEq: okNorm, api.FGe: okOrder, api.FLe: okOrder, api.FSub: rule == api.RText}
	if rule == 0 || !known[f.Kind] {
		return api.Undefined
	}
	for _, v := range vals {
		own, ok := normOf(rule, v)
		order, ordered := orderOf(rule, v, f.Val)
		fits := map[int]bool{api.FHas: true, api.FEq: ok && own == norm, api.FGe: ordered && order >= 0, api.FLe: ordered && order <= 0, api.FSub: ok && f.Kind == api.FSub && patternOf(f.Parts).MatchString(runes(own))}
		if fits[f.Kind] {
			return api.True
		}
	}
	return api.False
}

func wanted(f api.Filter, e api.Entry) int {
	var list []int
	for _, kid := range f.Kids {
		list = append(list, wanted(kid, e))
	}
	switch f.Kind {
	case api.FAnd:
		return wantedAnd(list)
	case api.FOr:
		return wantedOr(list)
	case api.FNot:
		return not[list[0]]
	}
	return wantedLeaf(f, e)
}

// TestThrown: 7.1, of entries and filters that are thrown.
func TestThrown(t *testing.T) {
	d := dice(7)
	seen := map[int]int{}
	for range 20000 {
		e, f := d.entry(), d.filter(4)
		want := api.Undefined
		if filter.May(f) {
			want = wanted(f, e)
		}
		if got := eval.Eval(f, e); got != want {
			t.Fatalf("7.1: %q: %s of %q, not %s", filter.Text(f), names[got], e, names[want])
		}
		seen[want]++
	}
	if seen[api.False] < 2000 || seen[api.True] < 2000 || seen[api.Undefined] < 2000 {
		t.Error("the test's own", seen)
	}
}

// TestThrownLeaves: 7.1, of each leaf that is thrown, of one value and of several.
func TestThrownLeaves(t *testing.T) {
	d := dice(71)
	seen := map[[2]int]int{}
	for range 30000 {
		f := d.leaf()
		if !filter.May(f) {
			continue
		}
		e := api.Entry{Attrs: []api.Attr{{Type: small(f.Type)}}}
		for range d.below(3) {
			e.Attrs[0].Vals = append(e.Attrs[0].Vals, d.val())
		}
		want := wantedLeaf(f, e)
		if got := eval.Eval(f, e); got != want {
			t.Fatalf("7.1: %q: %s of %q, not %s", filter.Text(f), names[got], e, names[want])
		}
		seen[[2]int{f.Kind, want}]++
	}
	for _, kind := range []int{api.FEq, api.FSub, api.FGe, api.FLe, api.FHas} {
		for v := range truths {
			if seen[[2]int{kind, v}] < 100 {
				t.Error("the test's own", kind, v, seen)
			}
		}
	}
}

// texts makes all texts of so many letters of two.
func texts(n int) []string {
	if n == 0 {
		return []string{""}
	}
	var l []string
	for _, s := range texts(n - 1) {
		l = append(l, s+"a", s+"b")
	}
	return l
}

// TestSubAll: 7.1, all short Parts of all short values.
func TestSubAll(t *testing.T) {
	var vals, parts []string
	for n := range 6 {
		vals = append(vals, texts(n)...)
	}
	for n := range 3 {
		parts = append(parts, texts(n)...)
	}
	var all [][]string
	for _, first := range parts {
		for _, last := range parts {
			all = append(all, []string{first, last})
			for _, second := range parts {
				all = append(all, []string{first, second, last}, []string{first, second, "a", last}, []string{first, "ab", second, last})
			}
		}
	}
	for _, l := range all {
		f := sub("cn", l...)
		if !filter.May(f) {
			continue
		}
		pattern := patternOf(l)
		for _, val := range vals {
			want := api.False
			if val != "" && pattern.MatchString(val) {
				want = api.True
			}
			if got := eval.Eval(f, en("cn:"+val)); got != want {
				t.Fatalf("7.1: FSub of %q: %s of %q", l, names[got], val)
			}
		}
	}
	if len(all) < 1000 || !slices.Contains(vals, "babab") {
		t.Error("the test's own", len(all))
	}
}
