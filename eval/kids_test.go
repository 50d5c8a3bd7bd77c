package eval_test

import (
	"slices"
	"testing"

	"brook/api"
	"brook/eval"
)

// lists makes all lists of n truths.
func lists(n int) [][]int {
	if n == 0 {
		return [][]int{nil}
	}
	var l [][]int
	for _, list := range lists(n - 1) {
		for v := range truths {
			l = append(l, append(slices.Clone(list), v))
		}
	}
	return l
}

// kidsOf makes filters of truths, some of them deeper ones.
func kidsOf(list []int) []api.Filter {
	var kids []api.Filter
	for i, v := range list {
		f := truths[v]
		if i%2 == 1 {
			f = of(api.FNot, truths[not[v]])
		}
		kids = append(kids, f)
	}
	return kids
}

// wantedAnd and wantedOr are the words of 7.1.
func wantedAnd(list []int) int {
	if slices.Contains(list, api.False) {
		return api.False
	}
	if slices.Contains(list, api.Undefined) {
		return api.Undefined
	}
	return api.True
}

func wantedOr(list []int) int {
	if slices.Contains(list, api.True) {
		return api.True
	}
	if slices.Contains(list, api.Undefined) {
		return api.Undefined
	}
	return api.False
}

// TestLists: 7.1, FAnd and FOr of all lists of truths, in whatever order.
func TestLists(t *testing.T) {
	for n := range 6 {
		for _, list := range lists(n) {
			kids := kidsOf(list)
			is(t, of(api.FAnd, kids...), sample, wantedAnd(list))
			is(t, of(api.FOr, kids...), sample, wantedOr(list))
		}
	}
	is(t, of(api.FAnd), api.Entry{}, api.True)
	is(t, of(api.FOr), api.Entry{}, api.False)
	is(t, api.Filter{Kind: api.FAnd, Kids: []api.Filter{}}, sample, api.True)
	is(t, api.Filter{Kind: api.FOr, Kids: []api.Filter{}}, sample, api.False)
}

// TestListsLong: 7.1, as many Kids as may be, one of them another one at each place.
func TestListsLong(t *testing.T) {
	for a := range truths {
		for b := range truths {
			for at := range api.MaxVals {
				list := slices.Repeat([]int{a}, api.MaxVals)
				list[at] = b
				kids := kidsOf(list)
				is(t, of(api.FAnd, kids...), sample, wantedAnd(list))
				is(t, of(api.FOr, kids...), sample, wantedOr(list))
			}
		}
	}
}

// TestNot: 7.1, FNot of each truth, and of each leaf of it.
func TestNot(t *testing.T) {
	e := en("cn:ann|b", "uidnumber:5", "mail")
	for v, l := range [][]api.Filter{
		api.False:     {no, leaf(api.FHas, "mail", ""), leaf(api.FEq, "cn", "c"), leaf(api.FGe, "cn", "c"), leaf(api.FLe, "uidnumber", "4"), sub("cn", "c", ""), of(api.FOr), of(api.FAnd, yes, no, unknown)},
		api.True:      {yes, leaf(api.FHas, "CN", ""), leaf(api.FEq, "cn", "B"), leaf(api.FGe, "cn", "a"), leaf(api.FLe, "uidnumber", "5"), sub("cn", "A", "n"), of(api.FAnd), of(api.FOr, no, unknown, yes)},
		api.Undefined: {unknown, leaf(api.FEq, "cn", " "), leaf(api.FGe, "uidnumber", "x"), leaf(api.FLe, "member", "o=x"), sub("uidnumber", "5", ""), of(api.FAnd, unknown, yes), of(api.FOr, unknown, no)},
	} {
		for i, f := range l {
			if got := eval.Eval(f, e); got != v {
				t.Errorf("7.1: %d: %s, not %s", i, names[got], names[v])
			}
			if got := eval.Eval(of(api.FNot, f), e); got != not[v] {
				t.Errorf("7.1: FNot of %d, which is %s: %s", i, names[v], names[got])
			}
		}
	}
}

// deMorgan tells whether not of and is or of nots, and not of or is and of nots.
func deMorgan(kids []api.Filter, e api.Entry) bool {
	var nots []api.Filter
	for _, kid := range kids {
		nots = append(nots, of(api.FNot, kid))
	}
	return eval.Eval(of(api.FNot, of(api.FAnd, kids...)), e) == eval.Eval(of(api.FOr, nots...), e) &&
		eval.Eval(of(api.FNot, of(api.FOr, kids...)), e) == eval.Eval(of(api.FAnd, nots...), e)
}

// TestNotOfAnd: 7.2, not of and is or of nots, whatever the Kids.
func TestNotOfAnd(t *testing.T) {
	for n := range 6 {
		for _, list := range lists(n) {
			if !deMorgan(kidsOf(list), sample) {
				t.Error("7.2: of truths", list)
			}
		}
	}
	d := dice(72)
	for range 5000 {
		e := d.entry()
		var kids []api.Filter
		for range d.below(5) {
			kids = append(kids, d.filter(3))
		}
		if !deMorgan(kids, e) {
			t.Fatalf("7.2: of %v, of %q", kids, e)
		}
	}
}
