package hist_test

import (
	"math"
	"slices"
	"strings"
	"testing"

	"brook/api"
	"brook/hist"
)

// dice is a small generator: the same numbers in each run.
type dice uint32

func (d *dice) below(n int) int {
	*d = *d*1664525 + 1013904223
	return int(*d>>8) % n
}

func (d *dice) num(l ...int) int { return l[d.below(len(l))] }

func (d *dice) of(l ...string) string { return l[d.below(len(l))] }

func (d *dice) entry() api.Entry {
	val := d.of("a", "B", "a b", "z")
	switch d.below(3) {
	case 0:
		return org(val)
	case 1:
		return unit(val, d.of("o=a", "O=b", "ou=a,o=a"))
	}
	return person(val, d.of("o=a", "ou=B,o=a"))
}

// delta throws one that may be.
func (d *dice) delta(c api.Csn) api.Delta {
	what := 1 + d.below(3)
	t := api.Delta{Csn: c}
	if what != 1 {
		t.Gone = d.of("o=a", "o=b", "ou=a,o=a", "cn=none")
	}
	if what != 2 {
		t.Entry = d.entry()
	}
	return t
}

// history throws one that may be.
func (d *dice) history() history {
	n := d.below(9)
	h := behind(at(d.num(0, 1, 7, 300, 1<<52-40), d.num(0, 1, 7, 300, 1<<52-9)))
	head := h.base
	for range n {
		head = at(head.Epoch+d.num(0, 0, 0, 1, 5), head.N+1)
		h.l = append(h.l, d.delta(head))
	}
	return h
}

// wrong throws one of which something may be wrong.
func (d *dice) wrong() history {
	h := d.history()
	for range d.below(3) {
		n := d.num(-1, 0, 1, 2, 1<<52, 1<<52+1, math.MinInt, math.MaxInt)
		i := d.below(len(h.l) + 1)
		if i == len(h.l) {
			h.base = []api.Csn{at(n, h.base.N), at(h.base.Epoch, n), at(h.base.Epoch+1, h.base.N), at(h.base.Epoch, h.base.N+1)}[d.below(4)]
			continue
		}
		switch d.below(8) {
		case 0:
			h.l[i].Csn.Epoch = n
		case 1:
			h.l[i].Csn.N = n
		case 2:
			h.l[i].Csn.Epoch += d.num(-1, 1)
		case 3:
			h.l[i].Csn.N += d.num(-1, 1)
		case 4:
			h.l[i] = broken(h.l[i].Csn)[d.below(15)]
		case 5:
			h.l = slices.Delete(h.l, i, i+1)
		case 6:
			h.l = slices.Insert(h.l, i, h.l[d.below(len(h.l))])
		case 7:
			h.l[i] = d.delta(h.l[i].Csn)
		}
	}
	return h
}

// csn throws a number, of which each half is often a history's own.
func (d *dice) csn(h history) api.Csn {
	own := h.numbers()
	c, other := own[d.below(len(own))], own[d.below(len(own))]
	switch d.below(4) {
	case 0:
		return at(c.Epoch, other.N)
	case 1:
		return at(c.Epoch+d.num(-1, 0, 1), c.N+d.num(-1, 0, 1))
	}
	return c
}

// TestThrownMay: 15.1, histories of which something may be wrong, held against the chapter's words; what is said of one is not remembered for another.
func TestThrownMay(t *testing.T) {
	d := dice(151)
	seen := map[bool]int{}
	for range 20000 {
		h, other := d.wrong(), d.wrong()
		was, want := h.String(), h.may()
		seen[want]++
		if hist.May(h.base, h.l) != want {
			t.Fatalf("15.1: May of %s: %v", was, !want)
		}
		hist.May(other.base, other.l)
		next := d.delta(d.csn(h))
		if d.below(2) == 0 {
			last := h.numbers()[len(h.l)]
			next.Csn = at(last.Epoch+d.num(-1, 0, 1), last.N+1)
		}
		fits := h.with(next).may()
		if hist.Fits(h.base, h.l, next) != fits {
			t.Fatalf("15.1: Fits of %s, %v: %v", was, next, !fits)
		}
		hist.Fits(other.base, other.l, next)
		if hist.May(h.base, h.l) != want || hist.Fits(h.base, h.l, next) != fits || h.String() != was {
			t.Fatal("R1: of", was, next)
		}
	}
	if seen[true] < 3000 || seen[false] < 3000 {
		t.Error("the test's own: too few", seen)
	}
}

// TestThrown: 15.1, 15.2, histories that may be, held against the chapter's words.
func TestThrown(t *testing.T) {
	d := dice(152)
	seen := map[bool]int{}
	for range 10000 {
		h := d.history()
		own := h.numbers()
		if !h.may() || !hist.May(h.base, h.l) || hist.Head(h.base, h.l) != own[len(h.l)] {
			t.Fatal("15.1: of", h)
		}
		c := d.csn(h)
		has := slices.Contains(own, c)
		seen[has]++
		if hist.Has(h.base, h.l, c) != has {
			t.Fatalf("15.1: Has of %v, %v: %v", h, c, !has)
		}
		many := d.num(-1, 0, 1, 2, 3, 8, len(h.l), len(h.l)+1, math.MaxInt)
		sinceIs(t, h, c, many)
		base, stay := hist.Purge(h.base, h.l, many)
		going := len(h.l) - min(max(many, 0), len(h.l))
		if base != own[going] || whole(stay) != whole(h.l[going:]) {
			t.Fatalf("15.2: Purge of %v, %d: %v, %s", h, many, base, whole(stay))
		}
	}
	if seen[true] < 3000 || seen[false] < 500 {
		t.Error("the test's own: too few", seen)
	}
}

// TestEndsLong: R1, of long texts all calls end in no long time, and none panics.
func TestEndsLong(t *testing.T) {
	for _, s := range []string{"a", " ", ",", "o=a,", `\`, "\xff"} {
		long := strings.Repeat(s, 1<<21)
		e := api.Entry{Dn: long, Attrs: []api.Attr{{Type: long, Vals: []string{long, long}}}}
		for _, x := range []api.Delta{out(1, 1, long), in(1, 1, e), moved(1, 1, "o=x", e)} {
			h := behind(at(1, 0), x)
			if hist.May(h.base, h.l) || hist.Fits(h.base, nil, x) || !hist.Has(h.base, h.l, at(1, 1)) {
				t.Errorf("15.1: of long %q", s)
			}
			base, stay := hist.Purge(h.base, h.l, 1)
			got, ok := hist.Since(h.base, h.l, h.base, 1)
			if base != h.base || len(stay) != 1 || len(stay[0].Gone)+len(stay[0].Entry.Dn) != len(x.Gone)+len(x.Entry.Dn) || !ok || len(got) != 1 {
				t.Errorf("15.2: of long %q", s)
			}
		}
	}
}

// TestEndsMany: R1, of very many changes all calls end in no long time.
func TestEndsMany(t *testing.T) {
	const n = 1 << 17
	l := row(1, 0, n)
	if !hist.May(at(1, 0), l) || !hist.Fits(at(0, 0), l, out(1, n+1, "o=x")) || hist.Fits(at(0, 0), l, out(1, n, "o=x")) || !hist.Has(at(1, 0), l, at(1, n)) || hist.Has(at(1, 0), l, at(1, n+1)) {
		t.Error("15.1: of very many")
	}
	if got, ok := hist.Since(at(1, 0), l, at(1, n-3), math.MaxInt); !ok || whole(got) != whole(l[n-3:]) {
		t.Error("15.2: Since of very many")
	}
	if got, ok := hist.Since(at(1, 0), l, at(1, 0), math.MaxInt); !ok || len(got) != n {
		t.Error("15.2: Since of all of very many")
	}
	if base, got := hist.Purge(at(1, 0), l, 3); base != at(1, n-3) || whole(got) != whole(l[n-3:]) {
		t.Error("15.2: Purge of very many")
	}
	if hist.May(at(0, 0), make([]api.Delta, 1<<20)) || hist.Fits(at(0, 0), make([]api.Delta, 1<<20), l[0]) || hist.Head(at(1, 1), make([]api.Delta, 1<<20)) != at(0, 0) {
		t.Error("15.1: of very many that say nothing")
	}
	wide := in(1, 1, api.Entry{Dn: "o=x", Attrs: slices.Repeat([]api.Attr{{Type: "sn"}, {Type: "cn", Vals: []string{"x"}}}, 1<<17)})
	if got, ok := hist.Since(at(1, 0), []api.Delta{wide}, at(1, 0), 1); hist.May(at(1, 0), []api.Delta{wide}) || !ok || len(got[0].Entry.Attrs) != 1<<18 {
		t.Error("15.2: of very many attributes")
	}
}

// TestWrongAnswers: R1, of histories that may not be, and of numbers of any kind, all calls end, and tell the same again.
func TestWrongAnswers(t *testing.T) {
	d := dice(153)
	for range 5000 {
		h := d.wrong()
		was := h.String()
		for range 3 {
			c, many := d.csn(h), d.num(edges()...)
			rest, ok := hist.Since(h.base, h.l, c, many)
			again, still := hist.Since(h.base, h.l, c, many)
			if ok != still || whole(rest) != whole(again) || ok != (hist.Has(h.base, h.l, c) && many >= 0) || !ok && len(rest) != 0 {
				t.Fatalf("R1: Since of %s, %v, %d: %v, %s", was, c, many, ok, whole(rest))
			}
			base, stay := hist.Purge(h.base, h.l, many)
			then, left := hist.Purge(h.base, h.l, many)
			if base != then || whole(stay) != whole(left) || len(stay) > len(h.l) {
				t.Fatalf("R1: Purge of %s, %d: %v, %s", was, many, base, whole(stay))
			}
		}
		if h.String() != was {
			t.Fatal("R3: of", was)
		}
	}
}
