package hist_test

import (
	"math"
	"slices"
	"testing"

	"brook/api"
	"brook/hist"
)

// sinceIs looks at one answer of Since: of the history's place where c stands at most many are told; of a place below 0, or of many below 0, there is none, and nothing beside (R4).
func sinceIs(t *testing.T, h history, c api.Csn, many int) {
	t.Helper()
	var want []api.Delta
	place := slices.Index(h.numbers(), c)
	ok := place >= 0 && many >= 0
	if ok {
		for _, d := range h.l[place:] {
			if len(want) < many {
				want = append(want, d)
			}
		}
	}
	got, is := hist.Since(h.base, h.l, c, many)
	if is != ok || whole(got) != whole(want) {
		t.Errorf("15.2: Since of %v, %v, %d: %v, %s", h, c, many, is, whole(got))
	}
}

// many are numbers of deltas about those that there are.
func (h history) many() []int {
	n := len(h.l)
	return []int{math.MinInt, math.MinInt + 1, -1 << 32, -n - 1, -n, -2, -1, 0, 1, 2, 3, api.MaxBatch, n - 2, n - 1, n, n + 1, 2 * n, 1 << 31, 1 << 32, 1<<32 + 1, 1 << 62, math.MaxInt - n, math.MaxInt - 1, math.MaxInt}
}

// TestSince: 15.2, from base, from each one, from the Head, from numbers that there are not; few, as many as there are, more.
func TestSince(t *testing.T) {
	for _, h := range histories() {
		for _, c := range h.numbers() {
			for _, many := range h.many() {
				sinceIs(t, h, c, many)
			}
		}
		for _, c := range h.asked() {
			for _, many := range []int{math.MinInt, -1, 0, 1, 2, math.MaxInt} {
				sinceIs(t, h, c, many)
			}
		}
	}
}

// TestSinceTable: 15.2, of one history, by hand.
func TestSinceTable(t *testing.T) {
	l := []api.Delta{in(1, 4, org("x")), in(1, 5, unit("a", "o=x")), out(3, 6, "ou=a,o=x"), in(3, 7, org("y"))}
	for _, c := range []struct {
		c    api.Csn
		many int
		want []api.Delta
		ok   bool
	}{
		{at(1, 3), 4, l, true}, {at(1, 3), 5, l, true}, {at(1, 3), math.MaxInt, l, true}, {at(1, 3), 3, l[:3], true}, {at(1, 3), 1, l[:1], true}, {at(1, 3), 0, nil, true},
		{at(1, 4), 9, l[1:], true}, {at(1, 4), 1, l[1:2], true}, {at(1, 5), 2, l[2:], true}, {at(3, 6), 1, l[3:], true}, {at(3, 6), 0, nil, true},
		{at(3, 7), 0, nil, true}, {at(3, 7), 1, nil, true}, {at(3, 7), math.MaxInt, nil, true},
		{at(1, 3), -1, nil, false}, {at(1, 5), -1, nil, false}, {at(3, 7), -1, nil, false}, {at(1, 3), math.MinInt, nil, false},
		{at(1, 2), 9, nil, false}, {at(3, 8), 9, nil, false}, {at(1, 6), 9, nil, false}, {at(3, 5), 9, nil, false}, {at(1, 7), 9, nil, false}, {at(3, 3), 9, nil, false}, {at(2, 6), 9, nil, false}, {at(0, 3), 0, nil, false}, {api.Csn{}, 9, nil, false}, {at(1, -3), 9, nil, false}, {at(1, 2), -1, nil, false},
	} {
		got, ok := hist.Since(at(1, 3), l, c.c, c.many)
		if ok != c.ok || whole(got) != whole(c.want) || !ok && len(got) != 0 {
			t.Errorf("15.2: Since of %v, %d: %v, %s", c.c, c.many, ok, whole(got))
		}
	}
	for _, l := range [][]api.Delta{nil, {}} {
		if got, ok := hist.Since(at(2, 2), l, at(2, 2), 5); !ok || len(got) != 0 {
			t.Error("15.2: Since, of no deltas", got, ok)
		}
		if got, ok := hist.Since(at(2, 2), l, at(2, 3), 5); ok || len(got) != 0 {
			t.Error("15.2: Since, of no deltas, from another number", got, ok)
		}
	}
}

// TestSinceAgain: 15.3, from each one, some at a time, for each number of them, to the Head: each delta once, in order, in as few steps as may be; there it stands.
func TestSinceAgain(t *testing.T) {
	for _, h := range histories() {
		head := hist.Head(h.base, h.l)
		for place, begin := range h.numbers() {
			for many := 1; many <= len(h.l)+2; many++ {
				var told []api.Delta
				steps := 0
				now := begin
				for now != head && steps <= len(h.l) {
					l, ok := hist.Since(h.base, h.l, now, many)
					if !ok || len(l) == 0 || len(l) > many || l[0].Csn.N != now.N+1 || !hist.May(now, l) {
						t.Fatalf("15.3: of %v, from %v, %d at a time: %s", h, now, many, whole(l))
					}
					told = append(told, l...)
					now = hist.Head(now, l)
					steps++
				}
				if left := len(h.l) - place; now != head || whole(told) != whole(h.l[place:]) || steps != (left+many-1)/many {
					t.Errorf("15.3: of %v, from %v, %d at a time: %v in %d steps", h, begin, many, now, steps)
				}
				if l, ok := hist.Since(h.base, h.l, now, many); !ok || len(l) != 0 {
					t.Errorf("15.3: of %v, behind the Head: %v, %s", h, ok, whole(l))
				}
			}
			if l, ok := hist.Since(h.base, h.l, begin, 0); !ok || hist.Head(begin, l) != begin {
				t.Error("15.3: none at a time", h, begin)
			}
		}
	}
}

// TestSinceFollows: 15.3, who follows takes some, and has the beginning of the history: what it took fits there, one behind the other.
func TestSinceFollows(t *testing.T) {
	for _, h := range histories() {
		for many := 1; many <= len(h.l)+1; many++ {
			mine := behind(h.base)
			for hist.Head(mine.base, mine.l) != hist.Head(h.base, h.l) {
				l, ok := hist.Since(h.base, h.l, hist.Head(mine.base, mine.l), many)
				if !ok || len(l) == 0 {
					t.Fatal("15.3: of", h, "behind", mine)
				}
				for _, d := range l {
					if !hist.Fits(mine.base, mine.l, d) {
						t.Fatal("15.1: Fits of", mine, d)
					}
					mine = mine.with(d)
				}
			}
			if mine.String() != h.String() {
				t.Errorf("15.3: of %v: %v", h, mine)
			}
		}
	}
}
