package hist_test

import (
	"math"
	"testing"

	"brook/api"
	"brook/hist"
)

// TestPurge: 15.2, keep below 0, 0, 1, one fewer than there are, as many, more: the last ones stay, the base is that of the last one that goes, or stays where none goes.
func TestPurge(t *testing.T) {
	for _, h := range histories() {
		n := len(h.l)
		for _, keep := range append(h.many(), 4, 5, 6, 7) {
			stay := min(max(keep, 0), n)
			want := behind(h.numbers()[n-stay], h.l[n-stay:]...)
			base, l := hist.Purge(h.base, h.l, keep)
			if got := (history{base, l}); got.String() != want.String() || !got.may() || !hist.May(base, l) {
				t.Errorf("15.2: Purge of %v, %d: %v", h, keep, got)
			}
			if hist.Head(base, l) != hist.Head(h.base, h.l) {
				t.Errorf("15.2: the Head behind Purge of %v, %d", h, keep)
			}
		}
	}
}

// TestPurgeTable: 15.2, of one history, by hand.
func TestPurgeTable(t *testing.T) {
	l := []api.Delta{in(1, 4, org("x")), in(2, 5, unit("a", "o=x")), out(3, 6, "ou=a,o=x"), in(3, 7, org("y"))}
	for _, c := range []struct {
		keep int
		base api.Csn
		stay []api.Delta
	}{
		{math.MinInt, at(3, 7), nil}, {-5, at(3, 7), nil}, {-4, at(3, 7), nil}, {-1, at(3, 7), nil}, {0, at(3, 7), nil},
		{1, at(3, 6), l[3:]}, {2, at(2, 5), l[2:]}, {3, at(1, 4), l[1:]},
		{4, at(0, 3), l}, {5, at(0, 3), l}, {api.MaxCsn, at(0, 3), l}, {math.MaxInt, at(0, 3), l},
	} {
		base, stay := hist.Purge(at(0, 3), l, c.keep)
		if base != c.base || whole(stay) != whole(c.stay) {
			t.Errorf("15.2: Purge of %d: %v, %s", c.keep, base, whole(stay))
		}
	}
	for _, l := range [][]api.Delta{nil, {}} {
		for _, keep := range []int{math.MinInt, -1, 0, 1, 2, math.MaxInt} {
			for _, want := range []api.Csn{{}, at(2, 9), at(1<<52, 1<<52)} {
				if base, stay := hist.Purge(want, l, keep); base != want || len(stay) != 0 {
					t.Error("15.2: Purge of no deltas", keep, base, stay)
				}
			}
		}
	}
}

// TestPurgeHas: 15.1, 15.2, behind a Purge there are the numbers from the new base on, and none ahead of it; Since tells of these what it told ahead.
func TestPurgeHas(t *testing.T) {
	for _, h := range histories() {
		for keep := range len(h.l) + 2 {
			base, l := hist.Purge(h.base, h.l, keep)
			for i, c := range h.numbers() {
				stays := i >= len(h.l)-keep
				was, _ := hist.Since(h.base, h.l, c, 3)
				got, ok := hist.Since(base, l, c, 3)
				if hist.Has(base, l, c) != stays || ok != stays || stays && whole(got) != whole(was) || !stays && len(got) != 0 {
					t.Errorf("15.2: behind Purge of %v, %d: Since of %v: %v, %s", h, keep, c, ok, whole(got))
				}
			}
		}
	}
}

// TestPurgeAgain: 15.2, a Purge behind another one is that of the lesser keep.
func TestPurgeAgain(t *testing.T) {
	for _, h := range histories() {
		for first := -1; first <= len(h.l)+1; first++ {
			for second := -1; second <= len(h.l)+1; second++ {
				base, l := hist.Purge(h.base, h.l, first)
				base, l = hist.Purge(base, l, second)
				once, left := hist.Purge(h.base, h.l, min(first, second))
				if base != once || whole(l) != whole(left) {
					t.Errorf("15.2: Purge of %v, %d, then %d: %v, %s", h, first, second, base, whole(l))
				}
			}
		}
	}
}

// TestPurgeGrows: 15.1, 15.2, behind a Purge the history goes on as it did: the same fits.
func TestPurgeGrows(t *testing.T) {
	for _, h := range histories() {
		head := hist.Head(h.base, h.l)
		for keep := range len(h.l) + 2 {
			base, l := hist.Purge(h.base, h.l, keep)
			for _, d := range []api.Delta{out(head.Epoch, head.N+1, "o=x"), out(head.Epoch+1, head.N+1, "o=x"), out(head.Epoch-1, head.N+1, "o=x"), out(head.Epoch, head.N+2, "o=x"), out(head.Epoch, head.N, "o=x"), {Csn: at(head.Epoch, head.N+1)}} {
				if hist.Fits(base, l, d) != h.with(d).may() {
					t.Errorf("15.1: Fits of %v behind Purge of %v, %d", d, h, keep)
				}
			}
		}
	}
}
