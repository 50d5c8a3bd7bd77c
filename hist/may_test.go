package hist_test

import (
	"math"
	"slices"
	"strings"
	"testing"

	"brook/api"
	"brook/hist"
)

// mayIs looks at May of a history, and at Fits of its last one behind the others.
func mayIs(t *testing.T, h history, want bool) {
	t.Helper()
	if h.may() != want {
		t.Fatalf("the test's own: %.300s", h)
	}
	if hist.May(h.base, h.l) != want {
		t.Errorf("15.1: May of %.300s: %v", h, !want)
	}
	if n := len(h.l); n > 0 && hist.Fits(h.base, h.l[:n-1], h.l[n-1]) != want {
		t.Errorf("15.1: Fits of the last of %.300s: %v", h, !want)
	}
}

// broken are deltas that may not be, whatever their number is.
func broken(c api.Csn) []api.Delta {
	l := []api.Delta{
		{}, {Gone: "O=x"}, {Gone: "o= x"}, {Gone: "none"}, {Gone: `o=\20`}, {Gone: " "}, {Entry: en("o=x")}, {Entry: en("", "o:x")},
		{Entry: en(`o=\78`, "o:x", "objectclass:organization")}, {Entry: en("o=x", "objectclass:organization", "o:x")}, {Entry: en("o=x", "o:y", "objectclass:organization")},
		{Gone: "o=X", Entry: org("x")}, {Gone: "o=x", Entry: en("x")}, {Gone: "o=x", Entry: en("o=x", "O:x", "objectclass:organization")}, {Entry: api.Entry{Attrs: []api.Attr{}}},
	}
	for i := range l {
		l[i].Csn = c
	}
	return l
}

// TestMayBase: 15.1, base may be, or may not: alone, and with one behind it that would fit.
func TestMayBase(t *testing.T) {
	for _, epoch := range edges() {
		for _, n := range edges() {
			base := at(epoch, n)
			may := 0 <= epoch && epoch <= 1<<52 && 0 <= n && n <= 1<<52
			mayIs(t, behind(base), may)
			if n < math.MaxInt {
				mayIs(t, behind(base, out(epoch, n+1, "o=x")), may && n < 1<<52)
				mayIs(t, behind(base, out(max(epoch, 0), n+1, "o=x")), may && n < 1<<52)
				mayIs(t, behind(base, in(1<<52, n+1, org("x"))), may && n < 1<<52)
			}
			mayIs(t, behind(base, out(epoch, n, "o=x")), false)
		}
	}
	// Of the greatest N the next one wraps round.
	mayIs(t, behind(at(1, math.MaxInt), out(1, math.MinInt, "o=x")), false)
	mayIs(t, behind(at(1, -1), out(1, 0, "o=x"), out(1, 1, "o=x")), false)
	mayIs(t, behind(at(-1, 0), out(0, 1, "o=x"), out(1, 2, "o=x")), false)
	mayIs(t, behind(at(1<<52+1, 0), out(1<<52+1, 1, "o=x")), false)
}

// TestMayDeltas: 15.1, one delta that may not be, at each place: first, between, last.
func TestMayDeltas(t *testing.T) {
	for _, n := range []int{1, 2, 5} {
		for i := range n {
			for _, d := range broken(at(2, 11+i)) {
				l := row(2, 10, n)
				l[i] = d
				mayIs(t, behind(at(2, 10), l...), false)
				mayIs(t, behind(at(0, 10), l...), false)
			}
			l := row(2, 10, n)
			mayIs(t, behind(at(2, 10), l...), true)
			// What is told need not be of a tree: that is gone which was never there, and nothing stands above.
			l[i] = moved(2, 11+i, "ou=none", unit("a", "o=none"))
			mayIs(t, behind(at(2, 10), l...), true)
			l[i].Csn = api.Csn{}
			mayIs(t, behind(at(2, 10), l...), false)
		}
	}
}

// TestMayNs: 15.1, Ns that go on by one, from base's on, and others: that stand still, fall, leave one out, begin at base's or behind the next one.
func TestMayNs(t *testing.T) {
	for _, c := range []struct {
		base int
		ns   []int
		may  bool
	}{
		{0, []int{1}, true}, {0, []int{1, 2}, true}, {4, []int{5, 6, 7}, true}, {1<<52 - 1, []int{1 << 52}, true}, {1<<52 - 3, []int{1<<52 - 2, 1<<52 - 1, 1 << 52}, true},
		{4, []int{4}, false}, {4, []int{4, 5, 6}, false}, {4, []int{6}, false}, {4, []int{6, 7}, false}, {4, []int{3}, false}, {4, []int{1}, false}, {4, []int{0}, false}, {0, []int{0}, false}, {0, []int{0, 1}, false}, {0, []int{2}, false}, {0, []int{-1}, false}, {4, []int{-5}, false},
		{4, []int{5, 5}, false}, {4, []int{5, 5, 6}, false}, {4, []int{5, 6, 6}, false}, {4, []int{5, 4}, false}, {4, []int{5, 4, 5}, false}, {4, []int{5, 6, 5}, false}, {4, []int{5, 7}, false}, {4, []int{5, 7, 8}, false}, {4, []int{5, 6, 8}, false}, {4, []int{5, 7, 6}, false}, {4, []int{5, 7, 7}, false}, {4, []int{6, 5}, false}, {4, []int{6, 6, 7}, false}, {4, []int{7, 6, 5}, false}, {4, []int{5, 1}, false}, {4, []int{5, 0}, false}, {4, []int{5, 10}, false},
		{1 << 52, []int{1<<52 + 1}, false}, {1 << 52, []int{1 << 52}, false}, {1 << 52, []int{1}, false}, {1<<52 - 1, []int{1 << 52, 1<<52 + 1}, false}, {1<<52 - 1, []int{1 << 52, 1}, false}, {4, []int{1<<32 + 5}, false}, {4, []int{5, 1<<32 + 6}, false}, {0, []int{math.MinInt + 1}, false}, {0, []int{math.MaxInt}, false}, {4, []int{5, math.MinInt}, false},
	} {
		var l, rising []api.Delta
		for i, n := range c.ns {
			l = append(l, out(2, n, "o=x"))
			rising = append(rising, in(3+i, n, org("x")))
		}
		mayIs(t, behind(at(2, c.base), l...), c.may)
		mayIs(t, behind(at(0, c.base), l...), c.may)
		mayIs(t, behind(at(2, c.base), rising...), c.may)
	}
}

// TestMayEpochs: 15.1, all rows of few epochs: they do not fall, nor below base's; they may rise by any number.
func TestMayEpochs(t *testing.T) {
	values := []int{-1, 0, 1, 2, 1 << 52, 1<<52 + 1}
	for _, base := range values {
		for _, a := range values {
			mayIs(t, behind(at(base, 0), out(a, 1, "o=x")), base >= 0 && a >= base && a <= 1<<52)
			for _, b := range values {
				for _, c := range values {
					want := base >= 0 && slices.IsSorted([]int{base, a, b, c}) && c <= 1<<52
					mayIs(t, behind(at(base, 6), out(a, 7, "o=x"), in(b, 8, org("x")), out(c, 9, "o=x")), want)
				}
			}
		}
	}
}

// TestMayMany: 15.1, how many there are is not asked; N ends at MaxCsn.
func TestMayMany(t *testing.T) {
	for _, n := range []int{0, 1, 2, 8, 9, 40, 41, 200, 201, 399, 400, 401, 1000} {
		mayIs(t, behind(at(3, 7), row(3, 7, n)...), true)
		mayIs(t, behind(at(0, 0), row(5, 0, n)...), true)
		mayIs(t, behind(at(1, 1<<52-n), row(1, 1<<52-n, n)...), true)
		if n > 0 {
			mayIs(t, behind(at(1, 1<<52-n+1), row(1, 1<<52-n+1, n)...), false)
			mayIs(t, behind(at(3, 7), append(row(3, 7, n), out(3, 7+n, "o=x"))...), false)
			mayIs(t, behind(at(3, 7), append(row(3, 7, n), out(2, 8+n, "o=x"))...), false)
			mayIs(t, behind(at(3, 7), row(2, 7, n)...), false)
		}
	}
	mayIs(t, history{at(3, 7), []api.Delta{}}, true)
}

// TestFits: 15.1, the next one; one of another N, of a lesser and of a greater Epoch; one that may not be; behind no deltas and behind some.
func TestFits(t *testing.T) {
	some := []api.Delta{in(1, 4, org("x")), in(2, 5, unit("a", "o=x"))}
	for _, c := range []struct {
		h    history
		d    api.Delta
		want bool
	}{
		{behind(at(1, 3)), out(1, 4, "o=x"), true}, {behind(at(1, 3)), in(2, 4, org("x")), true}, {behind(at(1, 3)), out(1<<52, 4, "o=x"), true}, {behind(at(1, 3)), out(0, 4, "o=x"), false}, {behind(at(1, 3)), out(1<<52+1, 4, "o=x"), false}, {behind(at(1, 3)), out(1, 3, "o=x"), false}, {behind(at(1, 3)), out(1, 5, "o=x"), false}, {behind(at(1, 3)), out(1, 1, "o=x"), false}, {behind(at(1, 3)), out(2, 3, "o=x"), false}, {behind(at(1, 3)), api.Delta{Csn: at(1, 4)}, false}, {behind(at(1, 3)), out(1, 4, "O=x"), false},
		{behind(at(1, 3), some...), out(2, 6, "o=none"), true}, {behind(at(1, 3), some...), in(2, 6, unit("a", "o=none")), true}, {behind(at(1, 3), some...), out(3, 6, "o=x"), true}, {behind(at(1, 3), some...), out(1<<52, 6, "o=x"), true}, {behind(at(1, 3), some...), out(1, 6, "o=x"), false}, {behind(at(1, 3), some...), out(0, 6, "o=x"), false}, {behind(at(1, 3), some...), out(1<<52+1, 6, "o=x"), false}, {behind(at(1, 3), some...), out(2, 4, "o=x"), false}, {behind(at(1, 3), some...), out(2, 5, "o=x"), false}, {behind(at(1, 3), some...), out(2, 7, "o=x"), false}, {behind(at(1, 3), some...), out(3, 5, "o=x"), false}, {behind(at(1, 3), some...), some[1], false}, {behind(at(1, 3), some...), api.Delta{Csn: at(2, 6)}, false}, {behind(at(1, 3), some...), in(2, 6, en("o=x")), false}, {behind(at(1, 3), some...), api.Delta{}, false},
		{behind(at(1, 1<<52-1)), out(1, 1<<52, "o=x"), true}, {behind(at(1, 1<<52)), out(1, 1<<52+1, "o=x"), false}, {behind(at(1, 1<<52)), out(2, 0, "o=x"), false}, {behind(at(1, 1<<52)), out(2, 1, "o=x"), false},
		// It may be with d, not d behind what may not be.
		{behind(at(-1, 3)), out(1, 4, "o=x"), false}, {behind(at(1, -1)), out(1, 0, "o=x"), false}, {behind(at(1, 4), some...), out(2, 6, "o=x"), false}, {behind(at(2, 3), some...), out(2, 6, "o=x"), false}, {behind(at(1, 3), some[1:]...), out(2, 6, "o=x"), false}, {behind(at(1, 3), out(1, 4, "none")), out(1, 5, "o=x"), false},
	} {
		if c.h.with(c.d).may() != c.want {
			t.Fatal("the test's own:", c.h, c.d)
		}
		if hist.Fits(c.h.base, c.h.l, c.d) != c.want {
			t.Errorf("15.1: Fits of %v, %v: %v", c.h, c.d, !c.want)
		}
	}
}

// TestFitsNumbers: 15.1, behind each beginning of a history: numbers about that of its last one, in deltas that may be and in ones that may not.
func TestFitsNumbers(t *testing.T) {
	for _, h := range histories() {
		for i := range h.numbers() {
			h := behind(h.base, h.l[:i]...)
			head := h.numbers()[i]
			for epoch := head.Epoch - 2; epoch <= head.Epoch+2; epoch++ {
				for n := head.N - 2; n <= head.N+3; n++ {
					want := epoch >= head.Epoch && epoch <= 1<<52 && n == head.N+1 && n <= 1<<52
					for _, d := range []api.Delta{out(epoch, n, "o=x"), in(epoch, n, org("x")), moved(epoch, n, "o=y", person("Ann", "o=x"))} {
						if hist.Fits(h.base, h.l, d) != want || h.with(d).may() != want {
							t.Errorf("15.1: Fits of %v, %v: %v", h, d, !want)
						}
					}
					for _, d := range broken(at(epoch, n)) {
						if hist.Fits(h.base, h.l, d) {
							t.Errorf("15.1: Fits of %v, %v", h, d)
						}
					}
				}
			}
		}
	}
}

// TestFitsGrows: 15.1, one by one each of a history fits behind those ahead of it, and no other one does.
func TestFitsGrows(t *testing.T) {
	for _, h := range histories() {
		for i := range h.numbers() {
			for j, d := range h.l {
				if hist.Fits(h.base, h.l[:i], d) != (i == j) {
					t.Errorf("15.1: Fits of %v, the one at %d behind %d", h, j, i)
				}
			}
		}
	}
}

// TestMayTexts: 15.1, deltas of long and odd names.
func TestMayTexts(t *testing.T) {
	val := strings.Repeat("v", api.MaxVal)
	mayIs(t, behind(at(1, 1), out(1, 2, "o="+val), in(1, 3, org(val)), out(1, 4, `o=\,`), in(1, 5, en(`o=\,`, "o:,", "objectclass:organization"))), true)
	mayIs(t, behind(at(1, 1), out(1, 2, "o="+val), in(1, 3, org(val+"v"))), false)
	mayIs(t, behind(at(1, 1), out(1, 2, "o="+val+"v"), in(1, 3, org(val))), false)
}
