package hist_test

import (
	"fmt"
	"math"
	"slices"
	"strings"
	"testing"

	"brook/api"
	"brook/delta"
	"brook/hist"
)

// en makes an entry of texts: a type, `:`, and values with `|` between; without `:` it has none.
func en(name string, s ...string) api.Entry {
	e := api.Entry{Dn: name}
	for _, x := range s {
		typ, vals, some := strings.Cut(x, ":")
		a := api.Attr{Type: typ}
		if some {
			a.Vals = strings.Split(vals, "|")
		}
		e.Attrs = append(e.Attrs, a)
	}
	return e
}

func org(o string) api.Entry { return en("o="+o, "o:"+o, "objectclass:organization") }

func unit(ou, up string) api.Entry {
	return en("ou="+ou+","+up, "objectclass:organizationalunit", "ou:"+ou)
}

func person(cn, up string) api.Entry {
	return en("cn="+cn+","+up, "cn:"+cn+"|"+cn+" Lee", "objectclass:person", "sn:S")
}

func at(epoch, n int) api.Csn { return api.Csn{Epoch: epoch, N: n} }

func in(epoch, n int, e api.Entry) api.Delta { return api.Delta{Csn: at(epoch, n), Entry: e} }

func out(epoch, n int, key string) api.Delta { return api.Delta{Csn: at(epoch, n), Gone: key} }

func moved(epoch, n int, key string, e api.Entry) api.Delta {
	return api.Delta{Csn: at(epoch, n), Gone: key, Entry: e}
}

// row makes n deltas behind a number, in one epoch.
func row(epoch, behind, n int) []api.Delta {
	var l []api.Delta
	for i := range n {
		l = append(l, out(epoch, behind+i+1, "o=x"))
	}
	return l
}

// history is a base and what stands behind it.
type history struct {
	base api.Csn
	l    []api.Delta
}

func behind(base api.Csn, l ...api.Delta) history { return history{base, l} }

// histories are some that may be.
func histories() []history {
	return []history{
		behind(at(0, 0)),
		behind(at(3, 9)),
		behind(at(1<<52, 1<<52)),
		behind(at(0, 0), in(0, 1, org("x"))),
		behind(at(1, 3), in(4, 4, org("x"))),
		behind(at(1, 3), in(1, 4, org("x")), in(1, 5, unit("a", "o=x")), moved(3, 6, "ou=a,o=x", unit("b", "o=x")), out(3, 7, "ou=b,o=x"), in(3, 8, person("Ann", "o=x"))),
		behind(at(0, 7), in(0, 8, org("x")), out(1, 9, "o=x"), in(2, 10, org("X")), out(1<<52, 11, "o=x")),
		behind(at(2, 1<<52-3), row(2, 1<<52-3, 3)...),
		behind(at(5, 127), row(300, 127, 12)...),
		// A number has the N of one and the Epoch of another one.
		behind(at(4, 4), out(5, 5, "o=a"), out(6, 6, "o=b"), out(7, 7, "o=c"), out(8, 8, "o=d")),
	}
}

// numbers are those of a history: its base, and each change's.
func (h history) numbers() []api.Csn {
	l := []api.Csn{h.base}
	for _, d := range h.l {
		l = append(l, d.Csn)
	}
	return l
}

// with makes the history with one more behind all.
func (h history) with(d api.Delta) history { return history{h.base, append(slices.Clone(h.l), d)} }

// may is May by the words of 15.1.
func (h history) may() bool {
	if h.base.Epoch < 0 || h.base.Epoch > 1<<52 || h.base.N < 0 || h.base.N > 1<<52 {
		return false
	}
	epochs := []int{h.base.Epoch}
	for i, d := range h.l {
		if !delta.May(d) || d.Csn.N != h.base.N+1+i {
			return false
		}
		epochs = append(epochs, d.Csn.Epoch)
	}
	return slices.IsSorted(epochs)
}

// whole tells all of deltas; nil lists and empty ones are one.
func whole(l []api.Delta) string {
	s := fmt.Sprint(len(l), " deltas")
	for _, d := range l {
		s += fmt.Sprintf(" %d %q %q;", d.Csn, d.Gone, d.Entry)
	}
	return s
}

// String tells all of a history.
func (h history) String() string { return fmt.Sprint(h.base, " ") + whole(h.l) }

// edges are numbers, rising.
func edges() []int {
	return []int{math.MinInt, math.MinInt + 1, -api.MaxCsn, -2, -1, 0, 1, 2, 7, 1 << 31, api.MaxCsn - 1, api.MaxCsn, api.MaxCsn + 1, 2 * api.MaxCsn, math.MaxInt - 1, math.MaxInt}
}

// asked are numbers of which some are a history's own, and others alike.
func (h history) asked() []api.Csn {
	own := h.numbers()
	l := []api.Csn{{}}
	for i, c := range own {
		next := own[(i+1)%len(own)]
		l = append(l, c, at(c.Epoch, next.N), at(next.Epoch, c.N), at(c.N, c.Epoch))
		for _, n := range []int{-1, 1, 1 << 32} {
			l = append(l, at(c.Epoch, c.N+n), at(c.Epoch+n, c.N), at(c.Epoch+n, c.N+n), at(c.Epoch-n, c.N+n))
		}
		l = append(l, at(c.Epoch, -c.N), at(-c.Epoch, c.N), at(c.Epoch, 0), at(0, c.N))
	}
	for _, a := range edges() {
		for _, b := range edges() {
			l = append(l, at(a, b))
		}
	}
	return l
}

// TestHistories: the tests' own histories may be, and each part of them that is behind a number of theirs.
func TestHistories(t *testing.T) {
	for _, h := range histories() {
		for i, c := range h.numbers() {
			if part := behind(c, h.l[i:]...); !part.may() || !hist.May(part.base, part.l) {
				t.Error("15.1: May of", part)
			}
		}
	}
}

// TestHead: 15.1, the last one's Csn, or base: of each beginning of a history.
func TestHead(t *testing.T) {
	for _, h := range histories() {
		for i, want := range h.numbers() {
			if got := hist.Head(h.base, h.l[:i]); got != want {
				t.Error("15.1: Head of", behind(h.base, h.l[:i]...), got)
			}
		}
		if got := hist.Head(h.base, []api.Delta{}); got != h.base {
			t.Error("15, examples: Head of no deltas", h.base, got)
		}
	}
}

// TestHas: 15.1, base's number and each one's, whole; no others.
func TestHas(t *testing.T) {
	for _, h := range histories() {
		for _, c := range h.asked() {
			if want := slices.Contains(h.numbers(), c); hist.Has(h.base, h.l, c) != want {
				t.Errorf("15.1: Has of %v, %v: %v", h, c, !want)
			}
		}
	}
	base, l := at(4, 4), []api.Delta{out(5, 5, "o=a"), out(6, 6, "o=b"), out(6, 7, "o=c")}
	for _, c := range []api.Csn{at(4, 4), at(5, 5), at(6, 6), at(6, 7)} {
		if !hist.Has(base, l, c) {
			t.Error("15.1: Has, of its own", c)
		}
	}
	for _, c := range []api.Csn{{}, at(4, 3), at(3, 4), at(3, 3), at(4, 5), at(5, 4), at(5, 6), at(6, 5), at(4, 7), at(7, 7), at(6, 8), at(7, 8), at(4, 0), at(0, 4), at(0, 6)} {
		if hist.Has(base, l, c) {
			t.Error("15.1: Has, of others", c)
		}
	}
	if hist.Has(base, l[1:], at(5, 5)) || hist.Has(base, l[:2], at(6, 7)) || !hist.Has(base, nil, base) || hist.Has(base, nil, api.Csn{}) {
		t.Error("15.1: Has of a part")
	}
}
