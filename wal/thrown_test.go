package wal_test

import (
	"fmt"
	"slices"
	"strings"
	"sync"
	"testing"

	"brook/api"
	"brook/strip"
	"brook/wal"
)

// dice is a small generator: the same numbers in each run.
type dice uint32

func (d *dice) below(n int) int {
	*d = *d*1664525 + 1013904223
	return int(*d>>8) % n
}

func (d *dice) call() call {
	c := call{check: d.below(4) == 0}
	for range []int{1, 1, 1, 2, 3, 0, 7}[d.below(7)] {
		n := []int{0, 1, 5, 18, 25, 31, 32, 33, 90, 400}[d.below(10)]
		c.l = append(c.l, counted(n, byte(d.below(256))))
	}
	return c
}

// model is what a strip must have by the chapter's words: the records, or, behind a call that fell, those ahead of it or those behind it.
type model struct {
	ahead, behind []string
	size          int // bytes of the strip
}

// room tells whether 17.3 promises that there is room.
func (m model) room(c call) bool { return 4*(weight(m.ahead)+weight(c.l)+512) <= m.size }

// scene is a strip, a Wal on it, and what must be told.
type scene struct {
	s *strip.Strip
	w *wal.Wal
	model
}

// do makes a call, and holds its answer against the chapter's words. It tells false if it fell.
func (x *scene) do(t *testing.T, c call) bool {
	t.Helper()
	e := c.of(x.w)
	switch {
	case e == api.OK:
		x.ahead = c.behind(x.ahead)
		if 2*x.size < weight(x.ahead)-64*len(x.ahead) {
			t.Error("17.1: more than the strip has bytes")
		}
	case e == api.ErrFull && len(c.l) > 0 && !x.room(c):
	case e == api.ErrDown && x.s.Down():
		x.behind = c.behind(x.ahead)
		return false
	default:
		t.Errorf("17.1: %v of %s: %d", c, brief(x.ahead), e)
	}
	shows(t, "17.1: "+c.String(), x.w, x.ahead)
	return true
}

// fall lets the strip fall till it opens, in Opens, too, and holds what it has against the chapter's words.
func (x *scene) fall(t *testing.T, d *dice) {
	t.Helper()
	old := x.w
	for range 1 + d.below(3) {
		x.s.Fall(api.Plan{Keep: d.below(40), Torn: d.below(40), Crash: d.below(4)})
		w, e := wal.Open(x.s)
		if e != api.OK && e != api.ErrDown {
			t.Error("17.2: Open", e)
		}
		if w != nil {
			l := w.Records()
			if slices.Equal(l, x.behind) {
				x.ahead = x.behind
			}
			x.behind = x.ahead
			if !slices.Equal(l, x.ahead) {
				t.Errorf("17.2: %s, not %s", brief(l), brief(x.ahead))
			}
		}
		must(t, "17.2: till it is opened anew", old.Append(), api.ErrDown)
	}
	x.s.Fall(api.Plan{Keep: d.below(40), Torn: d.below(40)})
	x.w, x.ahead = either(t, "17.2: Open", x.s, x.ahead, x.behind)
	must(t, "17.2: till it is opened anew", old.Checkpoint(), api.ErrDown)
}

// TestThrown: 17.1 to 17.4, thrown calls on strips that fall, held against the chapter's words.
func TestThrown(t *testing.T) {
	d := dice(172)
	for n := range 400 {
		blocks := []int{0, 1, 2, 3, 5, 70, 90, 91, 150, 400}[d.below(10)]
		x := &scene{s: strip.New(api.Plan{Blocks: blocks}), model: model{size: 32 * blocks}}
		x.w = open(t, x.s)
		for range 60 {
			if d.below(3) == 0 {
				x.s.Tear(1 + d.below(9))
			}
			switch d.below(8) {
			case 0:
				x.w = open(t, x.s)
			case 1:
				open(t, x.s)
			}
			if !x.do(t, d.call()) {
				x.fall(t, &d)
			}
			if t.Failed() {
				t.Fatal("thrown", n, blocks)
			}
		}
		x.s.Tear(0)
		holds(t, "17.4: at the end", x.w, x.s, x.ahead)
	}
}

// story is all that a row of thrown calls tells.
func story(d dice) string {
	s := strip.New(api.Plan{Blocks: 60 + d.below(60)})
	w, _ := wal.Open(s)
	var all strings.Builder
	for range 30 {
		if d.below(4) == 0 {
			s.Tear(d.below(8))
		}
		e := d.call().of(w)
		fmt.Fprint(&all, e, w.Records(), s.Loose(), s.Down())
		if e == api.ErrDown {
			s.Fall(api.Plan{Keep: d.below(9), Torn: d.below(33)})
			w, e = wal.Open(s)
			fmt.Fprint(&all, e, w.Records())
		}
	}
	return all.String()
}

// TestTwo: R5, two Wals on two strips do not touch one another, and tell the same of the same calls.
func TestTwo(t *testing.T) {
	d := dice(173)
	for range 200 {
		s, w := fresh(t, 200)
		o, x := fresh(t, 200)
		var want []string
		for range 10 {
			c := d.call()
			other := d.call()
			if e := c.of(w); e == api.OK {
				want = c.behind(want)
			}
			other.of(x)
			shows(t, "R5: two", w, want)
		}
		if bytesOf(s) == bytesOf(o) {
			t.Error("R5: the test's own strips")
		}
		holds(t, "R5: two", w, s, want)
	}
	for n := range 200 {
		if story(dice(n)) != story(dice(n)) {
			t.Error("R5: the same calls", n)
		}
	}
}

// TestAtOnce: R1, R5: Wals of one's own each tell the same, whoever calls others at once.
func TestAtOnce(t *testing.T) {
	var want []string
	for n := range 40 {
		want = append(want, story(dice(n)))
	}
	right := make([]bool, 16)
	var done sync.WaitGroup
	for k := range right {
		done.Go(func() {
			ok := true
			for n := range 3 * len(want) {
				i := (n*(2*k+1) + k) % len(want)
				ok = ok && story(dice(i)) == want[i]
			}
			right[k] = ok
		})
	}
	done.Wait()
	if slices.Contains(right, false) {
		t.Error("17: at once", right)
	}
}
