package wal_test

import (
	"fmt"
	"math"
	"slices"
	"strings"
	"testing"

	"brook/api"
	"brook/strip"
	"brook/wal"
)

// state is the bytes of a strip, and the records that it has.
type state struct {
	bytes string
	l     []string
}

// after makes the state behind some calls.
func after(t *testing.T, blocks int, row ...call) state {
	t.Helper()
	s, w := fresh(t, blocks)
	var l []string
	for _, c := range row {
		must(t, "17.3: "+c.String(), c.of(w), api.OK)
		l = c.behind(l)
	}
	return state{bytesOf(s), l}
}

// spoil makes each of these calls of a Wal that fell: they tell ErrDown, and change nothing.
func spoil(t *testing.T, s *strip.Strip, w *wal.Wal) {
	t.Helper()
	was, loose := bytesOf(s), s.Loose()
	for _, c := range []call{appended("q"), appended(), checked(), checked("q", "r")} {
		must(t, "17.2: till it is opened anew: "+c.String(), c.of(w), api.ErrDown)
	}
	if bytesOf(s) != was || s.Loose() != loose {
		t.Error("17.2: one that fell changed the strip")
	}
}

// fell makes a call in which the strip falls at its change of a number, and lets it fall by keep and torn. It tells false if the call is done ahead of that.
func fell(t *testing.T, x state, c call, crash, keep, torn int) (*strip.Strip, bool) {
	t.Helper()
	s := twin(x.bytes)
	w := open(t, s)
	s.Tear(crash)
	e := c.of(w)
	if e == api.OK {
		shows(t, "17.2: done", w, c.behind(x.l))
		return s, false
	}
	if e != api.ErrDown || !s.Down() {
		t.Errorf("17.2: it fell: %d, %v", e, s.Down())
	}
	shows(t, "17.2: it fell", w, x.l)
	spoil(t, s, w)
	s.Fall(api.Plan{Keep: keep, Torn: torn})
	spoil(t, s, w)
	shows(t, "17.2: it fell", w, x.l)
	return s, true
}

// either opens a strip, which must have these records or those.
func either(t *testing.T, what string, s *strip.Strip, these, those []string) (*wal.Wal, []string) {
	t.Helper()
	w := open(t, s)
	l := w.Records()
	if !slices.Equal(l, these) && !slices.Equal(l, those) {
		t.Fatalf("%s: %s, neither %s nor %s", what, brief(l), brief(these), brief(those))
	}
	return w, l
}

// falls goes through all falls in a call: at each change, with each Keep and each Torn.
func falls(t *testing.T, x state, c call, each func(s *strip.Strip)) {
	t.Helper()
	for crash := 1; ; crash++ {
		for keep := 0; keep < crash; keep++ {
			for torn := range 33 {
				if keep == crash-1 && torn > 0 {
					// All that are loose are kept: none is torn.
					break
				}
				s, yes := fell(t, x, c, crash, keep, torn)
				if !yes {
					return
				}
				each(s)
				if t.Failed() {
					t.Fatal(brief(x.l), c, "falls at", crash, keep, torn)
				}
			}
		}
	}
}

// rows are calls that lead to states from which others fall.
func rows() [][]call {
	return [][]call{
		{},
		{appended("a")},
		{appended(counted(18, 0))},
		{appended(counted(25, 0)), appended("b", "")},
		{appended("a"), checked()},
		{appended("a", counted(70, 0)), checked("b"), appended("c")},
		{checked(counted(100, 0)), checked(counted(100, 5)), checked("d"), appended("e", "e")},
		{appended(strings.Repeat("\x00", 90)), checked(strings.Repeat("\xff", 90)), checked(), appended("f")},
	}
}

// TestFallEach: 17.2, wherever it falls in an Append or a Checkpoint, with each Keep and each Torn: the records ahead of it, or all behind it; and then it goes on.
func TestFallEach(t *testing.T) {
	seen := map[string]int{}
	for _, row := range rows() {
		x := after(t, 100, row...)
		for _, c := range []call{appended("g"), appended("", "h", counted(40, 9)), appended(counted(130, 8)), checked(), checked("i"), checked("j", counted(60, 7), ""), checked(append(slices.Clone(x.l), "k")...)} {
			falls(t, x, c, func(s *strip.Strip) {
				w, l := either(t, "17.2: it fell", s, x.l, c.behind(x.l))
				seen[fmt.Sprint(c.check, slices.Equal(l, c.behind(x.l)))]++
				for _, next := range []call{appended("on"), checked("and", "on")} {
					must(t, "17.2: it goes on", next.of(w), api.OK)
					l = next.behind(l)
					w = holds(t, "17.2: it goes on", w, s, l)
				}
			})
		}
	}
	for _, what := range []string{"false false", "false true", "true false", "true true"} {
		if seen[what] == 0 {
			t.Error("17.2: the test's falls had never", what)
		}
	}
}

// TestFallBehindFall: 17.2, one falls, and then the next one, at each change, with each Keep and some Torns; each time the records ahead of it, or all behind it, and then the third is done.
func TestFallBehindFall(t *testing.T) {
	for _, row := range rows()[4:7] {
		x := after(t, 90, row...)
		for _, c := range []call{appended("g", counted(30, 3)), checked("h", counted(33, 3))} {
			falls(t, x, c, func(s *strip.Strip) {
				_, l := either(t, "17.2: it fell", s, x.l, c.behind(x.l))
				y := state{bytesOf(s), l}
				for _, next := range []call{appended("i"), checked("j", "k")} {
					twice(t, y, next)
				}
			})
		}
	}
}

// twice lets a call fall in several ways, opens what is left, and makes one that is done.
func twice(t *testing.T, x state, c call) {
	t.Helper()
	for crash := 1; ; crash++ {
		for keep := range crash {
			for _, torn := range []int{0, 1, 14, 31} {
				s, yes := fell(t, x, c, crash, keep, torn)
				if !yes {
					return
				}
				w, l := either(t, "17.2: it fell again", s, x.l, c.behind(x.l))
				must(t, "17.2: it goes on", w.Append("on"), api.OK)
				shows(t, "17.2: it goes on", open(t, s), append(l, "on"))
				if t.Failed() {
					t.Fatal(brief(x.l), c, "falls again at", crash, keep, torn)
				}
			}
		}
	}
}

// TestFallEdges: 17.2, with whatever Keep and Torn, from the least int to the greatest.
func TestFallEdges(t *testing.T) {
	edges := []int{math.MinInt, -33, -1, 0, 1, 2, 3, 4, 5, 31, 32, 33, 34, 1 << 32, math.MaxInt - 1, math.MaxInt}
	x := after(t, 100, appended("a", counted(50, 0)), checked("b"))
	for _, c := range []call{appended("c", counted(70, 0)), checked("d", counted(70, 1))} {
		for crash := 1; crash < 7; crash++ {
			for _, keep := range edges {
				for _, torn := range edges {
					s, yes := fell(t, x, c, crash, keep, torn)
					if !yes {
						continue
					}
					either(t, "17.2: it fell", s, x.l, c.behind(x.l))
				}
			}
		}
	}
}

// TestFallInOpen: 17.2, a strip that falls in an Open, too, be it told or not, holds what it would without: again and again, behind a call that fell.
func TestFallInOpen(t *testing.T) {
	for _, row := range rows() {
		x := after(t, 100, row...)
		for _, c := range []call{appended("g", counted(40, 9)), checked("h", counted(40, 8))} {
			falls(t, x, c, func(s *strip.Strip) {
				want := open(t, twin(bytesOf(s))).Records()
				for crash := 1; crash < 4; crash++ {
					s.Tear(crash)
					w, e := wal.Open(s)
					if e != api.OK && (e != api.ErrDown || w != nil) {
						t.Error("17.2: Open that falls", w, e)
					}
					s.Fall(api.Plan{Keep: crash, Torn: 7 * crash})
					shows(t, "17.2: behind an Open that fell", open(t, s), want)
				}
			})
		}
	}
}

// TestFallOpen: 17.2, a strip that falls, of which nothing was being kept, changes nothing, whether it is opened ahead of that or behind it; who did not fall in a call goes on.
func TestFallOpen(t *testing.T) {
	for _, row := range rows() {
		x := after(t, 100, row...)
		s := twin(x.bytes)
		w := open(t, s)
		for n := range 40 {
			if n%2 == 0 {
				s.Tear(1)
				s.Sync()
				shows(t, "17.1: while it is down", w, x.l)
			}
			s.Fall(api.Plan{Keep: n, Torn: n})
			open(t, s)
			shows(t, "17.2: it fell beside", w, x.l)
		}
		if bytesOf(s) != x.bytes {
			t.Error("17.2: an Open changed the strip")
		}
		must(t, "17.2: it goes on", w.Append("on"), api.OK)
		holds(t, "17.2: it goes on", w, s, append(slices.Clone(x.l), "on"))
	}
}

// TestDownBeside: 17.2, a call while the strip is down tells its error, one of nothing, too, and from then on ErrDown, though the strip is up; nothing is changed.
func TestDownBeside(t *testing.T) {
	for _, row := range rows() {
		x := after(t, 100, row...)
		for _, c := range []call{appended(), appended("a"), checked(), checked("b", "c")} {
			s := twin(x.bytes)
			w := open(t, s)
			s.Tear(1)
			s.Sync()
			must(t, "17.2: while it is down: "+c.String(), c.of(w), api.ErrDown)
			spoil(t, s, w)
			s.Fall(api.Plan{Keep: 1, Torn: 32})
			spoil(t, s, w)
			shows(t, "17.2: what was known", w, x.l)
			if bytesOf(s) != x.bytes {
				t.Error("17.2: the strip is changed", c)
			}
			shows(t, "17.2: opened anew", open(t, s), x.l)
			spoil(t, s, w)
		}
	}
}

// TestHeld: 17.2, what a call answered OK is held, wherever the strip falls behind it, by whatever plan, in the next call, too.
func TestHeld(t *testing.T) {
	for _, row := range rows() {
		s, w := fresh(t, 100)
		var l []string
		for _, c := range append(row, appended("m"), checked("n", "o"), appended("p")) {
			must(t, "17.2: "+c.String(), c.of(w), api.OK)
			l = c.behind(l)
			x := state{bytesOf(s), l}
			for n := range 60 {
				s := twin(x.bytes)
				s.Tear(n % 3)
				s.Sync()
				s.Sync()
				s.Fall(api.Plan{Keep: n, Torn: n, Crash: 0})
				shows(t, "17.2: held", open(t, s), l)
			}
			s.Fall(api.Plan{Keep: 3, Torn: 5})
			shows(t, "17.2: held", open(t, s), l)
		}
		x := state{bytesOf(s), l}
		falls(t, x, appended(counted(50, 0)), func(s *strip.Strip) {
			if got := open(t, s).Records(); len(got) < len(l) || !slices.Equal(got[:len(l)], l) {
				t.Error("17.2: held while another one falls", brief(got))
			}
		})
	}
}

// TestOlder: 17.2, 17.4, blocks in which older records stand, whole ones, and such as look like them or like anything that the strip has had, are not told again, wherever it falls.
func TestOlder(t *testing.T) {
	var images []string
	for _, row := range rows() {
		bytes := strings.TrimRight(after(t, 100, row...).bytes, "\x00")
		images = append(images, bytes[:min(len(bytes), 96)])
		for from := 0; from < len(bytes); from += 32 {
			if image := bytes[from:min(from+32, len(bytes))]; strings.Trim(image, "\x00") != "" && !slices.Contains(images, image) {
				images = append(images, image)
			}
		}
	}
	for i, image := range slices.DeleteFunc(images, func(s string) bool { return s == "" }) {
		for pad := range 33 {
			// The image stands at each place of a block, and in each of what an Append lays.
			s, w := fresh(t, 300)
			older := []string{counted(pad, 1), strings.Repeat(image, 1+300/len(image)), image}
			for _, c := range []call{appended(older...), checked(older...), appended(older[1:]...), checked(), checked("a")}[i%2:] {
				must(t, "17.3: "+c.String(), c.of(w), api.OK)
			}
			x := state{bytesOf(s), []string{"a"}}
			c := call{(i+pad)%2 == 0, []string{"b", counted(33, 2)}}
			for crash := 1; crash < 6; crash++ {
				s, _ := fell(t, x, c, crash, pad%crash, (pad*7+i)%33)
				s.Fall(api.Plan{})
				w, l := either(t, "17.2: older records", s, x.l, c.behind(x.l))
				must(t, "17.2: it goes on", w.Append("c"), api.OK)
				holds(t, "17.2: older records", w, s, append(l, "c"))
			}
			if t.Failed() {
				t.Fatalf("older: %q %d", image, pad)
			}
		}
	}
}

// TestShorter: 17.2, behind a longer one that fell a shorter one is kept, and nothing of the longer one is told.
func TestShorter(t *testing.T) {
	for _, row := range rows() {
		x := after(t, 100, row...)
		for n := range 12 {
			c := appended(counted(20, 1), counted(20, 2), counted(20, 3), "", counted(45, 4))
			s, yes := fell(t, x, c, n/2+1, n/2, n*3)
			if !yes {
				continue
			}
			w, l := either(t, "17.2: a longer one", s, x.l, c.behind(x.l))
			for k := range 3 {
				y := counted(20*k, 5)
				must(t, "17.2: a shorter one", w.Append(y), api.OK)
				l = append(l, y)
				w = holds(t, "17.2: a shorter one", w, s, l)
			}
		}
	}
}
