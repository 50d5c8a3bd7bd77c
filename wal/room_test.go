package wal_test

import (
	"fmt"
	"slices"
	"strings"
	"testing"

	"brook/api"
	"brook/strip"
	"brook/wal"
)

// refused makes a call that must tell an error and change nothing: neither the records, nor a byte of the strip, nor whether others are kept.
func refused(t *testing.T, what string, s *strip.Strip, w *wal.Wal, c call, e api.Errno) {
	t.Helper()
	was, ahead, loose := bytesOf(s), w.Records(), s.Loose()
	must(t, what, c.of(w), e)
	shows(t, what, w, ahead)
	if bytesOf(s) != was || s.Loose() != loose || s.Down() {
		t.Errorf("%s: the strip is changed", what)
	}
	shows(t, what, open(t, s), ahead)
}

// TestLarge: 17.1, ErrLarge: more than 2^20 bytes, alone or among others, ahead of ErrFull; nothing is changed.
func TestLarge(t *testing.T) {
	most := strings.Repeat("x", 1<<20)
	for _, blocks := range []int{0, 1, 2, 100, 1 << 16} {
		s, w := fresh(t, blocks)
		kept := w.Append("a", "b") == api.OK
		if kept != (blocks >= 100) {
			t.Error("17.3: room", blocks)
		}
		for _, l := range [][]string{{most + "y"}, {most + most}, {"a", most + "y"}, {most + "y", "a"}, {"a", most + "y", "b"}, {most, most + "y"}, {"", "", most + "yy", most}} {
			refused(t, "17.1: Append of one too long", s, w, appended(l...), api.ErrLarge)
			refused(t, "17.1: Checkpoint of one too long", s, w, checked(l...), api.ErrLarge)
		}
		// As many as may be: they are not too long, be there room or not.
		for _, l := range [][]string{{most}, {most[1:]}, {"a", most}, {most, most}} {
			for _, c := range []call{appended(l...), checked(l...)} {
				if e := c.of(w); e == api.ErrLarge {
					t.Error("17.1: as long as it may be", blocks, c)
				}
			}
		}
		if kept {
			must(t, "17.1: Checkpoint", w.Checkpoint("c"), api.OK)
			must(t, "17.1: Append", w.Append("d"), api.OK)
			holds(t, "17.1: behind those refused", w, s, []string{"c", "d"})
		}
	}
}

// TestFull: 17.1, ErrFull: more than the strip has bytes; nothing is changed, and what is less is kept behind it.
func TestFull(t *testing.T) {
	for _, blocks := range []int{0, 1, 2, 3, 4, 5, 7, 80, 81, 1000} {
		s, w := fresh(t, blocks)
		var want []string
		if blocks >= 80 {
			want = []string{"a", counted(40, 0)}
			must(t, "17.3: Append", w.Append(want...), api.OK)
		}
		x := strings.Repeat("x", 32*blocks+1)
		for _, l := range [][]string{{x}, {"b", x}, {x, "", "b"}, {x, x}, slices.Repeat([]string{"xy"}, 16*blocks+1), slices.Repeat([]string{""}, 32*blocks+1)} {
			refused(t, "17.1: Append without room", s, w, appended(l...), api.ErrFull)
			refused(t, "17.1: Checkpoint without room", s, w, checked(l...), api.ErrFull)
			must(t, "17.1: Append of nothing", w.Append(), api.OK)
		}
		w = holds(t, "17.1: behind those without room", w, s, want)
		if blocks >= 80 {
			must(t, "17.3: Append", w.Append("c"), api.OK)
			holds(t, "17.1: behind those without room", w, s, append(want, "c"))
		}
	}
}

// greatest tells the length of the longest record for which a call has room, asking it of a strip of these bytes.
func greatest(t *testing.T, bytes string, as func(...string) call) int {
	t.Helper()
	low, high := -1, len(bytes)+1
	for high-low > 1 {
		n := (low + high) / 2
		if e := as(strings.Repeat("g", n)).of(open(t, twin(bytes))); e == api.OK {
			low = n
		} else if e == api.ErrFull {
			high = n
		} else {
			t.Fatal("17.1: room", n, e)
		}
	}
	return low
}

// TestJust: 17.1, where there is just room all is kept, where there is just none nothing is changed; and so it is for each length about it.
func TestJust(t *testing.T) {
	for _, blocks := range []int{0, 1, 2, 3, 4, 5, 6, 7, 80, 81, 82, 83, 300} {
		for _, ahead := range []call{appended(), appended("a"), appended("a", counted(30, 0), ""), checked(counted(33, 0))} {
			s, w := fresh(t, blocks)
			if ahead.of(w) != api.OK {
				continue
			}
			was := bytesOf(s)
			for _, as := range []func(...string) call{appended, checked} {
				n := greatest(t, was, as)
				for m := max(n-40, 0); m < n+40; m++ {
					s := twin(was)
					w := open(t, s)
					c := as(counted(m, 1))
					if m > n {
						refused(t, "17.1: just no room", s, w, c, api.ErrFull)
						continue
					}
					must(t, "17.1: just room", c.of(w), api.OK)
					holds(t, "17.1: just room", w, s, c.behind(ahead.behind(nil)))
				}
				if m := max(blocks-3, 0) * 8; blocks >= 80 && n < m {
					t.Error("17.3: there is room for more", blocks, n)
				}
			}
		}
	}
}

// TestFilled: 17.1, records are appended till there is no room, each of them is there; a Checkpoint makes room again, again and again.
func TestFilled(t *testing.T) {
	for _, blocks := range []int{80, 81, 127, 500} {
		for _, n := range []int{0, 1, 7, 25, 31, 32, 33, 200} {
			s, w := fresh(t, blocks)
			var want []string
			for round := range 6 {
				for i := 0; ; i++ {
					x := counted(n, byte(i+round))
					if e := w.Append(x); e != api.OK {
						refused(t, "17.1: it is full", s, w, appended(x), api.ErrFull)
						refused(t, "17.1: it is full", s, w, appended(x, "z"), api.ErrFull)
						break
					}
					want = append(want, x)
					if i > 32*blocks {
						t.Fatal("17.1: more than the strip has bytes")
					}
				}
				must(t, "17.1: Append of nothing", w.Append(), api.OK)
				w = holds(t, "17.1: it is full", w, s, want)
				// What is there may be kept as a whole, too.
				must(t, "17.1: Checkpoint of all", w.Checkpoint(want...), api.OK)
				shows(t, "17.1: Checkpoint of all", w, want)
				want = want[len(want)-round:]
				must(t, "17.1: Checkpoint that makes room", w.Checkpoint(want...), api.OK)
				w = holds(t, "17.1: Checkpoint that makes room", w, s, want)
				must(t, "17.1: there is room again", w.Append("a", "b"), api.OK)
				want = append(slices.Clone(want), "a", "b")
			}
		}
	}
}

// weight is what records count for in 17.3.
func weight(l []string) int {
	n := 0
	for _, x := range l {
		n += len(x) + 64
	}
	return n
}

// TestRoom: 17.3, at the bound, and one byte below it: of records of each length, in one call and in many, by Appends and by Checkpoints.
func TestRoom(t *testing.T) {
	for _, blocks := range []int{72, 73, 74, 75, 80, 81, 100, 255, 256, 257, 1000} {
		for _, each := range []int{0, 1, 5, 31, 32, 33, 63, 64, 65, 127, 1 << 20} {
			for below := range 2 {
				// Of all that come the last one fills what the others leave.
				room := blocks*8 - 512 - below
				var l []string
				for weight(l)+64 <= room {
					n := min(each, room-weight(l)-64)
					if rest := room - weight(l) - 64 - n; rest < 64 {
						n += rest
					}
					l = append(l, counted(n, byte(len(l))))
				}
				if weight(l) != room && room >= 64 {
					t.Fatal("17.3: the test's own sum", blocks, each, weight(l), room)
				}
				rooms(t, blocks, l)
				if t.Failed() {
					t.Fatal(blocks, each, below)
				}
			}
		}
	}
}

// rooms keeps records for which there is room, in several ways.
func rooms(t *testing.T, blocks int, l []string) {
	t.Helper()
	half := 0
	for half < len(l) && 2*weight(l[:half]) < weight(l) {
		half++
	}
	half = max(half-1, 0)
	for how, calls := range map[string][]call{
		"one Append":               {appended(l...)},
		"one Checkpoint":           {checked(l...)},
		"two Appends":              {appended(l[:half]...), appended(l[half:]...)},
		"a Checkpoint, an Append":  {checked(l[:half]...), appended(l[half:]...)},
		"an Append, a Checkpoint":  {appended(l[:half]...), checked(l[half:]...)},
		"two Checkpoints":          {checked(l[:half]...), checked(l[half:]...)},
		"both, the other way":      {appended(l[half:]...), checked(l[:half]...), appended()},
		"Checkpoints of half each": {checked(l[:half]...), checked(l[:half]...), checked(l[:half]...), checked(l[:half]...), checked()},
	} {
		s, w := fresh(t, blocks)
		var want []string
		for _, c := range calls {
			must(t, "17.3: "+how, c.of(w), api.OK)
			want = c.behind(want)
		}
		holds(t, "17.3: "+how, w, s, want)
	}
	s, w := fresh(t, blocks)
	for _, x := range l {
		must(t, "17.3: an Append each", w.Append(x), api.OK)
		must(t, "17.3: an Append of nothing", w.Append(), api.OK)
	}
	holds(t, "17.3: an Append each", w, s, l)
}

// TestRoomNothing: 17.3, what is nothing takes up nothing, however often it comes; nor does what was refused, or is there no more.
func TestRoomNothing(t *testing.T) {
	const blocks = 80
	s, w := fresh(t, blocks)
	long := strings.Repeat("x", 32*blocks)
	for i := range 5000 {
		must(t, "17.3: Append of nothing", w.Append(), api.OK)
		must(t, "17.1: Append without room", w.Append(long), api.ErrFull)
		must(t, "17.1: Checkpoint without room", w.Checkpoint("a", long), api.ErrFull)
		if i%3 == 0 {
			must(t, "17.3: Checkpoint of nothing", w.Checkpoint(), api.OK)
			must(t, "17.3: Checkpoint of nothing", w.Checkpoint(), api.OK)
		}
		must(t, "17.3: Checkpoint", w.Checkpoint("b"), api.OK)
	}
	holds(t, "17.3: of nothing", w, s, []string{"b"})
}

// TestRoomLargest: 17.3, of the greatest strip, by a record as long as may be promised, and by many.
func TestRoomLargest(t *testing.T) {
	s, w := fresh(t, 1<<16)
	long := counted(1<<19-512-64, 0)
	must(t, "17.3: Append", w.Append(long), api.OK)
	w = holds(t, "17.3: Append", w, s, []string{long})
	must(t, "17.1: Checkpoint", w.Checkpoint(), api.OK)
	must(t, "17.3: Checkpoint", w.Checkpoint(long), api.OK)
	w = holds(t, "17.3: Checkpoint", w, s, []string{long})
	must(t, "17.1: Checkpoint", w.Checkpoint(), api.OK)
	l := slices.Repeat([]string{""}, (1<<19-512)/64)
	must(t, "17.3: Checkpoint of many", w.Checkpoint(l[1:]...), api.OK)
	must(t, "17.3: Append", w.Append(""), api.OK)
	holds(t, "17.3: of many", w, s, l)
}

// TestFirstError: R2, of several errors ErrLarge counts first, then ErrFull, then the strip's.
func TestFirstError(t *testing.T) {
	large, full := strings.Repeat("x", 1<<20+1), strings.Repeat("x", 40000)
	for _, how := range []string{"fell beside it", "fell in it", "fell in it, and is up"} {
		s, w := fresh(t, 300)
		must(t, "17.1: Append", w.Append("a"), api.OK)
		s.Tear(1)
		if how == "fell beside it" {
			s.Sync()
		} else {
			must(t, "17.2: Append", w.Append("b"), api.ErrDown)
		}
		if how == "fell in it, and is up" {
			s.Fall(api.Plan{})
		}
		for range 2 {
			for _, c := range []struct {
				l []string
				e api.Errno
			}{{[]string{full, large}, api.ErrLarge}, {[]string{large}, api.ErrLarge}, {[]string{full}, api.ErrFull}, {[]string{"", full, "c"}, api.ErrFull}} {
				must(t, fmt.Sprint("R2: Append ", how), w.Append(c.l...), c.e)
				must(t, fmt.Sprint("R2: Checkpoint ", how), w.Checkpoint(c.l...), c.e)
			}
			shows(t, "R2: "+how, w, []string{"a"})
		}
		for _, c := range []call{appended(), appended("d"), checked(), checked("d")} {
			must(t, "17.2: "+how, c.of(w), api.ErrDown)
		}
	}
}

// TestRoomUnknown: 17.2, behind a call that fell it is not known what is there: ErrFull is told of what never has room, all else is ErrDown.
func TestRoomUnknown(t *testing.T) {
	x := counted(50, 0)
	never := greatest(t, bytesOf(strip.New(api.Plan{Blocks: 100})), appended) + 1
	for _, fell := range []call{appended("a"), appended(), checked(counted(40, 1)), checked()} {
		for crash := range 4 {
			s, w := fresh(t, 100)
			for w.Append(x) == api.OK {
			}
			s.Tear(crash)
			if crash == 0 {
				s.Tear(1)
				s.Sync()
				must(t, "17.1: what is known to have no room", w.Append(x), api.ErrFull)
			}
			if e := fell.of(w); e != api.ErrDown {
				continue
			}
			for range 2 {
				for _, as := range []func(...string) call{appended, checked} {
					must(t, "17.2: there may be room", as(x).of(w), api.ErrDown)
					must(t, "17.2: there may be room", as(counted(never-1, 0)).of(w), api.ErrDown)
					must(t, "17.2: there is none", as(counted(never, 0)).of(w), api.ErrFull)
				}
				s.Fall(api.Plan{Keep: 9})
				must(t, "17.1: Checkpoint of another one", open(t, s).Checkpoint(), api.OK)
			}
		}
	}
}
