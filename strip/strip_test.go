package strip_test

import (
	"math"
	"testing"

	"brook/api"
	"brook/strip"
)

// must hands over what a call told that must be right.
func must(t *testing.T, what string, got, want api.Errno) {
	t.Helper()
	if got != want {
		t.Errorf("%s: %d, not %d", what, got, want)
	}
}

// shows asks for the bytes of a block.
func shows(t *testing.T, what string, s *strip.Strip, i int, want string) {
	t.Helper()
	if b, e := s.Read(i); b != want || e != api.OK {
		t.Errorf("%s: block %d: %q, %d, not %q", what, i, b, e, want)
	}
}

// TestSize: 16.1, so many blocks as Blocks says, from 0 to 2^16, cut to that; each is there, and none beside them.
func TestSize(t *testing.T) {
	for blocks, want := range map[int]int{
		math.MinInt: 0, -1 << 32: 0, -1: 0, 0: 0, 1: 1, 2: 2, 100: 100, 1<<16 - 1: 1<<16 - 1, 1 << 16: 1 << 16, 1<<16 + 1: 1 << 16, 1<<16 + 7: 1 << 16, 1 << 17: 1 << 16, 1 << 32: 1 << 16, 1<<32 + 5: 1 << 16, math.MaxInt: 1 << 16,
	} {
		for _, p := range []api.Plan{{Blocks: blocks}, {Blocks: blocks, Crash: 9, Keep: 3, Torn: 5}, {Blocks: blocks, Crash: -9, Keep: -3, Torn: -5}} {
			s := strip.New(p)
			if s == nil || s.Size() != want || s.Down() || s.Loose() != 0 {
				t.Fatal("16.1: New", p, s.Size())
			}
			for _, i := range append(edges(), -want, -want-1, want, want+1, 2*want+1) {
				if i >= 0 && i < want {
					continue
				}
				if b, e := s.Read(i); b != "" || e != api.ErrArg {
					t.Error("16.1: Read of no block", p, i, b, e)
				}
				must(t, "16.1: Write of no block", s.Write(i, full("a")), api.ErrArg)
			}
			if s.Loose() != 0 || s.Down() {
				t.Error("16.1: behind what was not done", p)
			}
		}
	}
}

// TestZero: 16.1, all bytes are 0 at first, of each block.
func TestZero(t *testing.T) {
	for _, blocks := range []int{1, 2, 300, 1 << 16} {
		s := strip.New(api.Plan{Blocks: blocks})
		for i := range blocks {
			if b, e := s.Read(i); b != full("\x00") || e != api.OK {
				t.Fatal("16.1: at first", i, b, e)
			}
		}
	}
}

// TestRead: 16.1, behind one Write, several of one block, those that are loose and those that were synced.
func TestRead(t *testing.T) {
	s := strip.New(api.Plan{Blocks: 4})
	put := func(i int, b string, loose int) {
		t.Helper()
		must(t, "16.1: Write", s.Write(i, b), api.OK)
		shows(t, "16.1: behind Write", s, i, b)
		if s.Loose() != loose || s.Down() || s.Size() != 4 {
			t.Error("16.1: Loose", s.Loose(), loose)
		}
	}
	put(0, full("a"), 1)
	put(3, counted(0), 2)
	put(0, counted(224), 3)
	put(0, full("\xff"), 4)
	put(0, full("\xff"), 5)
	shows(t, "16.1: another one", s, 3, counted(0))
	shows(t, "16.1: one that nobody wrote", s, 1, full("\x00"))
	shows(t, "16.1: one that nobody wrote", s, 2, full("\x00"))
	for range 3 {
		must(t, "16.1: Sync", s.Sync(), api.OK)
		shows(t, "16.1: synced", s, 0, full("\xff"))
		shows(t, "16.1: synced", s, 3, counted(0))
		if s.Loose() != 0 || s.Down() {
			t.Error("16.1: behind Sync", s.Loose())
		}
	}
	put(0, full("\x00"), 1)
	put(1, full("b"), 2)
	shows(t, "16.1: synced, another one is loose", s, 3, counted(0))
}

// TestEach: 16.1, each block of a strip keeps its own bytes, loose ones and synced ones.
func TestEach(t *testing.T) {
	const n = 1 << 16
	s := strip.New(api.Plan{Blocks: n})
	text := func(i int) string {
		b := []byte(full("x"))
		b[0], b[30], b[31] = byte(i), byte(i>>8), byte(i%251)
		return string(b)
	}
	for i := range n {
		must(t, "16.1: Write", s.Write(i, text(i)), api.OK)
	}
	for range 2 {
		for i := range n {
			if b, e := s.Read(i); b != text(i) || e != api.OK {
				t.Fatal("16.1: Read", i, b, e)
			}
		}
		must(t, "16.1: Sync", s.Sync(), api.OK)
	}
}

// TestWrongWrites: 16.1, a block that there is not, a length that is not 32, both: ErrArg; nothing is written, nothing is loose.
func TestWrongWrites(t *testing.T) {
	s := strip.New(api.Plan{Blocks: 3})
	must(t, "16.1: Write", s.Write(1, counted(7)), api.OK)
	must(t, "16.1: Sync", s.Sync(), api.OK)
	for _, i := range append(edges(), -3, 4) {
		for _, b := range []string{"", "a", full("a")[1:], full("a"), full("a") + "a", full("a") + full("a"), full("é")} {
			if i >= 0 && i < 3 && len(b) == 32 {
				continue
			}
			must(t, "16.1: a wrong Write", s.Write(i, b), api.ErrArg)
		}
	}
	if s.Loose() != 0 || s.Down() {
		t.Error("16.1: behind wrong Writes", s.Loose())
	}
	shows(t, "16.1: behind wrong Writes", s, 0, full("\x00"))
	shows(t, "16.1: behind wrong Writes", s, 1, counted(7))
	shows(t, "16.1: behind wrong Writes", s, 2, full("\x00"))
	// 32 bytes, not 32 runes.
	must(t, "16.1: of 16 runes", s.Write(2, full("é")[:32]), api.OK)
	shows(t, "16.1: of 16 runes", s, 2, full("é")[:32])
}

// TestDown: 16.1, while it is down: ErrDown of all, ahead of what else is wrong; how many there are and are loose is told.
func TestDown(t *testing.T) {
	for _, blocks := range []int{0, 1, 3} {
		s := strip.New(api.Plan{Blocks: blocks, Crash: blocks + 1})
		for i := range blocks {
			must(t, "16.1: Write", s.Write(i, full("a")), api.OK)
		}
		if s.Down() {
			t.Error("16.1: ahead")
		}
		must(t, "16.1: the one that is not done", s.Sync(), api.ErrDown)
		for range 3 {
			for _, i := range edges() {
				if b, e := s.Read(i); b != "" || e != api.ErrDown {
					t.Error("16.1: Read while it is down", i, b, e)
				}
				for _, b := range []string{"", full("b")[1:], full("b"), full("b") + "b"} {
					must(t, "16.1: Write while it is down", s.Write(i, b), api.ErrDown)
				}
			}
			must(t, "16.1: Sync while it is down", s.Sync(), api.ErrDown)
			if !s.Down() || s.Loose() != blocks || s.Size() != blocks {
				t.Error("16.1: while it is down", s.Down(), s.Loose(), s.Size())
			}
		}
		s.Fall(api.Plan{Keep: blocks})
		if s.Down() || s.Loose() != 0 || s.Size() != blocks {
			t.Error("16.2: behind the Fall", s.Down(), s.Loose(), s.Size())
		}
		for i := range blocks {
			shows(t, "16.2: of those that are done", s, i, full("a"))
		}
	}
}

// TestNil: 16.2, methods of nil: ErrNone, zero values, whatever was called ahead.
func TestNil(t *testing.T) {
	var s *strip.Strip
	for range 2 {
		for _, i := range edges() {
			if b, e := s.Read(i); b != "" || e != api.ErrNone {
				t.Error("16.2: Read of nil", i, b, e)
			}
			must(t, "16.2: Write of nil", s.Write(i, full("a")), api.ErrNone)
			must(t, "16.2: Write of nil", s.Write(i, ""), api.ErrNone)
			s.Tear(i)
			must(t, "16.2: Sync of nil", s.Sync(), api.ErrNone)
			s.Fall(api.Plan{Blocks: i, Crash: i, Keep: i, Torn: i})
			if s.Size() != 0 || s.Loose() != 0 || s.Down() {
				t.Error("16.2: of nil", s.Size(), s.Loose(), s.Down())
			}
		}
	}
}

// TestNoBlocks: 16.1, a strip without blocks is synced, counts, and falls, too; so does one that New did not make.
func TestNoBlocks(t *testing.T) {
	for _, s := range []*strip.Strip{strip.New(api.Plan{}), strip.New(api.Plan{Blocks: -1, Keep: 7, Torn: 7}), new(strip.Strip)} {
		must(t, "16.1: Sync", s.Sync(), api.OK)
		must(t, "16.1: Write", s.Write(0, full("a")), api.ErrArg)
		s.Fall(api.Plan{Blocks: 5, Crash: 2, Keep: 3, Torn: 4})
		if b, e := s.Read(0); s.Size() != 0 || b != "" || e != api.ErrArg {
			t.Error("16.1: without blocks", s.Size(), b, e)
		}
		must(t, "16.1: Sync", s.Sync(), api.OK)
		must(t, "16.1: Sync", s.Sync(), api.ErrDown)
		if !s.Down() || s.Loose() != 0 {
			t.Error("16.1: without blocks, down", s.Loose())
		}
	}
}
