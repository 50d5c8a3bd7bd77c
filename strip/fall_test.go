package strip_test

import (
	"math"
	"testing"

	"brook/api"
	"brook/strip"
)

// TestExample: the chapter's example: Write, Fall with Keep 0: the block is as before.
func TestExample(t *testing.T) {
	s := strip.New(api.Plan{Blocks: 2})
	must(t, "16: Write", s.Write(1, full("a")), api.OK)
	s.Fall(api.Plan{})
	shows(t, "16: as before", s, 1, full("\x00"))
	must(t, "16: Write", s.Write(1, full("a")), api.OK)
	must(t, "16: Sync", s.Sync(), api.OK)
	must(t, "16: Write", s.Write(1, full("b")), api.OK)
	s.Fall(api.Plan{})
	shows(t, "16: as before", s, 1, full("a"))
}

// TestKeep: 16.2, the first Keep of three that are loose, modulo 4; below 0 none. The fourth block is not written.
func TestKeep(t *testing.T) {
	for keep, want := range map[int]string{
		math.MinInt: "sss", -5: "sss", -4: "sss", -3: "sss", -1: "sss", 0: "sss", 1: "ass", 2: "abs", 3: "abc", 4: "sss", 5: "ass", 6: "abs", 7: "abc", 8: "sss", 1 << 32: "sss", 1<<32 + 3: "abc", math.MaxInt - 1: "abs", math.MaxInt: "abc",
	} {
		for _, torn := range []int{math.MinInt, -34, -33, -32, -1, 0, 33, 66, 33 << 40} {
			s := strip.New(api.Plan{Blocks: 4})
			for i := range 4 {
				s.Write(i, full("s"))
			}
			s.Sync()
			for i, c := range []string{"a", "b", "c"} {
				s.Write(i, full(c))
			}
			s.Fall(api.Plan{Keep: keep, Torn: torn})
			for i, c := range want + "s" {
				shows(t, "16.2: Keep", s, i, full(string(c)))
			}
			if s.Down() || s.Loose() != 0 {
				t.Error("16.2: behind Fall", keep, torn)
			}
		}
	}
}

// TestTorn: 16.2, of the next one the first Torn bytes, modulo 33; below 0 none. None of the others.
func TestTorn(t *testing.T) {
	for torn, n := range map[int]int{
		math.MinInt: 0, -33: 0, -32: 0, -1: 0, 0: 0, 1: 1, 2: 2, 16: 16, 30: 30, 31: 31, 32: 32, 33: 0, 34: 1, 64: 31, 65: 32, 66: 0, 33<<32 + 5: 5, math.MaxInt - 7: 0, math.MaxInt - 8: 32, math.MaxInt: 7,
	} {
		for keep := range 5 {
			s := strip.New(api.Plan{Blocks: 5})
			for i := range 5 {
				s.Write(i, counted(byte(10*i)))
			}
			s.Sync()
			for i := range 4 {
				s.Write(i, counted(byte(100+10*i)))
			}
			s.Fall(api.Plan{Keep: keep, Torn: torn})
			for i := range 5 {
				was, now := counted(byte(10*i)), counted(byte(100+10*i))
				want := was
				if i < keep {
					want = now
				}
				if i == keep {
					want = now[:n] + was[n:]
				}
				if i == 4 {
					want = was
				}
				shows(t, "16.2: Torn", s, i, want)
			}
		}
	}
}

// TestOneBlock: 16.2, several loose changes of one block: of the next one's first bytes, behind them those that the ones ahead of it left.
func TestOneBlock(t *testing.T) {
	texts := []string{counted(0), full("a"), full("b"), full("a"), counted(200), full("\x00")}
	for keep := range len(texts) {
		for torn := range 33 {
			s := strip.New(api.Plan{Blocks: 2})
			s.Write(1, texts[0])
			s.Sync()
			for _, b := range texts[1:] {
				s.Write(1, b)
			}
			s.Fall(api.Plan{Keep: keep, Torn: torn})
			want := texts[keep]
			if keep+1 < len(texts) {
				want = texts[keep+1][:torn] + want[torn:]
			}
			shows(t, "16.2: of one block", s, 1, want)
			shows(t, "16.2: another one", s, 0, full("\x00"))
		}
	}
}

// TestWovenBlocks: 16.2, changes of two blocks, one's between the other's, each Keep and each Torn.
func TestWovenBlocks(t *testing.T) {
	steps := []step{write(0, counted(1)), write(1, counted(50)), sync(), write(0, full("a")), write(1, full("b")), write(1, counted(90)), write(0, counted(150)), write(1, full("c")), write(0, full("d"))}
	for keep := -2; keep < 16; keep++ {
		for torn := -2; torn < 70; torn++ {
			same(t, api.Plan{Blocks: 2}, append(steps, fall(keep, torn, 0), fall(keep, torn, 0), write(0, full("z")), fall(keep, torn, 1), sync())...)
		}
	}
}

// TestFallEdges: 16.2, each Keep beside each Torn, of so many that are loose, up and down.
func TestFallEdges(t *testing.T) {
	for n := range 5 {
		for _, down := range []bool{false, true} {
			for _, keep := range edges() {
				for _, torn := range edges() {
					var steps []step
					for i := range n {
						steps = append(steps, write(i%3, counted(byte(40*i))))
					}
					if down {
						steps = append(steps, tear(1), sync())
					}
					same(t, api.Plan{Blocks: 3}, append(steps, fall(keep, torn, 2), write(1, full("x")), sync(), fall(keep, torn, 0))...)
				}
			}
		}
	}
}

// TestFallBlocks: 16.1, a Fall changes nothing of how many blocks there are, nor of their bytes, whatever its plan's Blocks.
func TestFallBlocks(t *testing.T) {
	for _, blocks := range append(edges(), 4, 5, 6) {
		s := strip.New(api.Plan{Blocks: 5})
		for i := range 5 {
			s.Write(i, counted(byte(i)))
		}
		s.Sync()
		for range 2 {
			s.Fall(api.Plan{Blocks: blocks})
			if s.Size() != 5 {
				t.Fatal("16.1: Blocks of Fall's plan", blocks, s.Size())
			}
			for i := range 5 {
				shows(t, "16.1: behind Fall", s, i, counted(byte(i)))
			}
			if b, e := s.Read(5); b != "" || e != api.ErrArg {
				t.Error("16.1: behind Fall", b, e)
			}
			must(t, "16.1: behind Fall", s.Write(5, full("a")), api.ErrArg)
			must(t, "16.1: behind Fall", s.Write(4, counted(4)), api.OK)
		}
	}
}

// TestFallUp: 16.2, it needs not be down to fall; what falls is gone for good, what is done stays for good.
func TestFallUp(t *testing.T) {
	s := strip.New(api.Plan{Blocks: 3})
	s.Write(0, full("a"))
	s.Write(1, full("b"))
	s.Write(2, full("c"))
	s.Fall(api.Plan{Keep: 1, Torn: 4})
	for range 3 {
		shows(t, "16.2: done", s, 0, full("a"))
		shows(t, "16.2: torn", s, 1, "bbbb"+full("\x00")[4:])
		shows(t, "16.2: gone", s, 2, full("\x00"))
		if s.Loose() != 0 || s.Down() {
			t.Error("16.2: behind Fall", s.Loose())
		}
		s.Fall(api.Plan{})
		shows(t, "16.2: done, and fallen again", s, 0, full("a"))
		s.Fall(api.Plan{Keep: 1, Torn: 31})
		must(t, "16.1: Sync", s.Sync(), api.OK)
	}
}

// TestSynced: 16.3, what was synced stays, wherever the strip falls, and with whatever plan; a block that was not written since is as it was.
func TestSynced(t *testing.T) {
	steps := []step{write(0, counted(1)), write(1, counted(2)), sync(), write(2, counted(3)), write(0, counted(4)), sync(), sync(), write(0, counted(5)), write(3, counted(6)), write(0, counted(7)), sync(), write(1, counted(8))}
	for crash := range len(steps) + 2 {
		for _, keep := range edges() {
			for _, torn := range edges() {
				s := strip.New(api.Plan{Blocks: 4, Crash: crash})
				now, synced := map[int]string{}, map[int]string{}
				for _, x := range steps {
					if x.of(s) != api.OK {
						break
					}
					if x.what == "w" {
						now[x.i] = x.b
						continue
					}
					for i, b := range now {
						synced[i] = b
					}
				}
				loose := s.Loose()
				s.Fall(api.Plan{Keep: keep, Torn: torn})
				for i, b := range synced {
					if now[i] == b {
						shows(t, "16.3: what was synced, and not written since", s, i, b)
					}
					if keep <= 0 && (torn <= 0 || torn%33 == 0) || loose == 0 {
						shows(t, "16.3: what was synced, and none is kept", s, i, b)
					}
				}
			}
		}
	}
}
