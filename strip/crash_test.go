package strip_test

import (
	"math"
	"testing"

	"brook/api"
	"brook/strip"
)

// TestCrash: 16.1, the change of the number Crash, be it a Write or a Sync, is not done, and it is down behind it.
func TestCrash(t *testing.T) {
	steps := []step{write(0, full("a")), write(1, full("b")), sync(), write(0, full("c")), sync(), sync(), write(1, full("d")), write(0, full("e"))}
	for crash := 1; crash <= len(steps)+1; crash++ {
		s := strip.New(api.Plan{Blocks: 2, Crash: crash})
		for k, x := range steps {
			loose := s.Loose()
			want := api.OK
			if k+1 >= crash {
				want = api.ErrDown
			}
			must(t, "16.1: "+x.String(), x.of(s), want)
			if s.Down() != (k+1 >= crash) || s.Down() && s.Loose() != loose {
				t.Error("16.1: Down", crash, k, s.Down(), s.Loose())
			}
		}
		same(t, api.Plan{Blocks: 2, Crash: crash}, append(steps, fall(99, 32, 0), sync())...)
	}
}

// TestNotDone: 16.1, the Write that was not done is not among those that are loose, and a Sync that was not done leaves them loose.
func TestNotDone(t *testing.T) {
	s := strip.New(api.Plan{Blocks: 2, Crash: 2})
	must(t, "16.1: Write", s.Write(0, full("a")), api.OK)
	must(t, "16.1: Write", s.Write(1, full("b")), api.ErrDown)
	if s.Loose() != 1 || !s.Down() {
		t.Error("16.1: Loose", s.Loose())
	}
	// Were it loose, it would be the next one.
	s.Fall(api.Plan{Keep: 1, Torn: 32, Crash: 2})
	shows(t, "16.2: done", s, 0, full("a"))
	shows(t, "16.1: not done", s, 1, full("\x00"))
	must(t, "16.1: Write", s.Write(0, full("c")), api.OK)
	must(t, "16.1: Sync", s.Sync(), api.ErrDown)
	if s.Loose() != 1 || !s.Down() {
		t.Error("16.1: Loose", s.Loose())
	}
	s.Fall(api.Plan{})
	shows(t, "16.1: not synced", s, 0, full("a"))
}

// TestNever: 16.1, Crash below 1, or far away: never.
func TestNever(t *testing.T) {
	for _, crash := range []int{math.MinInt, math.MinInt + 1, -1 << 32, -300, -2, -1, 0, 1<<16 + 1, 1 << 31, 1<<32 + 1, 1 << 53, math.MaxInt} {
		for _, how := range []string{"New", "Tear", "Fall"} {
			s := strip.New(api.Plan{Blocks: 2, Crash: crash})
			switch how {
			case "Tear":
				s = strip.New(api.Plan{Blocks: 2, Crash: 1})
				s.Tear(crash)
			case "Fall":
				s = strip.New(api.Plan{Blocks: 2, Crash: 1})
				s.Fall(api.Plan{Crash: crash})
			}
			for i := range 1000 {
				must(t, "16.1: Write", s.Write(i%2, full("a")), api.OK)
				must(t, "16.1: Sync", s.Sync(), api.OK)
			}
			if s.Down() {
				t.Error("16.1: Crash", crash, how)
			}
		}
	}
}

// TestFar: 16.1, one far away comes when it is its turn, not ahead of it.
func TestFar(t *testing.T) {
	for _, crash := range []int{127, 128, 255, 256, 257, 999, 1 << 16, 1<<16 + 1, 1<<17 + 3} {
		for _, each := range []int{1, 2, 7} {
			s := strip.New(api.Plan{Blocks: 3, Crash: crash})
			for n := 1; n < crash; n++ {
				e := s.Sync
				if n%each != 0 {
					e = func() api.Errno { return s.Write(n%3, full("w")) }
				}
				if e() != api.OK || s.Down() {
					t.Fatal("16.1: ahead of Crash", crash, n)
				}
			}
			must(t, "16.1: of the number Crash", s.Write(0, full("z")), api.ErrDown)
			if !s.Down() {
				t.Error("16.1: Down", crash)
			}
		}
	}
}

// TestCounted: 16.1, what counts is a Write or a Sync without an error, and nothing else.
func TestCounted(t *testing.T) {
	none := map[string]func(s *strip.Strip){
		"nothing":         func(*strip.Strip) {},
		"Read":            func(s *strip.Strip) { s.Read(0); s.Read(2); s.Read(-1) },
		"Size":            func(s *strip.Strip) { s.Size() },
		"Loose":           func(s *strip.Strip) { s.Loose() },
		"Down":            func(s *strip.Strip) { s.Down() },
		"no such block":   func(s *strip.Strip) { s.Write(2, full("x")); s.Write(-1, full("x")) },
		"a wrong length":  func(s *strip.Strip) { s.Write(0, ""); s.Write(1, full("x")[1:]) },
		"33 bytes":        func(s *strip.Strip) { s.Write(0, full("x")+"x") },
		"both":            func(s *strip.Strip) { s.Write(9, "x") },
		"a Write of nil":  func(*strip.Strip) { (*strip.Strip)(nil).Write(0, full("x")) },
		"another's Write": func(*strip.Strip) { strip.New(api.Plan{Blocks: 2}).Write(0, full("x")) },
		"another's Sync":  func(*strip.Strip) { strip.New(api.Plan{Blocks: 2, Crash: 1}).Sync() },
		"another's Tear":  func(*strip.Strip) { strip.New(api.Plan{Blocks: 2}).Tear(1) },
		"another's Fall":  func(*strip.Strip) { strip.New(api.Plan{Blocks: 2}).Fall(api.Plan{Crash: 1}) },
	}
	for what, call := range none {
		for crash := 1; crash < 5; crash++ {
			s := strip.New(api.Plan{Blocks: 2, Crash: crash})
			for n := 1; n < crash; n++ {
				call(s)
				if n%2 == 0 {
					must(t, "16.1: Sync behind "+what, s.Sync(), api.OK)
					continue
				}
				must(t, "16.1: Write behind "+what, s.Write(1, full("a")), api.OK)
			}
			call(s)
			if s.Down() {
				t.Error("16.1: down by", what)
			}
			must(t, "16.1: behind "+what, s.Sync(), api.ErrDown)
		}
	}
}

// TestWrongAtCrash: 16.1, a Write that is wrong is not the one of the number Crash: it is ErrArg, and the strip stays up.
func TestWrongAtCrash(t *testing.T) {
	s := strip.New(api.Plan{Blocks: 2, Crash: 1})
	for range 5 {
		must(t, "16.1: no such block", s.Write(2, full("a")), api.ErrArg)
		must(t, "16.1: a wrong length", s.Write(1, "a"), api.ErrArg)
		if s.Down() {
			t.Error("16.1: down by a wrong Write")
		}
	}
	must(t, "16.1: Write", s.Write(1, full("a")), api.ErrDown)
	must(t, "16.1: no such block", s.Write(2, full("a")), api.ErrDown)
}

// TestTear: 16.1, counted from now on, Crash is n, behind some that were counted, and some that are loose.
func TestTear(t *testing.T) {
	for ahead := range 4 {
		for _, crash := range []int{-1, 0, 4, 5, 9} {
			for n := -1; n < 5; n++ {
				steps := []step{}
				for i := range ahead {
					steps = append(steps, []step{write(0, counted(byte(i))), write(1, full("b")), sync()}[i%3])
				}
				steps = append(steps, tear(n), write(0, full("c")), write(9, full("c")), sync(), write(1, full("d")), sync(), sync(), fall(1, 3, 2), sync(), write(0, full("e")), sync())
				same(t, api.Plan{Blocks: 2, Crash: crash}, steps...)
			}
		}
	}
	// The count, not the number, begins anew.
	s := strip.New(api.Plan{Blocks: 1, Crash: 3})
	for range 10 {
		must(t, "16.1: Sync", s.Sync(), api.OK)
		must(t, "16.1: Sync", s.Sync(), api.OK)
		s.Tear(3)
	}
	must(t, "16.1: Sync", s.Sync(), api.OK)
	must(t, "16.1: Sync", s.Sync(), api.OK)
	must(t, "16.1: Sync", s.Sync(), api.ErrDown)
}

// TestTearStays: 16.1, Tear turns neither the blocks nor what is loose; the last one counts.
func TestTearStays(t *testing.T) {
	s := strip.New(api.Plan{Blocks: 2})
	s.Write(0, full("a"))
	for _, n := range append(edges(), 2) {
		s.Tear(n)
		shows(t, "16.1: behind Tear", s, 0, full("a"))
		if s.Loose() != 1 || s.Down() || s.Size() != 2 {
			t.Error("16.1: behind Tear", n, s.Loose())
		}
	}
	must(t, "16.1: the first behind Tear", s.Write(0, full("b")), api.OK)
	must(t, "16.1: the second behind Tear", s.Write(0, full("c")), api.ErrDown)
}

// TestTearDown: 16.1, Tear brings nothing up; behind it a Fall's plan counts.
func TestTearDown(t *testing.T) {
	for _, n := range edges() {
		s := strip.New(api.Plan{Blocks: 2, Crash: 2})
		s.Write(0, full("a"))
		s.Sync()
		s.Tear(n)
		if !s.Down() || s.Loose() != 1 {
			t.Error("16.1: Tear while it is down", n)
		}
		must(t, "16.1: Sync", s.Sync(), api.ErrDown)
		must(t, "16.1: Write", s.Write(0, full("b")), api.ErrDown)
		if b, e := s.Read(0); b != "" || e != api.ErrDown {
			t.Error("16.1: Read", b, e)
		}
		s.Fall(api.Plan{Crash: 3})
		must(t, "16.2: the first", s.Sync(), api.OK)
		must(t, "16.2: the second", s.Sync(), api.OK)
		must(t, "16.2: the third", s.Sync(), api.ErrDown)
	}
}

// TestCrashOfFall: 16.2, Crash is the Fall's plan's, counted from the Fall on, not the one of New, nor that of Tear.
func TestCrashOfFall(t *testing.T) {
	for ahead := range 4 {
		for _, first := range []int{0, 3, 4, 5} {
			for crash := -1; crash < 5; crash++ {
				var steps []step
				for range ahead {
					steps = append(steps, write(1, full("a")))
				}
				for _, more := range [][]step{{}, {tear(2)}, {tear(1), sync()}} {
					l := append(append([]step{}, steps...), more...)
					same(t, api.Plan{Blocks: 2, Crash: first}, append(l, fall(0, 0, crash), write(0, full("c")), sync(), write(5, ""), write(0, full("c")), sync(), sync())...)
				}
			}
		}
	}
}
