package wal_test

import (
	"slices"
	"strings"
	"testing"
	"unsafe"

	"brook/api"
	"brook/strip"
)

// texts makes texts that stand in memory of the test's own.
func texts(mine []byte, n int) []string {
	var l []string
	for i := 0; i+n <= len(mine); i += n {
		l = append(l, unsafe.String(&mine[i], n))
	}
	return l
}

// spoiled writes into the memory of texts.
func spoiled(l []string) {
	for _, s := range l {
		for i := range unsafe.Slice(unsafe.StringData(s), len(s)) {
			unsafe.Slice(unsafe.StringData(s), len(s))[i] = '#'
		}
	}
}

// clones makes texts that share no memory with l.
func clones(l []string) []string {
	var all []string
	for _, s := range l {
		all = append(all, strings.Clone(s))
	}
	return all
}

// TestHandedIn: R3, what is handed in is neither changed nor kept: its list and its texts may be written to behind the call.
func TestHandedIn(t *testing.T) {
	for _, n := range []int{1, 8, 32, 40} {
		for _, check := range []bool{false, true} {
			s, w := fresh(t, 300)
			must(t, "17.1: Append", w.Append("a"), api.OK)
			mine := []byte(counted(400, 0))
			c := call{check, texts(mine, n)}
			was := clones(c.l)
			c.l = append(c.l[:len(c.l):len(c.l)+0], "spare")[:len(c.l)]
			must(t, "17.1: "+c.String(), c.of(w), api.OK)
			if string(mine) != counted(400, 0) || !slices.Equal(c.l, was) || c.l[:len(c.l)+1][len(c.l)] != "spare" {
				t.Error("R3: what was handed in is changed")
			}
			want := call{check, was}.behind([]string{"a"})
			clear(mine)
			c.l[0], c.l[:len(c.l)+1][len(c.l)] = "other", "other"
			holds(t, "R3: what was handed in is kept", w, s, want)
		}
	}
}

// TestRefusedIn: R3, what is handed in to a call that is refused is neither changed nor kept.
func TestRefusedIn(t *testing.T) {
	s, w := fresh(t, 100)
	must(t, "17.1: Append", w.Append("a"), api.OK)
	for _, more := range []string{strings.Repeat("x", 4000), strings.Repeat("x", 1<<20+1), ""} {
		mine := []byte(counted(40, 0))
		l := append(texts(mine, 10), more)
		was := clones(l)
		if more == "" {
			s.Tear(3)
		}
		for _, check := range []bool{false, true} {
			if (call{check, l}).of(w) == api.OK {
				t.Error("17.1: it is not refused", check)
			}
		}
		if string(mine) != counted(40, 0) || !slices.Equal(l, was) {
			t.Error("R3: what was handed in is changed")
		}
		clear(mine)
		shows(t, "R3: what was refused", w, []string{"a"})
	}
}

// TestTold: R3, what is told is new memory, its texts and its spare room, too: whoever writes into it changes nothing that is kept, nor what else was told.
func TestTold(t *testing.T) {
	for _, blocks := range []int{100, 400} {
		s, w := fresh(t, blocks)
		want := []string{"a", counted(40, 0), "", counted(40, 0), "b"}
		must(t, "17.1: Append", w.Append(want[:2]...), api.OK)
		must(t, "17.1: Append", w.Append(want[2:]...), api.OK)
		for range 3 {
			first, second := w.Records(), w.Records()
			spoiled(first[1:2])
			if first[3] != want[3] {
				t.Error("R3: two texts of one answer share memory")
			}
			spoiled(first)
			first[0], first[4] = "x", "y"
			_ = append(first[:2], "z", "z", "z", "z", "z", "z", "z", "z")
			if !slices.Equal(second, want) {
				t.Error("R3: two answers share memory", brief(second))
			}
			shows(t, "R3: what was told is kept", w, want)
			w = holds(t, "R3: what was told is kept", w, s, want)
		}
		// What was told stays, whatever is done behind it.
		told := w.Records()
		told = told[:len(told):cap(told)]
		must(t, "17.1: Append", w.Append("c"), api.OK)
		for _, x := range told[len(told):cap(told)] {
			if x != "" {
				t.Error("R3: spare room holds what was kept", x)
			}
		}
		must(t, "17.1: Checkpoint", w.Checkpoint("d"), api.OK)
		must(t, "17.1: Checkpoint", w.Checkpoint("e"), api.OK)
		if !slices.Equal(told, want) {
			t.Error("R3: what was told is changed", brief(told))
		}
	}
}

// TestToldIn: R3, what was told may be handed in.
func TestToldIn(t *testing.T) {
	s, w := fresh(t, 300)
	must(t, "17.1: Append", w.Append("a", counted(20, 0), "b"), api.OK)
	told := w.Records()
	must(t, "17.1: Checkpoint", w.Checkpoint(told[1:]...), api.OK)
	must(t, "17.1: Append", w.Append(told...), api.OK)
	if !slices.Equal(told, []string{"a", counted(20, 0), "b"}) {
		t.Error("R3: what was handed in is changed", told)
	}
	spoiled(told[1:2])
	holds(t, "R3: what was told, and handed in", w, s, []string{counted(20, 0), "b", "a", counted(20, 0), "b"})
}

// TestEnds: R1, very many calls and records, and very long ones, end in no long time.
func TestEnds(t *testing.T) {
	s, w := fresh(t, 1<<16)
	for i := range 60000 {
		must(t, "17.3: Append", w.Append("r"), api.OK)
		if i%20000 == 19999 {
			must(t, "17.3: Checkpoint", w.Checkpoint("a"), api.OK)
		}
	}
	long := strings.Repeat("x", 1<<20)
	many := slices.Repeat([]string{long}, 1<<10-1)
	for range 50 {
		must(t, "17.1: very long ones", w.Append(many...), api.ErrFull)
		must(t, "17.1: very long ones", w.Checkpoint(many...), api.ErrFull)
		must(t, "17.1: one too long", w.Append(append(many, long+"x")...), api.ErrLarge)
	}
	none := make([]string, 1<<22)
	for range 20 {
		must(t, "17.1: very many", w.Append(none...), api.ErrFull)
		must(t, "17.1: very many", w.Checkpoint(none...), api.ErrFull)
	}
	must(t, "17.3: Checkpoint", w.Checkpoint("b", strings.Repeat("y", 1<<18)), api.OK)
	for range 100 {
		open(t, s)
	}
	holds(t, "17.1: at the end", w, s, []string{"b", strings.Repeat("y", 1<<18)})
	full := strip.New(api.Plan{Blocks: 1 << 16, Crash: 0})
	x := open(t, full)
	for range 40 {
		must(t, "17.1: Checkpoint", x.Checkpoint(strings.Repeat("z", 1<<19-576)), api.OK)
		must(t, "17.1: Checkpoint", x.Checkpoint(), api.OK)
	}
}
