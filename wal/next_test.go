package wal

import (
	"slices"
	"strings"
	"testing"

	"brook/api"
	"brook/strip"
)

// TestNext: the ways of chapter 17, where the next record goes belongs to the Wal: it moves by what is kept, and by nothing else.
func TestNext(t *testing.T) {
	s := strip.New(api.Plan{Blocks: 100})
	w, _ := Open(s)
	other, _ := Open(strip.New(api.Plan{Blocks: 100}))
	first := w.next.Load()
	second := first + int64(w.half())
	for i, c := range []struct {
		call func()
		next int64
	}{
		{func() {}, first}, {func() { w.Append("a") }, first + 8}, {func() { w.Append("", "bcd") }, first + 25}, {func() { w.Append() }, first + 25}, {func() { w.Records() }, first + 25}, {func() { other.Append("e") }, first + 25},
		{func() { w.Append(string(make([]byte, 9999))) }, first + 25}, {func() { w.Checkpoint(string(make([]byte, api.MaxSize+1))) }, first + 25}, {func() { w.Checkpoint("f") }, second + 8}, {func() { w.Append("g") }, second + 16}, {func() { w.Checkpoint() }, first}, {func() { w.Checkpoint() }, first}, {func() { w.Append("h") }, first + 8},
	} {
		c.call()
		if w.next.Load() != c.next {
			t.Error("17: the next one behind call", i, w.next.Load(), c.next)
		}
	}
	if x, _ := Open(s); x.next.Load() != first+8 || other.next.Load() != first+8 {
		t.Error("17: the next one, opened anew, or of another one")
	}
}

// TestNextAsked: the ways of chapter 17, where a record goes is told by that.
func TestNextAsked(t *testing.T) {
	s := strip.New(api.Plan{Blocks: 100})
	w, _ := Open(s)
	w.next.Add(block)
	if w.Append("abc") != api.OK {
		t.Error("17.1: Append")
	}
	for i, want := range map[int]string{start / block: string(make([]byte, block)), start/block + 1: number(3) + "abc" + string(make([]byte, block-digits-3))} {
		if b, _ := s.Read(i); b != want {
			t.Errorf("17: the next one stands not where it goes: %d: %q", i, b)
		}
	}
}

// TestKept: R8, what is kept is the records that there are, and no others.
func TestKept(t *testing.T) {
	s := strip.New(api.Plan{Blocks: 1000})
	w, _ := Open(s)
	for range 100 {
		w.Append("a", "b", "c")
	}
	w.Checkpoint("d")
	if !slices.Equal(w.records, []string{"d"}) || cap(w.records) > 8 {
		t.Error("17.1: records kept", len(w.records), cap(w.records))
	}
	w.Checkpoint()
	if len(w.records) != 0 || cap(w.records) != 0 {
		t.Error("17.1: records kept", len(w.records), cap(w.records))
	}
}

// TestNumbers: numbers of so many bytes are told back, and stand as bytes, the lowest one first.
func TestNumbers(t *testing.T) {
	for _, n := range []int{0, 1, 127, 128, 255, 256, 257, 65535, 65536, 1 << 20, 1<<24 - 1, 1 << 31, 1<<32 + 5, 1 << 48, 1<<56 - 1} {
		if b := number(n); len(b) != digits || value(b) != n || value(b+"\xff") != n || b[0] != byte(n) {
			t.Errorf("17: number %d: %q, %d", n, b, value(b))
		}
	}
}

// TestHeads: a head that was torn is not whole, and the other one counts; of two that are whole the later one does, be its lowest byte greater or not.
func TestHeads(t *testing.T) {
	const half = 99 * block
	for turn := 1; turn < 600; turn++ {
		was, last, now := head{turn - 2, start, start + turn}, head{turn - 1, start + half, start + half + turn}, head{turn, start, start + 3*turn}
		if turn == 1 {
			was, last = head{}, none()
		}
		for torn := range block + 1 {
			s := strip.New(api.Plan{Blocks: 200})
			if turn > 2 {
				s.Write((turn-2)%heads, was.text())
			}
			if turn > 1 {
				s.Write((turn-1)%heads, last.text())
			}
			s.Sync()
			s.Write(turn%heads, now.text())
			s.Fall(api.Plan{Torn: torn, Keep: torn / block})
			want := last
			if torn == block {
				want = now
			}
			if h, e := latest(s, half); h != want || e != api.OK {
				t.Fatal("17.2: the head that counts", turn, torn, h, want, e)
			}
		}
	}
}

// TestForeignHeads: R1, a head that may not be, in blocks that are not the layer's own, does not count: the strip is as a new one, and what is kept there is held.
func TestForeignHeads(t *testing.T) {
	const blocks, half = 12, 5 * block
	seen := map[bool]int{}
	places := []int{0, 1, start - 1, start, start + 1, start + half - 1, start + half, start + half + 1, start + 2*half - 1, start + 2*half, start + 2*half + 1, start + 3*half, 1 << 31, 1<<56 - 1}
	for _, first := range places {
		for _, next := range places {
			h := head{4, first, next}
			may := (first == start || first == start+half) && next-first >= 0 && next-first <= half
			if seen[may]++; h.may(half) != may {
				t.Error("17: a head that may be, or not", h, !may)
			}
			s := strip.New(api.Plan{Blocks: blocks})
			s.Write(0, h.text())
			for i := range (first + next) % 3 * 5 {
				// Lengths that are longer than all that there is.
				s.Write(heads+i, strings.Repeat("\xff", block-i)+string(make([]byte, i)))
			}
			s.Sync()
			w, e := Open(s)
			if e != api.OK {
				t.Fatal("17.1: Open", h, e)
			}
			w.Append("a")
			w.Checkpoint("b", "c")
			w.Append("d")
			if may {
				continue
			}
			for range 2 {
				if l := w.Records(); !slices.Equal(l, []string{"b", "c", "d"}) {
					t.Error("17.1: behind a head that may not be", h, l)
				}
				w, _ = Open(s)
			}
		}
	}
	if seen[true] == 0 || seen[false] == 0 {
		t.Error("17: the test's own heads", seen)
	}
}
