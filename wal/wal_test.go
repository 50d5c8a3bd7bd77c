package wal_test

import (
	"fmt"
	"math"
	"slices"
	"strings"
	"testing"

	"brook/api"
	"brook/strip"
	"brook/wal"
)

// must hands over what a call told that must be right.
func must(t *testing.T, what string, got, want api.Errno) {
	t.Helper()
	if got != want {
		t.Errorf("%s: %d, not %d", what, got, want)
	}
}

// open opens a strip that must open.
func open(t *testing.T, s *strip.Strip) *wal.Wal {
	t.Helper()
	w, e := wal.Open(s)
	if w == nil || e != api.OK {
		t.Fatalf("17.1: Open: %d", e)
	}
	return w
}

// fresh makes a new strip, and opens it.
func fresh(t *testing.T, blocks int) (*strip.Strip, *wal.Wal) {
	t.Helper()
	s := strip.New(api.Plan{Blocks: blocks})
	return s, open(t, s)
}

// brief tells records in few letters.
func brief(l []string) string {
	s := fmt.Sprint(len(l), ":")
	for _, x := range l {
		if len(x) > 20 {
			x = fmt.Sprint(x[:20], "..", len(x))
		}
		s += fmt.Sprintf(" %q", x)
	}
	return s
}

// shows asks for all records.
func shows(t *testing.T, what string, w *wal.Wal, want []string) {
	t.Helper()
	if got := w.Records(); !slices.Equal(got, want) {
		t.Errorf("%s: %s, not %s", what, brief(got), brief(want))
	}
}

// holds asks for all records of a Wal, and of the strip opened anew, fallen with nothing kept, and opened once more. It tells the last Wal.
func holds(t *testing.T, what string, w *wal.Wal, s *strip.Strip, want []string) *wal.Wal {
	t.Helper()
	shows(t, what, w, want)
	if s.Loose() != 0 {
		t.Errorf("%s: %d changes are loose", what, s.Loose())
	}
	shows(t, what+", opened anew", open(t, s), want)
	s.Fall(api.Plan{})
	x := open(t, s)
	shows(t, what+", fallen", x, want)
	return x
}

// bytesOf tells all bytes of a strip.
func bytesOf(s *strip.Strip) string {
	var all strings.Builder
	for i := range s.Size() {
		b, _ := s.Read(i)
		all.WriteString(b)
	}
	return all.String()
}

// twin makes a strip of the same bytes.
func twin(bytes string) *strip.Strip {
	s := strip.New(api.Plan{Blocks: len(bytes) / 32})
	for i := range s.Size() {
		s.Write(i, bytes[32*i:32*i+32])
	}
	s.Sync()
	return s
}

// call is an Append or a Checkpoint.
type call struct {
	check bool
	l     []string
}

func appended(l ...string) call { return call{false, l} }

func checked(l ...string) call { return call{true, l} }

func (c call) of(w *wal.Wal) api.Errno {
	if c.check {
		return w.Checkpoint(c.l...)
	}
	return w.Append(c.l...)
}

// behind tells all records behind the call.
func (c call) behind(ahead []string) []string {
	if c.check {
		return slices.Clone(c.l)
	}
	return slices.Concat(ahead, c.l)
}

func (c call) String() string {
	if c.check {
		return "Checkpoint " + brief(c.l)
	}
	return "Append " + brief(c.l)
}

// counted makes n bytes that differ from those about them.
func counted(n int, first byte) string {
	b := make([]byte, n)
	for i := range b {
		b[i] = first + byte(i) + byte(i>>8)
	}
	return string(b)
}

// lists are of no records, of one, of several, of those about the bytes of a block, of whatever bytes.
func lists() [][]string {
	l := [][]string{
		nil, {}, {"a"}, {""}, {"", ""}, {"b", "", "c"}, {"", "d"}, {"e", ""}, {"f", "f", "f"}, {"\x00"}, {"\x00\x00", "\xff", "\x00\xff\x80"},
		{"é", "\xc3", "\xed\xa0\x80", "\n\r\t"}, {strings.Repeat("\x00", 64)}, {strings.Repeat("\xff", 65), ""}, {strings.Repeat("x", 3000)}, {counted(255, 0), counted(256, 1), counted(257, 2)}, {counted(1000, 7), "g", counted(500, 9)}, slices.Repeat([]string{""}, 20), slices.Repeat([]string{"hi"}, 20),
	}
	for n := range 70 {
		l = append(l, []string{counted(n, byte(n))}, []string{counted(n, 3), "i", counted(n, 5)})
	}
	return l
}

// TestExample: the chapter's example: Records of a new strip: none.
func TestExample(t *testing.T) {
	_, w := fresh(t, 100)
	if len(w.Records()) != 0 {
		t.Error("17: a new strip", w.Records())
	}
}

// TestOpenNew: 17.1, a new strip has no records, however many blocks it has; opened again and again it has none, and nothing of it is changed.
func TestOpenNew(t *testing.T) {
	for _, blocks := range []int{-1, 0, 1, 2, 3, 4, 5, 6, 7, 63, 64, 65, 72, 400, 1<<16 - 1, 1 << 16, math.MaxInt} {
		s := strip.New(api.Plan{Blocks: blocks})
		for range 3 {
			w := open(t, s)
			if l := w.Records(); len(l) != 0 {
				t.Error("17.1: a new strip", blocks, brief(l))
			}
			must(t, "17.1: Append of nothing", w.Append(), api.OK)
			must(t, "17.1: Checkpoint of nothing", w.Checkpoint(), api.OK)
			s.Fall(api.Plan{})
		}
		if strings.Trim(bytesOf(s), "\x00") != "" {
			t.Error("17.1: nothing was kept", blocks)
		}
	}
}

// TestOpenError: 17.1, the strip's error, and then no Wal.
func TestOpenError(t *testing.T) {
	if w, e := wal.Open(nil); w != nil || e != api.ErrNone {
		t.Error("17.1: Open of no strip", w, e)
	}
	for _, blocks := range []int{0, 1, 2, 5, 400} {
		s := strip.New(api.Plan{Blocks: blocks, Crash: 1})
		s.Sync()
		for range 2 {
			if w, e := wal.Open(s); w != nil || e != api.ErrDown {
				t.Error("17.1: Open of one that is down", blocks, w, e)
			}
		}
		s.Fall(api.Plan{})
		if len(open(t, s).Records()) != 0 {
			t.Error("17.1: behind the fall", blocks)
		}
	}
}

// TestAppend: 17.1, l stand behind all, in order and whole, and so they do opened anew.
func TestAppend(t *testing.T) {
	for _, first := range append(lists()[:16], nil) {
		for _, second := range lists() {
			s, w := fresh(t, 600)
			must(t, "17.1: Append", w.Append(first...), api.OK)
			must(t, "17.1: Append", w.Append(second...), api.OK)
			must(t, "17.1: Append", w.Append(), api.OK)
			must(t, "17.1: Append", w.Append("last"), api.OK)
			holds(t, "17.1: Append", w, s, slices.Concat(first, second, []string{"last"}))
		}
	}
}

// TestCheckpoint: 17.1, l are all, whatever was there; behind them others are appended.
func TestCheckpoint(t *testing.T) {
	for _, first := range append(lists()[:16], nil) {
		for _, second := range lists() {
			s, w := fresh(t, 900)
			must(t, "17.1: Append", w.Append(first...), api.OK)
			must(t, "17.1: Checkpoint", w.Checkpoint(second...), api.OK)
			w = holds(t, "17.1: Checkpoint", w, s, second)
			must(t, "17.1: Append", w.Append(first...), api.OK)
			w = holds(t, "17.1: Append behind a Checkpoint", w, s, slices.Concat(second, first))
			must(t, "17.1: Checkpoint", w.Checkpoint(first...), api.OK)
			holds(t, "17.1: Checkpoint behind a Checkpoint", w, s, first)
		}
	}
}

// TestRows: 17.1, 17.4, all rows of four calls, in one Wal, and each call of a Wal opened anew.
func TestRows(t *testing.T) {
	all := []call{appended(), appended("a"), appended("", counted(40, 1)), appended("b", "c"), checked(), checked("d"), checked("e", counted(25, 2), "")}
	rows := [][]call{nil}
	for range 4 {
		var longer [][]call
		for _, row := range rows {
			for _, c := range all {
				longer = append(longer, append(slices.Clone(row), c))
			}
		}
		rows = longer
	}
	for _, row := range rows {
		s, w := fresh(t, 200)
		o, x := fresh(t, 200)
		var want []string
		for _, c := range row {
			must(t, "17.1: "+c.String(), c.of(w), api.OK)
			must(t, "17.1: "+c.String(), c.of(x), api.OK)
			want = c.behind(want)
			shows(t, "17.1: "+c.String(), w, want)
			x = holds(t, "17.4: "+c.String(), x, o, want)
		}
		holds(t, "17.1: a row", w, s, want)
		if t.Failed() {
			t.Fatal(row)
		}
	}
}

// TestSame: 17.1, records that are alike are not one.
func TestSame(t *testing.T) {
	s, w := fresh(t, 300)
	for range 5 {
		must(t, "17.1: Append", w.Append("a", "a"), api.OK)
	}
	w = holds(t, "17.1: alike", w, s, slices.Repeat([]string{"a"}, 10))
	must(t, "17.1: Checkpoint", w.Checkpoint(w.Records()...), api.OK)
	w = holds(t, "17.1: alike", w, s, slices.Repeat([]string{"a"}, 10))
	must(t, "17.1: Append", w.Append(w.Records()...), api.OK)
	holds(t, "17.1: alike", w, s, slices.Repeat([]string{"a"}, 20))
}

// TestMany: 17.1, one of many bytes, and many of few, of which no number of bytes stays within one byte or two.
func TestMany(t *testing.T) {
	s, w := fresh(t, 1<<16)
	var want []string
	for i, n := range []int{255, 256, 257, 65535, 65536, 65537, 300000} {
		x := counted(n, byte(i))
		must(t, "17.1: Append of many bytes", w.Append(x), api.OK)
		want = append(want, x)
		w = holds(t, "17.1: many bytes", w, s, want)
	}
	want = nil
	for i := range 70000 {
		want = append(want, fmt.Sprint(i%100))
	}
	must(t, "17.1: Checkpoint of many records", w.Checkpoint(want[:66000]...), api.OK)
	must(t, "17.1: Append of many records", w.Append(want[66000:]...), api.OK)
	holds(t, "17.1: many records", w, s, want)
}

// TestLong: 17.1, many calls, one behind another: nothing of those ahead comes back.
func TestLong(t *testing.T) {
	s, w := fresh(t, 150)
	var want []string
	for i := range 3000 {
		c := appended(fmt.Sprint("r", i), counted(i%40, byte(i)))
		if i%7 == 6 || i > 2000 {
			c = checked(fmt.Sprint("c", i), counted(i%90, byte(i)))
		}
		must(t, "17.1: "+c.String(), c.of(w), api.OK)
		want = c.behind(want)
		if i%3 == 0 {
			w = holds(t, "17.1: "+c.String(), w, s, want)
		}
		shows(t, "17.1: "+c.String(), w, want)
		if t.Failed() {
			return
		}
	}
}

// TestOpenAgain: 17.1, Records are all that the strip has, Append puts behind all: of several Wals of one strip, too.
func TestOpenAgain(t *testing.T) {
	s, first := fresh(t, 300)
	second, third := open(t, s), open(t, s)
	must(t, "17.1: Append", first.Append("a"), api.OK)
	shows(t, "17.1: of another one", second, []string{"a"})
	must(t, "17.1: Append", second.Append("b", counted(50, 0)), api.OK)
	must(t, "17.1: Append", third.Append("c"), api.OK)
	want := []string{"a", "b", counted(50, 0), "c"}
	for _, w := range []*wal.Wal{first, second, third} {
		holds(t, "17.1: of several", w, s, want)
	}
	must(t, "17.1: Checkpoint", second.Checkpoint("d"), api.OK)
	must(t, "17.1: Append", first.Append("e"), api.OK)
	must(t, "17.1: Checkpoint", third.Checkpoint("f"), api.OK)
	must(t, "17.1: Append", second.Append("g"), api.OK)
	holds(t, "17.1: of several", first, s, []string{"f", "g"})
	// One falls in a call of another one: what is there is what the strip tells.
	s.Tear(2)
	must(t, "17.2: Append", second.Append("h"), api.ErrDown)
	s.Fall(api.Plan{})
	want = open(t, s).Records()
	shows(t, "17.2: of another one", first, want)
	must(t, "17.1: Append", first.Append("i"), api.OK)
	must(t, "17.2: till it is opened anew", second.Append("j"), api.ErrDown)
	holds(t, "17.1: of several", third, s, append(want, "i"))
}

// TestNil: 17.3, methods of nil: ErrNone, nothing, whatever they are handed.
func TestNil(t *testing.T) {
	var w *wal.Wal
	for range 2 {
		for _, l := range [][]string{nil, {""}, {"a", "b"}, {strings.Repeat("x", 1<<20+1)}, slices.Repeat([]string{strings.Repeat("x", 1<<20)}, 9)} {
			must(t, "17.3: Append of nil", w.Append(l...), api.ErrNone)
			must(t, "17.3: Checkpoint of nil", w.Checkpoint(l...), api.ErrNone)
			if l := w.Records(); len(l) != 0 {
				t.Error("17.3: Records of nil", brief(l))
			}
		}
	}
}

// TestZero: R1, a Wal that Open did not make panics neither.
func TestZero(t *testing.T) {
	w := new(wal.Wal)
	for range 2 {
		if w.Append() == api.OK || w.Append("a") == api.OK || w.Checkpoint() == api.OK || w.Checkpoint("a") == api.OK || len(w.Records()) != 0 {
			t.Error("17.1: of no strip")
		}
	}
}

// TestForeign: R1, blocks that hold whatever bytes are opened without a panic, and so is what stands behind them; it ends.
func TestForeign(t *testing.T) {
	d := dice(171)
	_, w := fresh(t, 40)
	w.Append("abc", counted(70, 0))
	for n := range 20000 {
		blocks := d.below(12)
		s := strip.New(api.Plan{Blocks: blocks})
		for i := range blocks {
			b := []byte(counted(32, byte(d.below(256))))
			switch d.below(3) {
			case 0:
				clear(b[d.below(32):])
			case 1:
				clear(b)
				b[d.below(32)], b[d.below(32)] = byte(d.below(256)), byte(d.below(256))
			}
			if d.below(2) == 0 {
				b[31] = b[0]
			}
			if n%5 == 0 {
				b = slices.Repeat([]byte{255}, 32)
			}
			s.Write(i, string(b))
		}
		s.Sync()
		w, e := wal.Open(s)
		if (w == nil) != (e != api.OK) {
			t.Error("17.1: Open", w, e)
		}
		w.Records()
		w.Append("a", "b")
		w.Checkpoint("c")
		w.Append()
		w.Checkpoint()
		w.Records()
	}
}
