package strip_test

import (
	"fmt"
	"slices"
	gosync "sync"
	"testing"
	"unsafe"

	"brook/api"
	"brook/strip"
)

// dice is a small generator: the same numbers in each run.
type dice uint32

func (d *dice) below(n int) int {
	*d = *d*1664525 + 1013904223
	return int(*d>>8) % n
}

func (d *dice) num(l ...int) int { return l[d.below(len(l))] }

func (d *dice) text() string {
	b := counted(byte(d.below(256)))
	switch d.below(12) {
	case 0:
		return b[:d.below(32)]
	case 1:
		return b + b[:1+d.below(31)]
	}
	return b
}

func (d *dice) any() int { return edges()[d.below(len(edges()))] }

func (d *dice) step(blocks int) step {
	switch d.below(12) {
	case 0, 1:
		return sync()
	case 2:
		return tear(d.num(-1, 0, 1, 2, 3, 9, d.any()))
	case 3:
		x := fall(d.num(0, 1, 2, 5, d.any()), d.num(0, 1, 16, 32, d.any()), d.num(0, 0, 1, 4, 9, d.any()))
		x.p.Blocks = d.any()
		return x
	case 4:
		return write(d.num(-1, blocks, blocks-1, d.any()), d.text())
	}
	return write(d.below(blocks+1), d.text())
}

func (d *dice) steps(blocks int) []step {
	var l []step
	for range d.below(60) {
		l = append(l, d.step(blocks))
	}
	return l
}

func (d *dice) plan() api.Plan {
	return api.Plan{Blocks: d.num(0, 1, 2, 3, 5), Crash: d.num(-1, 0, 0, 0, 1, 5, 20), Keep: d.any(), Torn: d.any()}
}

// TestThrown: 16.1, 16.2, thrown calls of thrown strips, held against the chapter's words.
func TestThrown(t *testing.T) {
	d := dice(161)
	for range 3000 {
		p := d.plan()
		same(t, p, d.steps(p.Blocks)...)
		if t.Failed() {
			return
		}
	}
}

// TestRows: 16.1, 16.2, all rows of up to four calls, and a Fall behind them.
func TestRows(t *testing.T) {
	all := []step{write(0, counted(3)), write(0, full("b")), write(1, full("c")), write(2, full("d")), write(1, "e"), sync(), tear(0), tear(1), tear(2), fall(0, 0, 0), fall(1, 7, 2), fall(2, 32, 1)}
	rows := [][]step{nil}
	for range 4 {
		var longer [][]step
		for _, row := range rows {
			for _, x := range all {
				longer = append(longer, append(slices.Clone(row), x))
			}
		}
		rows = longer
	}
	for _, row := range rows {
		same(t, api.Plan{Blocks: 2}, append(row, fall(1, 9, 1))...)
		if t.Failed() {
			return
		}
	}
}

// told is all that a row of calls tells.
func told(p api.Plan, steps []step) string {
	s := strip.New(p)
	x := state(s, around(p.Blocks))
	for _, y := range steps {
		x += fmt.Sprint(y.of(s)) + state(s, around(p.Blocks))
	}
	return x
}

// TestTwo: R5, two strips do not touch one another, and tell the same of the same calls.
func TestTwo(t *testing.T) {
	d := dice(162)
	for range 400 {
		p, q := d.plan(), d.plan()
		first, second := d.steps(p.Blocks), d.steps(q.Blocks)
		want, wantToo := told(p, first), told(q, second)
		s, o := strip.New(p), strip.New(q)
		got, gotToo := state(s, around(p.Blocks)), state(o, around(q.Blocks))
		for i := range max(len(first), len(second)) {
			if i < len(first) {
				got += fmt.Sprint(first[i].of(s)) + state(s, around(p.Blocks))
			}
			if i < len(second) {
				gotToo += fmt.Sprint(second[i].of(o)) + state(o, around(q.Blocks))
			}
		}
		if got != want || gotToo != wantToo {
			t.Fatal("R5: two strips", p, first, q, second)
		}
	}
}

// TestAtOnce: R1, R5: strips of one's own each tell the same, whoever calls others at once.
func TestAtOnce(t *testing.T) {
	d := dice(163)
	var plans []api.Plan
	var rows [][]step
	var want []string
	for range 40 {
		p := d.plan()
		row := d.steps(p.Blocks)
		plans, rows, want = append(plans, p), append(rows, row), append(want, told(p, row))
	}
	right := make([]bool, 16)
	var done gosync.WaitGroup
	for k := range right {
		done.Go(func() {
			ok := true
			for n := range 5 * len(rows) {
				i := (n*(2*k+1) + k) % len(rows)
				ok = ok && told(plans[i], rows[i]) == want[i]
			}
			right[k] = ok
		})
	}
	done.Wait()
	if slices.Contains(right, false) {
		t.Error("16.1: at once", right)
	}
}

// TestHandedIn: R3, what is handed in is neither changed nor kept: it may be written to behind the call.
func TestHandedIn(t *testing.T) {
	mine := []byte(counted(0) + counted(100))
	text := unsafe.String(&mine[0], 64)
	s := strip.New(api.Plan{Blocks: 3})
	must(t, "16.1: Write", s.Write(0, text[:32]), api.OK)
	must(t, "16.1: Write", s.Write(1, text[32:]), api.OK)
	must(t, "16.1: Write", s.Write(1, text[:32]), api.OK)
	must(t, "16.1: a wrong length", s.Write(2, text), api.ErrArg)
	if string(mine) != counted(0)+counted(100) {
		t.Error("R3: what was handed in is changed")
	}
	for i := range mine {
		mine[i] = 'x'
	}
	shows(t, "R3: what was handed in is kept", s, 0, counted(0))
	shows(t, "R3: what was handed in is kept", s, 1, counted(0))
	s.Fall(api.Plan{Keep: 2, Torn: 0})
	shows(t, "R3: what was handed in is kept", s, 0, counted(0))
	shows(t, "R3: what was handed in is kept", s, 1, counted(100))
	shows(t, "R3: what was not done", s, 2, full("\x00"))
}

// TestTold: R3, what is told is new memory: it stays, whatever is written, synced, or falls; whoever writes into it changes nothing.
func TestTold(t *testing.T) {
	s := strip.New(api.Plan{Blocks: 1})
	s.Write(0, counted(5))
	s.Sync()
	read := func() string { b, _ := s.Read(0); return b }
	first, second := read(), read()
	s.Write(0, full("b"))
	third := read()
	s.Fall(api.Plan{Torn: 9})
	fourth := read()
	s.Write(0, full("d"))
	s.Sync()
	if first != counted(5) || second != counted(5) || third != full("b") || fourth != full("b")[:9]+counted(5)[9:] || read() != full("d") {
		t.Error("R3: what was told is changed", first, second, third, fourth)
	}
	first, second = read(), read()
	for i := range unsafe.Slice(unsafe.StringData(first), 32) {
		unsafe.Slice(unsafe.StringData(first), 32)[i] = 'x'
	}
	if first != full("x") || second != full("d") || read() != full("d") {
		t.Error("R3: written into what was told", second, read())
	}
}

// TestEndsMany: R1, very many changes that are loose are synced, and fall, in no long time.
func TestEndsMany(t *testing.T) {
	const n = 1 << 20
	for _, blocks := range []int{1, 1 << 16} {
		for keep, last := range map[int]int{0: 0, n / 2: n / 2, n: n, n + 1: 0, n - 1: n - 1} {
			s := strip.New(api.Plan{Blocks: blocks})
			for i := range n {
				if s.Write(i%blocks, counted(byte(i*7))) != api.OK {
					t.Fatal("16.1: Write", i)
				}
			}
			if s.Loose() != n {
				t.Error("16.1: Loose", s.Loose())
			}
			s.Fall(api.Plan{Keep: keep})
			if s.Loose() != 0 {
				t.Error("16.2: Loose", s.Loose())
			}
			want := full("\x00")
			if last > 0 {
				want = counted(byte((last - 1) * 7))
			}
			shows(t, "16.2: of very many", s, (last+blocks-1)%blocks, want)
		}
	}
	s := strip.New(api.Plan{Blocks: 2})
	for range 1 << 21 {
		if s.Write(0, full("a")) != api.OK || s.Sync() != api.OK {
			t.Fatal("16.1: Write, Sync")
		}
	}
	for range 1 << 21 {
		s.Fall(api.Plan{Keep: 1, Torn: 1})
		s.Tear(1)
	}
	shows(t, "16.3: behind very many Falls", s, 0, full("a"))
}
