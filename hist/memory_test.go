package hist_test

import (
	"fmt"
	"math"
	"slices"
	"sync"
	"testing"

	"brook/api"
	"brook/hist"
)

// spare gives an entry's lists room, in which something stands.
func spare(e api.Entry) api.Entry {
	for i, a := range e.Attrs {
		e.Attrs[i].Vals = append(slices.Clip(a.Vals), "spare", "more")[:len(a.Vals)]
	}
	e.Attrs = append(slices.Clip(e.Attrs), api.Attr{Type: "spare", Vals: []string{"spare"}}, api.Attr{Type: "more"})[:len(e.Attrs)]
	return e
}

// roomy gives all lists of a history room: behind the deltas stands one that would fit, and one that would not.
func roomy(h history) history {
	l := slices.Clone(h.l)
	head := hist.Head(h.base, h.l)
	for i := range l {
		l[i].Entry = spare(l[i].Entry)
	}
	l = append(slices.Clip(l), in(head.Epoch, head.N+1, spare(org("next"))), out(9, 9, "o=spare"))
	return history{h.base, l[:len(h.l)]}
}

// full tells what stands in deltas, in their spare room, too.
func full(l []api.Delta) string {
	s := fmt.Sprintf("%d of %d:", len(l), cap(l))
	for _, d := range l[:cap(l)] {
		s += fmt.Sprintf(" %v %q %q %d;", d.Csn, d.Gone, d.Entry.Dn, len(d.Entry.Attrs))
		for _, a := range d.Entry.Attrs[:cap(d.Entry.Attrs)] {
			s += fmt.Sprintf(" %q %q %d;", a.Type, a.Vals[:cap(a.Vals)], len(a.Vals))
		}
	}
	return s
}

// part is one list of deltas: tell tells all that it holds itself, not what the lists in it hold; write writes into all of it. Spare room counts, too.
type part struct {
	tell  func() string
	write func()
}

// partOf makes the part that a list is.
func partOf[T any](l []T, one func(T) string, other T) part {
	l = l[:cap(l)]
	tell := func() string {
		s := ""
		for _, x := range l {
			s += one(x) + ";"
		}
		return s
	}
	write := func() {
		for i := range l {
			l[i] = other
		}
	}
	return part{tell, write}
}

// parts are all lists of deltas: of values, of attributes, and that of the deltas themselves, behind those that stand in it.
func parts(l []api.Delta) []part {
	var all []part
	for _, d := range l[:cap(l)] {
		attrs := d.Entry.Attrs[:cap(d.Entry.Attrs)]
		for _, a := range attrs {
			all = append(all, partOf(a.Vals, func(s string) string { return s }, "spoilt"))
		}
		all = append(all, partOf(attrs, func(a api.Attr) string { return a.Type }, api.Attr{Type: "spoilt", Vals: []string{"spoilt"}}))
	}
	return append(all, partOf(l, func(d api.Delta) string { return fmt.Sprint(d.Csn, d.Gone, d.Entry.Dn) }, moved(9, 9, "spoilt", en("spoilt", "spoilt:spoilt"))))
}

func spoil(l []api.Delta) {
	for _, p := range parts(l) {
		p.write()
	}
}

// tellers are all calls that tell lists: of each number that a history has, and of each that stays.
func tellers(h history) []func() []api.Delta {
	var calls []func() []api.Delta
	for _, many := range []int{0, 1, 2, len(h.l), math.MaxInt} {
		for _, c := range h.numbers() {
			calls = append(calls, func() []api.Delta { l, _ := hist.Since(h.base, h.l, c, many); return l })
		}
		calls = append(calls,
			func() []api.Delta { l, _ := hist.Since(h.base, h.l, at(-1, -1), many); return l },
			func() []api.Delta { l, _ := hist.Since(h.base, h.l, h.base, -1-many); return l },
			func() []api.Delta { _, l := hist.Purge(h.base, h.l, many); return l },
			func() []api.Delta { _, l := hist.Purge(h.base, h.l, -many); return l },
		)
	}
	return calls
}

// TestHandedIn: R3, what is handed in stays, the room behind it, too.
func TestHandedIn(t *testing.T) {
	for _, h := range histories() {
		h = roomy(h)
		was := full(h.l)
		stays := func(what string) {
			if got := full(h.l); got != was {
				t.Fatalf("R3: what was handed in to %s: %s, then %s", what, was, got)
			}
		}
		for range 2 {
			hist.May(h.base, h.l)
			stays("May")
			hist.Head(h.base, h.l)
			stays("Head")
			for _, c := range h.numbers() {
				hist.Has(h.base, h.l, c)
				stays("Has")
				for _, d := range []api.Delta{in(c.Epoch, c.N+1, spare(org("z"))), out(c.Epoch+1, c.N+1, "o=z"), {}} {
					one := full([]api.Delta{d})
					hist.Fits(h.base, h.l, d)
					if full([]api.Delta{d}) != one {
						t.Error("R3: what was handed in to Fits", d)
					}
					stays("Fits")
				}
			}
			for i, call := range tellers(h) {
				call()
				stays(fmt.Sprint("call ", i))
			}
		}
	}
}

// TestTold: R3, what is told is new memory: whoever writes into it, or appends to it, changes nothing that was handed in, and nothing else that was told.
func TestTold(t *testing.T) {
	for _, h := range histories() {
		h = roomy(h)
		was := full(h.l)
		for i, call := range tellers(h) {
			first, second := call(), call()
			want := whole(first)
			_ = append(first, out(9, 9, "spoilt"), out(9, 9, "spoilt"))
			for _, d := range first {
				_ = append(d.Entry.Attrs, api.Attr{Type: "spoilt"}, api.Attr{Type: "spoilt"})
				for _, a := range d.Entry.Attrs {
					_ = append(a.Vals, "spoilt", "spoilt")
				}
			}
			if whole(first) != want || whole(second) != want || full(h.l) != was {
				t.Errorf("R3: appended to call %d of %v", i, h)
			}
			spoil(first)
			if whole(second) != want || whole(call()) != want || full(h.l) != was {
				t.Errorf("R3: call %d of %v: %s, %s", i, h, want, whole(second))
			}
		}
	}
	// What is handed in may be written to behind the call.
	for _, h := range histories() {
		for i := range tellers(h) {
			mine := roomy(history{h.base, copied(h.l)})
			told := tellers(mine)[i]()
			want := whole(told)
			spoil(mine.l)
			if whole(told) != want {
				t.Errorf("R3: call %d of %v: %s, then %s", i, h, want, whole(told))
			}
		}
	}
}

// copied makes deltas in new memory, by other means than the program's.
func copied(l []api.Delta) []api.Delta {
	l = slices.Clone(l)
	for i := range l {
		l[i].Entry.Attrs = slices.Clone(l[i].Entry.Attrs)
		for k, a := range l[i].Entry.Attrs {
			l[i].Entry.Attrs[k].Vals = slices.Clone(a.Vals)
		}
	}
	return l
}

// twins is a history whose lists share memory, spare room, too.
func twins() history {
	vals := []string{"x", "z", "spare"}
	attrs := []api.Attr{{Type: "cn", Vals: vals[:2]}, {Type: "description", Vals: vals[:1]}, {Type: "objectclass", Vals: []string{"person"}}, {Type: "sn", Vals: vals[1:2]}, {Type: "spare"}}
	twin := func(n int, name string) api.Delta { return in(1, n, api.Entry{Dn: name, Attrs: attrs[:4]}) }
	return behind(at(1, 0), twin(1, "cn=x"), twin(2, "cn=z"), moved(1, 3, "cn=z", twin(0, "cn=x,cn=x").Entry), twin(4, "cn=z"))
}

// TestLists: R3, no two lists of one answer share memory, spare room too, even where those that were handed in do.
func TestLists(t *testing.T) {
	h := twins()
	if !h.may() || !hist.May(h.base, h.l) {
		t.Fatal("the test's own:", h)
	}
	for i, call := range tellers(h) {
		for k := range parts(call()) {
			all := parts(call())
			var was []string
			for _, p := range all {
				was = append(was, p.tell())
			}
			all[k].write()
			for n, p := range all {
				if n != k && p.tell() != was[n] {
					t.Errorf("R3: call %d: written into list %d, list %d is %s", i, k, n, p.tell())
				}
			}
		}
	}
}

// TestNotKept: R1, R3, nothing is remembered: of the same memory with others in it the answers are theirs.
func TestNotKept(t *testing.T) {
	base, l := at(1, 3), []api.Delta{in(1, 4, org("x")), out(2, 5, "o=x"), in(2, 6, org("y"))}
	next := out(2, 7, "o=y")
	if !hist.May(base, l) || !hist.Fits(base, l, next) || hist.Head(base, l) != at(2, 6) {
		t.Fatal("15.1: ahead")
	}
	l[2].Csn.Epoch = 3
	if !hist.May(base, l) || hist.Fits(base, l, next) || hist.Head(base, l) != at(3, 6) || hist.Has(base, l, at(2, 6)) || !hist.Has(base, l, at(3, 6)) {
		t.Error("R1: of another number in the same memory")
	}
	l[1].Gone = "O=x"
	if hist.May(base, l) || hist.Fits(base, l[:2], l[2]) {
		t.Error("R1: of one that may not be in the same memory")
	}
	l[1] = in(3, 5, org("z"))
	if got, ok := hist.Since(base, l, at(1, 4), 1); !hist.May(base, l) || !ok || whole(got) != whole(l[1:2]) {
		t.Error("R1: Since of another one in the same memory", whole(got))
	}
	l[0].Entry.Attrs[0].Vals[0] = "X"
	if got, ok := hist.Since(base, l, base, 1); !ok || got[0].Entry.Attrs[0].Vals[0] != "X" || !hist.May(base, l) {
		t.Error("R1: Since of another value in the same memory", whole(got))
	}
	if b, got := hist.Purge(base, l, 3); b != base || whole(got) != whole(l) {
		t.Error("R1: Purge of others in the same memory", b, whole(got))
	}
	l[0].Entry.Attrs[0].Vals[0] = "none"
	if hist.May(base, l) {
		t.Error("R1: May of a value that may not be in the same memory")
	}
	if hist.Head(base, nil) != base || hist.Head(at(9, 9), nil) != at(9, 9) || hist.Head(at(9, 9), l[:1]) != at(1, 4) {
		t.Error("R1: Head behind others")
	}
}

// answers are what all calls tell of a history.
func answers(h history) string {
	s := fmt.Sprint(hist.May(h.base, h.l), hist.Head(h.base, h.l))
	for _, c := range h.numbers() {
		rest, ok := hist.Since(h.base, h.l, c, 2)
		base, stay := hist.Purge(h.base, h.l, c.N%3)
		s += fmt.Sprint(hist.Has(h.base, h.l, c), hist.Has(h.base, h.l, at(c.N, c.Epoch)), ok, whole(rest), base, whole(stay))
		s += fmt.Sprint(hist.Fits(h.base, h.l, out(c.Epoch, c.N+1, "o=x")), hist.Fits(h.base, h.l, api.Delta{Csn: c}))
	}
	return s
}

// TestAtOnce: R1, R5: what is told is the same, whoever asks ahead or at once.
func TestAtOnce(t *testing.T) {
	all := append(histories(), twins(), behind(at(1, 3), out(1, 5, "o=x")), behind(at(-1, 0), out(0, 1, "o=x")))
	var want []string
	for _, h := range all {
		want = append(want, answers(h))
	}
	right := make([]bool, 16)
	var done sync.WaitGroup
	for k := range right {
		done.Go(func() {
			ok := true
			for n := range 5 * len(all) {
				i := (n*(2*k+1) + k) % len(all)
				ok = ok && answers(all[i]) == want[i]
			}
			right[k] = ok
		})
	}
	done.Wait()
	if slices.Contains(right, false) {
		t.Error("15.1: at once", right)
	}
}
