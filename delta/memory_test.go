package delta_test

import (
	"fmt"
	"slices"
	"strings"
	"sync"
	"testing"

	"brook/api"
	"brook/delta"
	"brook/tree"
)

// spare gives an entry's lists room, in which something stands.
func spare(e api.Entry) api.Entry {
	for i, a := range e.Attrs {
		e.Attrs[i].Vals = append(a.Vals, "spare")[:len(a.Vals)]
	}
	e.Attrs = append(e.Attrs, api.Attr{Type: "spare", Vals: []string{"spare"}})[:len(e.Attrs)]
	return e
}

// roomy makes a tree, and deltas, whose lists have spare room; all tells all of both.
func roomy() (l []api.Entry, d []api.Delta, all func() string) {
	room := append(company(), org("spare"))
	for i := range room {
		room[i] = spare(room[i])
	}
	for _, c := range changes() {
		if c.d.Entry.Dn != "" {
			c.d.Entry = spare(c.d.Entry)
		}
		d = append(d, c.d)
	}
	d = append(d, turn("o=spare", spare(org("spare"))))
	l, d = room[:7], d[:len(d)-1]
	return l, d, func() string { return full(l) + fullDeltas(d) }
}

// full tells what stands in a list, in its spare room, too.
func full(l []api.Entry) string {
	s := ""
	for _, e := range l[:cap(l)] {
		s += fmt.Sprintf("%q %d;", e.Dn, len(e.Attrs))
		for _, a := range e.Attrs[:cap(e.Attrs)] {
			s += fmt.Sprintf(" %q %q %d;", a.Type, a.Vals[:cap(a.Vals)], len(a.Vals))
		}
	}
	return s
}

func fullDeltas(l []api.Delta) string {
	s := ""
	for _, d := range l[:cap(l)] {
		s += fmt.Sprintf("%v %q %s;", d.Csn, d.Gone, full([]api.Entry{d.Entry}))
	}
	return s
}

// spoil writes into all of a list, and into its spare room.
func spoil(l []api.Entry) {
	for _, e := range l {
		for _, a := range e.Attrs {
			for i := range a.Vals[:cap(a.Vals)] {
				a.Vals[:cap(a.Vals)][i] = "spoilt"
			}
		}
		for i := range e.Attrs[:cap(e.Attrs)] {
			e.Attrs[:cap(e.Attrs)][i] = api.Attr{Type: "spoilt", Vals: []string{"spoilt"}}
		}
	}
	for i := range l[:cap(l)] {
		l[:cap(l)][i] = en("spoilt", "spoilt:spoilt")
	}
}

// spoilDeltas writes into all of a list of deltas, and into its spare room.
func spoilDeltas(l []api.Delta) {
	for i, d := range l[:cap(l)] {
		spoil([]api.Entry{d.Entry})
		l[:cap(l)][i] = turn("spoilt", en("spoilt"))
	}
}

// tellers are all calls that tell lists, each branch of them.
func tellers(l []api.Entry, d []api.Delta) []func() []api.Entry {
	calls := []func() []api.Entry{
		func() []api.Entry { return delta.Fold(l) },
		func() []api.Entry { return delta.Fold(l, d[:0]...) },
		func() []api.Entry { return delta.Fold(l, d...) },
		func() []api.Entry { return delta.Fold(l[:3], d[1:]...) },
		func() []api.Entry { return delta.Fold(nil, d...) },
		func() []api.Entry { return delta.Fold(l, api.Delta{}, api.Delta{}) },
		func() []api.Entry { return delta.Apply(l, api.Delta{}) },
		func() []api.Entry { return delta.Apply(l, api.Delta{Gone: "none"}) },
		// The tree's own entries, put again.
		func() []api.Entry { return delta.Apply(l, turn("", l[0])) },
		func() []api.Entry { return delta.Fold(l, turn("", l[0]), turn("o=y", l[3])) },
		func() []api.Entry { return delta.Fold(l[1:], turn("", l[0]), turn("", l[0])) },
	}
	for i := range d {
		calls = append(calls,
			func() []api.Entry { return delta.Apply(l, d[i]) },
			func() []api.Entry { return delta.Apply(nil, d[i]) },
			func() []api.Entry { return delta.Fold(l, d[i], d[i]) },
			func() []api.Entry { return delta.Fold(l[:5], d[i:i+1]...) },
		)
	}
	return calls
}

// TestHandedIn: R3, what is handed in stays, the room behind it, too.
func TestHandedIn(t *testing.T) {
	l, d, all := roomy()
	was := all()
	for range 3 {
		for i, call := range tellers(l, d) {
			call()
			if all() != was {
				t.Fatal("R3: what was handed in, call", i)
			}
		}
		for _, a := range d {
			for _, b := range d {
				delta.Same(a, b)
			}
			if !delta.May(a) || !delta.Same(a, a) || all() != was {
				t.Fatal("R3: what was handed in", whole(a))
			}
		}
	}
}

// TestTold: R3, what is told is new memory: whoever writes into it, or appends to it, changes nothing that was handed in, and nothing else that was told.
func TestTold(t *testing.T) {
	l, d, all := roomy()
	was := all()
	for i, call := range tellers(l, d) {
		first, second := call(), call()
		want := text(first)
		_ = append(first, en("more"), en("more"))
		spoil(first)
		if text(second) != want || text(call()) != want || all() != was {
			t.Errorf("R3: call %d: %s, %s", i, want, text(second))
		}
	}
	// What is handed in may be written to behind the call.
	for i := range tellers(l, d) {
		l, d, _ := roomy()
		told := tellers(l, d)[i]()
		want := text(told)
		spoil(l)
		spoilDeltas(d)
		if text(told) != want {
			t.Errorf("R3: call %d: %s, then %s", i, want, text(told))
		}
	}
}

// TestLists: R3, no two lists of one answer share memory, spare room too, even where those that were handed in do.
func TestLists(t *testing.T) {
	vals := []string{"x", "z", "spare"}
	attrs := []api.Attr{{Type: "cn", Vals: vals[:2]}, {Type: "description", Vals: vals[:1]}, {Type: "objectclass", Vals: []string{"person"}}, {Type: "sn", Vals: vals[1:2]}}
	var twins []api.Entry
	for _, name := range []string{"cn=x", "cn=x,cn=x", "cn=z"} {
		twins = append(twins, api.Entry{Dn: name, Attrs: attrs})
	}
	last := turn("", api.Entry{Dn: "cn=z,cn=x", Attrs: attrs})
	moved := turn("cn=z", last.Entry)
	if !tree.May(twins) || !delta.May(last) || !delta.May(moved) {
		t.Fatal("the test's own", text(twins))
	}
	for i, told := range [][]api.Entry{delta.Fold(twins), delta.Apply(twins, last), delta.Apply(twins, moved), delta.Fold(twins, moved, turn("", twins[0]), turn("", twins[2])), delta.Fold(nil, last, turn("", twins[0])), delta.Apply(twins, api.Delta{Gone: "none"})} {
		for j, e := range told {
			was := text(told[:j]) + text(told[j+1:])
			_ = append(e.Attrs, api.Attr{Type: "more"}, api.Attr{Type: "more"})
			for k, a := range e.Attrs {
				others := text([]api.Entry{{Attrs: e.Attrs[:k]}, {Attrs: e.Attrs[k+1:]}})
				_ = append(a.Vals, "more", "and", "more")
				for n := range a.Vals[:cap(a.Vals)] {
					a.Vals[:cap(a.Vals)][n] = fmt.Sprint("spoilt", j, k)
				}
				if text([]api.Entry{{Attrs: e.Attrs[:k]}, {Attrs: e.Attrs[k+1:]}}) != others {
					t.Errorf("R3: answer %d, entry %d, list %d", i, j, k)
				}
			}
			spoil(told[j : j+1 : j+1])
			if text(told[:j])+text(told[j+1:]) != was {
				t.Errorf("R3: answer %d, entry %d: %s", i, j, text(told))
			}
		}
	}
}

// TestNotKept: R1, R3, nothing is remembered: of the same memory with others in it the answers are theirs.
func TestNotKept(t *testing.T) {
	l, d, _ := roomy()
	want := make([]string, len(d))
	for i := range d {
		want[i] = text(delta.Apply(l, d[i]))
	}
	same := l[0]
	l[0] = spare(person("Ad", "o=x"))
	for i := range d {
		if got := text(delta.Apply(l, d[i])); got == want[i] {
			t.Error("R1: Apply of another tree in the same memory", i)
		}
	}
	l[0] = same
	one := d[len(d)-1:]
	one[0].Entry.Dn, one[0].Entry.Attrs[0].Vals[0] = "o=x3", "x3"
	if got := delta.Fold(l, one...); tree.Find(got, "o=x3") < 0 || tree.Find(got, "o=x2") >= 0 || tree.Find(got, "o=x") >= 0 {
		t.Error("R1: Fold of another delta in the same memory", keys(got))
	}
	one[0].Entry.Attrs[0].Vals[0] = "x4"
	if delta.May(one[0]) {
		t.Error("R1: May of another delta in the same memory")
	}
	for i := range d[:len(d)-1] {
		if got := text(delta.Apply(l, d[i])); got != want[i] {
			t.Error("R1: asked again", i)
		}
	}
}

// TestAtOnce: R1, R5: what is told is the same, whoever asks ahead or at once.
func TestAtOnce(t *testing.T) {
	l, d, all := roomy()
	was, folded := all(), text(delta.Fold(l, d...))
	var want []string
	for i := range d {
		want = append(want, text(delta.Apply(l, d[i])))
	}
	right := make([]bool, 16)
	var done sync.WaitGroup
	for k := range right {
		done.Go(func() {
			ok := true
			for n := range 3 * len(d) {
				i := (n*(2*k+1) + k) % len(d)
				ok = ok && delta.May(d[i]) && text(delta.Apply(l, d[i])) == want[i] && text(delta.Fold(l, d[i], d[i])) == want[i]
				ok = ok && delta.Same(d[i], d[i]) && !delta.Same(d[i], d[(i+2)%len(d)])
			}
			right[k] = ok && text(delta.Fold(l, d...)) == folded && len(delta.Fold(l)) == len(l)
		})
	}
	done.Wait()
	if slices.Contains(right, false) || all() != was {
		t.Error("13.1: at once", right)
	}
}

// TestEnds: R1, long texts and lists end in no long time, and none panics, whatever it is given.
func TestEnds(t *testing.T) {
	const n = 1 << 22
	l := company()
	for _, s := range []string{"a", " ", ",", "o=a,", `\`, `\,`, "\xff"} {
		long := strings.Repeat(s, n)
		for _, d := range []api.Delta{turn(long, api.Entry{}), turn("", en(long)), turn("", api.Entry{Dn: "o=x", Attrs: []api.Attr{{Type: long}}}), turn(long, en("o=x", "o:x|"+long, "objectclass:organization", "sn:"+long))} {
			if delta.May(d) || !delta.Same(d, d) || delta.Same(d, turn("", en(long, "sn"))) {
				t.Errorf("13.1: of long %q", s)
			}
			if got := delta.Apply(l, d); len(got) > len(l) || d.Entry.Dn == "" && text(got) != text(l) {
				t.Errorf("13.1: Apply of long %q: %s", s, keys(got))
			}
		}
	}
	wide := turn("", api.Entry{Dn: "o=x", Attrs: slices.Repeat([]api.Attr{{Type: "sn"}, {Type: "cn", Vals: []string{"x"}}}, 1<<18)})
	if delta.May(wide) || !delta.Same(wide, wide) || len(delta.Apply(nil, wide)) != 0 {
		t.Error("13.1: of very many attributes")
	}
	var many []api.Delta
	for i := range 1 << 14 {
		many = append(many, turn("o="+fmt.Sprint(i%50), org(fmt.Sprint(i%100))))
	}
	if got := delta.Fold(nil, many...); len(got) == 0 || len(got) > 100 || !tree.May(got) {
		t.Error("13.1: of very many deltas", len(got))
	}
	if got := delta.Fold(l, make([]api.Delta, 1<<20)...); text(got) != text(l) {
		t.Error("13.1: of very many that say nothing", keys(got))
	}
}
