package kept_test

import (
	"fmt"
	"slices"
	"strings"
	"sync"
	"testing"

	"brook/api"
	"brook/kept"
)

// spare gives an entry's lists room, in which something stands.
func spare(e api.Entry) api.Entry {
	for i, a := range e.Attrs {
		e.Attrs[i].Vals = append(a.Vals, "spare")[:len(a.Vals)]
	}
	e.Attrs = append(e.Attrs, api.Attr{Type: "spare", Vals: []string{"spare"}})[:len(e.Attrs)]
	return e
}

// spareAll gives all lists of a record room.
func spareAll(r api.Record) api.Record {
	r.Delta.Entry = spare(r.Delta.Entry)
	for i := range r.Deltas {
		r.Deltas[i].Entry = spare(r.Deltas[i].Entry)
	}
	for i := range r.Tree {
		r.Tree[i] = spare(r.Tree[i])
	}
	r.Deltas = append(r.Deltas, in(1, 1, spare(org("spare"))))[:len(r.Deltas)]
	r.Tree = append(r.Tree, spare(org("spare")))[:len(r.Tree)]
	return r
}

// fullEntries tells what stands in a list, in its spare room, too.
func fullEntries(l []api.Entry) string {
	s := ""
	for _, e := range l[:cap(l)] {
		s += fmt.Sprintf("%q %d;", e.Dn, len(e.Attrs))
		for _, a := range e.Attrs[:cap(e.Attrs)] {
			s += fmt.Sprintf(" %q %q %d;", a.Type, a.Vals[:cap(a.Vals)], len(a.Vals))
		}
	}
	return s
}

// fullRecord tells all of a record, what stands in spare room, too.
func fullRecord(r api.Record) string {
	s := whole(r) + fullEntries([]api.Entry{r.Delta.Entry}) + fullEntries(r.Tree)
	for _, d := range r.Deltas[:cap(r.Deltas)] {
		s += fmt.Sprintf("%v %q", d.Csn, d.Gone) + fullEntries([]api.Entry{d.Entry})
	}
	return s
}

func fullTlv(t api.Tlv) string {
	s := fmt.Sprintf("(%d %q %d", t.Tag, t.S, len(t.L))
	for _, x := range t.L[:cap(t.L)] {
		s += fullTlv(x)
	}
	return s + ")"
}

// spoil writes into all of a list, and into its spare room.
func spoil(l []api.Entry) {
	for i := range l[:cap(l)] {
		e := &l[:cap(l)][i]
		for _, a := range e.Attrs[:cap(e.Attrs)] {
			for k := range a.Vals[:cap(a.Vals)] {
				a.Vals[:cap(a.Vals)][k] = "spoilt"
			}
		}
		for k := range e.Attrs[:cap(e.Attrs)] {
			e.Attrs[:cap(e.Attrs)][k] = api.Attr{Type: "spoilt", Vals: []string{"spoilt"}}
		}
		*e = en("spoilt", "spoilt:spoilt")
	}
}

func spoilRecord(r api.Record) {
	spoil([]api.Entry{r.Delta.Entry})
	spoil(r.Tree)
	for i, d := range r.Deltas[:cap(r.Deltas)] {
		spoil([]api.Entry{d.Entry})
		r.Deltas[:cap(r.Deltas)][i] = out(9, 9, "spoilt")
	}
}

func spoilTlv(t api.Tlv) {
	for i, x := range t.L[:cap(t.L)] {
		spoilTlv(x)
		t.L[:cap(t.L)][i] = leaf(9, "spoilt")
	}
}

// TestHandedIn: R3, what is handed in stays, the room behind it, too.
func TestHandedIn(t *testing.T) {
	for range 2 {
		for i, r := range append(records(), different()...) {
			r = spareAll(r)
			was := fullRecord(r)
			kept.May(r)
			s := kept.Put(r)
			kept.Get(s)
			if fullRecord(r) != was || !kept.Same(r, r) || fullRecord(r) != was {
				t.Errorf("R3: what was handed in, record %d", i)
			}
		}
		for i, e := range entries() {
			e = spare(e)
			was := fullEntries([]api.Entry{e})
			x := roomy(kept.Entry(e))
			wasTlv := fullTlv(x)
			kept.ReadEntry(x)
			if fullEntries([]api.Entry{e}) != was || fullTlv(x) != wasTlv {
				t.Errorf("R3: what was handed in, entry %d", i)
			}
		}
	}
}

// TestTold: R3, what is told is new memory: whoever writes into it, or appends to it, changes nothing that was handed in, and nothing else that was told.
func TestTold(t *testing.T) {
	for i, e := range entries() {
		e = spare(e)
		was, want := fullEntries([]api.Entry{e}), form(entryTlv(e))
		first, second := kept.Entry(e), kept.Entry(e)
		spoilTlv(first)
		if form(second) != want || form(kept.Entry(e)) != want || fullEntries([]api.Entry{e}) != was {
			t.Errorf("R3: Entry %d", i)
		}
		back, _ := kept.ReadEntry(second)
		again, _ := kept.ReadEntry(second)
		spoil([]api.Entry{back})
		if form(second) != want || form(entryTlv(again)) != want {
			t.Errorf("R3: ReadEntry %d", i)
		}
		// What was handed in may be written to behind the call.
		spoilTlv(second)
		if form(entryTlv(again)) != want {
			t.Errorf("R3: ReadEntry %d of what is another one now", i)
		}
		third := kept.Entry(e)
		spoil([]api.Entry{e})
		if form(third) != want {
			t.Errorf("R3: Entry %d of what is another one now", i)
		}
	}
	for i, r := range records() {
		r = spareAll(r)
		was, want := fullRecord(r), whole(r)
		s := kept.Put(r)
		first, _ := kept.Get(s)
		second, _ := kept.Get(s)
		_, _ = append(first.Deltas, api.Delta{}), append(first.Tree, api.Entry{})
		spoilRecord(first)
		if third, _ := kept.Get(s); whole(second) != want || whole(third) != want || kept.Put(r) != s || fullRecord(r) != was {
			t.Errorf("R3: Get %d", i)
		}
	}
}

// lists are all lists of an answer, as calls that spoil each of them alone, its spare room, too.
func lists(r api.Record) (spoilers []func()) {
	add := func(do func()) { spoilers = append(spoilers, do) }
	inEntry := func(e api.Entry) {
		add(func() {
			for i := range e.Attrs[:cap(e.Attrs)] {
				e.Attrs[:cap(e.Attrs)][i] = api.Attr{Type: "spoilt"}
			}
		})
		for _, a := range e.Attrs {
			add(func() {
				for i := range a.Vals[:cap(a.Vals)] {
					a.Vals[:cap(a.Vals)][i] = "spoilt"
				}
			})
		}
	}
	inEntry(r.Delta.Entry)
	for _, d := range r.Deltas {
		inEntry(d.Entry)
	}
	for _, e := range r.Tree {
		inEntry(e)
	}
	return spoilers
}

// texts tells what the lists of an answer hold, each for itself.
func texts(r api.Record) []string {
	var l []string
	inEntry := func(e api.Entry) {
		s := ""
		for _, a := range e.Attrs {
			s += fmt.Sprintf("%q ", a.Type)
		}
		l = append(l, s)
		for _, a := range e.Attrs {
			l = append(l, fmt.Sprintf("%q", a.Vals))
		}
	}
	inEntry(r.Delta.Entry)
	for _, d := range r.Deltas {
		inEntry(d.Entry)
	}
	for _, e := range r.Tree {
		inEntry(e)
	}
	return l
}

// TestLists: R3, no two lists of one answer share memory, spare room too, even where those that were handed in do.
func TestLists(t *testing.T) {
	vals := []string{"x", "z", "spare"}
	attrs := []api.Attr{{Type: "cn", Vals: vals[:2]}, {Type: "description", Vals: vals[:1]}, {Type: "objectclass", Vals: []string{"person"}}, {Type: "sn", Vals: vals[1:2]}}
	twin := func(name string) api.Entry { return api.Entry{Dn: name, Attrs: attrs} }
	for i, r := range []api.Record{full(at(0, 0), list(twin("cn=x"), twin("cn=x,cn=x"), twin("cn=z")), in(0, 1, twin("cn=x")), in(0, 2, twin("cn=x")), in(0, 3, twin("cn=z"))), {Kind: api.KDelta, Delta: in(0, 1, twin("cn=x"))}} {
		mayIs(t, r, true)
		s := kept.Put(r)
		got, _ := kept.Get(s)
		count := len(lists(got))
		for k := range count {
			got, _ := kept.Get(s)
			before := texts(got)
			lists(got)[k]()
			after := texts(got)
			before[k], after[k] = "", ""
			// The list of attributes holds the lists of values.
			if strings.Contains(strings.Join(after[:k], " "), "spoilt") || !slices.Equal(before[:k], after[:k]) {
				t.Errorf("R3: answer %d, list %d ahead: %q", i, k, after)
			}
			if rest := after[k+1:]; strings.Contains(strings.Join(rest, " "), "spoilt") {
				t.Errorf("R3: answer %d, list %d behind: %q", i, k, after)
			}
		}
	}
	x := kept.Entry(twin("cn=x"))
	for i := range x.L[1].L {
		was := form(x.L[1].L[(i+1)%4])
		_ = append(x.L[1].L[i].L[1].L, leaf(9, "more"), leaf(9, "more"))
		spoilTlv(x.L[1].L[i])
		if form(x.L[1].L[(i+1)%4]) != was && i < 3 {
			t.Error("R3: Entry, list", i)
		}
	}
	e, _ := kept.ReadEntry(kept.Entry(twin("cn=x")))
	for i, a := range e.Attrs {
		_ = append(a.Vals, "more", "more")
		a.Vals[0] = fmt.Sprint("spoilt", i)
		if i < 3 && strings.HasPrefix(e.Attrs[i+1].Vals[0], "spoilt") {
			t.Error("R3: ReadEntry, list", i)
		}
	}
}

// TestNotKept: R1, R3, nothing is remembered: of the same memory with others in it the answers are theirs.
func TestNotKept(t *testing.T) {
	r := spareAll(full(at(1, 4), company(), in(1, 5, org("x"))))
	s := kept.Put(r)
	r.Tree[2].Attrs[0].Vals[0] = "X"
	other := kept.Put(r)
	if s == other || other != bytesOf(r) {
		t.Error("R1: Put of another tree in the same memory")
	}
	r.Tree[2].Attrs[0].Vals[0] = "none"
	if kept.May(r) || kept.Put(r) != "" {
		t.Error("R1: May of a tree that may not be in the same memory")
	}
	r.Tree[2].Attrs[0].Vals[0] = "x"
	r.Deltas[0].Csn.N = 6
	if kept.May(r) || kept.Put(r) != "" {
		t.Error("R1: May of deltas that may not be in the same memory")
	}
	r.Deltas[0].Csn.N = 5
	if !kept.May(r) || kept.Put(r) != s {
		t.Error("R1: asked again")
	}
	x := kept.Entry(org("x"))
	x.L[0].S = "o=y"
	if e, ok := kept.ReadEntry(x); !ok || e.Dn != "o=y" {
		t.Error("R1: ReadEntry of another one in the same memory")
	}
	x.L[0].Tag = 5
	if _, ok := kept.ReadEntry(x); ok {
		t.Error("R1: ReadEntry of what is none in the same memory")
	}
}

// TestAtOnce: R1, R5: what is told is the same, whoever asks ahead or at once.
func TestAtOnce(t *testing.T) {
	all := records()
	var want []string
	for _, r := range all {
		want = append(want, kept.Put(r))
	}
	right := make([]bool, 16)
	var done sync.WaitGroup
	for k := range right {
		done.Go(func() {
			ok := true
			for n := range 3 * len(all) {
				i := (n*(2*k+1) + k) % len(all)
				r, is := kept.Get(want[i])
				ok = ok && is && kept.Same(r, all[i]) && kept.May(all[i]) && kept.Put(all[i]) == want[i]
				e, is := kept.ReadEntry(kept.Entry(all[i].Delta.Entry))
				ok = ok && is && fmt.Sprintf("%q", e) == fmt.Sprintf("%q", all[i].Delta.Entry)
			}
			right[k] = ok
		})
	}
	done.Wait()
	if slices.Contains(right, false) {
		t.Error("14.3: at once", right)
	}
}
