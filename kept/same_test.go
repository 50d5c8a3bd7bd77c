package kept_test

import (
	"slices"
	"testing"

	"brook/api"
	"brook/kept"
)

// different makes records of which each differs from the first in one thing alone, all in memory of their own.
func different() []api.Record {
	var l []api.Record
	turned := func(do func(r *api.Record)) {
		r := api.Record{Kind: 3, Delta: moved(1, 2, "o=w", en("cn=Ann,o=y", "cn:Ann|B", "objectclass:person", "sn:S")), Epoch: 3, Lead: true, Parent: 4, Reload: true, From: 5, To: 6, Csn: at(7, 8), Deltas: changes(in(9, 10, org("x")), moved(11, 12, "o=v", org("y"))), Tree: list(org("x"), en("o=y", "o:y|z")), N: 13}
		do(&r)
		l = append(l, r)
	}
	turned(func(*api.Record) {})
	for _, n := range []int{-1, 0, 1, 99, 1<<32 + 3, 1<<32 + 13, -1 << 63} {
		for _, number := range []func(r *api.Record) *int{
			func(r *api.Record) *int { return &r.Kind }, func(r *api.Record) *int { return &r.Epoch }, func(r *api.Record) *int { return &r.Parent }, func(r *api.Record) *int { return &r.From }, func(r *api.Record) *int { return &r.To }, func(r *api.Record) *int { return &r.N },
			func(r *api.Record) *int { return &r.Csn.Epoch }, func(r *api.Record) *int { return &r.Csn.N }, func(r *api.Record) *int { return &r.Delta.Csn.N }, func(r *api.Record) *int { return &r.Deltas[0].Csn.Epoch }, func(r *api.Record) *int { return &r.Deltas[1].Csn.N },
		} {
			turned(func(r *api.Record) { *number(r) = n })
		}
	}
	turned(func(r *api.Record) { r.Delta.Csn.Epoch = 0 })
	turned(func(r *api.Record) { r.Lead = false })
	turned(func(r *api.Record) { r.Reload = false })
	turned(func(r *api.Record) { r.Lead, r.Reload = false, false })
	turned(func(r *api.Record) { r.From, r.To = r.To, r.From })
	turned(func(r *api.Record) { r.Epoch, r.N = r.N, r.Epoch })
	turned(func(r *api.Record) { r.Csn.Epoch, r.Csn.N = r.Csn.N, r.Csn.Epoch })
	turned(func(r *api.Record) { r.Csn = api.Csn{} })
	turned(func(r *api.Record) { r.Csn, r.Delta.Csn = r.Delta.Csn, r.Csn })
	turned(func(r *api.Record) { r.Delta = api.Delta{} })
	turned(func(r *api.Record) { r.Delta.Gone = "" })
	turned(func(r *api.Record) { r.Delta.Gone = "O=w" })
	turned(func(r *api.Record) { r.Delta.Entry = api.Entry{} })
	turned(func(r *api.Record) { r.Delta.Entry.Dn = "cn=ann,o=y" })
	turned(func(r *api.Record) { r.Delta.Entry.Attrs[0].Vals[1] = "b" })
	turned(func(r *api.Record) { r.Delta.Entry.Attrs = nil })
	turned(func(r *api.Record) { r.Delta, r.Deltas[0] = r.Deltas[0], r.Delta })
	turned(func(r *api.Record) { r.Deltas = nil })
	turned(func(r *api.Record) { r.Deltas = r.Deltas[:1] })
	turned(func(r *api.Record) { r.Deltas = r.Deltas[1:] })
	turned(func(r *api.Record) { r.Deltas = append(r.Deltas, api.Delta{}) })
	turned(func(r *api.Record) { r.Deltas = append(r.Deltas, r.Deltas[1]) })
	turned(func(r *api.Record) { slices.Reverse(r.Deltas) })
	turned(func(r *api.Record) { r.Deltas[0].Gone = "o=x" })
	turned(func(r *api.Record) { r.Deltas[1].Gone = "" })
	turned(func(r *api.Record) { r.Deltas[0].Entry = api.Entry{} })
	turned(func(r *api.Record) { r.Deltas[1].Entry.Attrs[1].Vals[0] = "Organization" })
	turned(func(r *api.Record) { r.Tree = nil })
	turned(func(r *api.Record) { r.Tree = r.Tree[:1] })
	turned(func(r *api.Record) { r.Tree = r.Tree[1:] })
	turned(func(r *api.Record) { r.Tree = append(r.Tree, api.Entry{}) })
	turned(func(r *api.Record) { r.Tree = append(r.Tree, r.Tree[1]) })
	turned(func(r *api.Record) { slices.Reverse(r.Tree) })
	turned(func(r *api.Record) { r.Tree[0].Dn = "O=x" })
	turned(func(r *api.Record) { r.Tree[0].Attrs[1].Type = "objectClass" })
	turned(func(r *api.Record) { slices.Reverse(r.Tree[0].Attrs) })
	turned(func(r *api.Record) { r.Tree[1].Attrs[0].Vals[1] = "Z" })
	turned(func(r *api.Record) { r.Tree[1].Attrs[0].Vals = r.Tree[1].Attrs[0].Vals[:1] })
	turned(func(r *api.Record) { slices.Reverse(r.Tree[1].Attrs[0].Vals) })
	return l
}

// TestSame: 14.3, alike in all: of records that differ in one thing alone each is but itself.
func TestSame(t *testing.T) {
	l := append(different(), api.Record{}, api.Record{Delta: api.Delta{Entry: en("", "")}}, api.Record{Delta: api.Delta{Entry: en("", ":")}}, api.Record{Deltas: make([]api.Delta, 1)}, api.Record{Deltas: make([]api.Delta, 2)}, api.Record{Tree: make([]api.Entry, 1)}, api.Record{Tree: list(en("", ""))}, api.Record{Lead: true}, api.Record{Reload: true})
	for i, a := range l {
		for j, b := range l {
			if kept.Same(a, b) != (i == j) {
				t.Errorf("14.3: Same of %s, %s", whole(a), whole(b))
			}
		}
	}
	for i, a := range different() {
		if !kept.Same(a, l[i]) || !kept.Same(l[i], a) {
			t.Errorf("14.3: Same of %s made anew", whole(a))
		}
	}
	for i, a := range records() {
		for j, b := range records() {
			if kept.Same(a, b) != (i == j) {
				t.Errorf("14.3: Same of %s, %s", whole(a), whole(b))
			}
		}
	}
}

// TestSameEmpty: 14.3, R3, a nil list and an empty one are one.
func TestSameEmpty(t *testing.T) {
	l := []api.Record{{}, {Deltas: []api.Delta{}}, {Deltas: row(1, 1, 2)[:0]}, {Tree: []api.Entry{}}, {Tree: company()[:0]}, {Delta: api.Delta{Entry: api.Entry{Attrs: []api.Attr{}}}}, {Deltas: []api.Delta{}, Tree: []api.Entry{}, Delta: api.Delta{Entry: api.Entry{Attrs: org("x").Attrs[:0]}}}}
	for _, a := range l {
		for _, b := range l {
			if !kept.Same(a, b) {
				t.Errorf("14.3: Same of %#v, %#v", a, b)
			}
			inner := api.Record{Deltas: changes(b.Delta), Tree: list(b.Delta.Entry)}
			if !kept.Same(inner, api.Record{Deltas: changes(a.Delta), Tree: list(a.Delta.Entry)}) {
				t.Errorf("14.3: Same of %#v, with %#v", inner, a)
			}
		}
	}
	none, empty := api.Attr{Type: "o"}, api.Attr{Type: "o", Vals: []string{}}
	if !kept.Same(api.Record{Tree: list(api.Entry{Attrs: []api.Attr{none}})}, api.Record{Tree: list(api.Entry{Attrs: []api.Attr{empty}})}) {
		t.Error("14.3: Same of no values, nil and empty")
	}
}
