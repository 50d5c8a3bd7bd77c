package kept_test

import (
	"fmt"
	"math"
	"reflect"
	"slices"
	"strings"
	"testing"

	"brook/api"
	"brook/delta"
	"brook/kept"
	"brook/tree"
)

// has are the things that each kind has.
func has(kind int) []string {
	return strings.Fields(map[int]string{api.KDelta: "Delta", api.KMeta: "Epoch Lead Parent Reload From To", api.KFull: "Csn Deltas Tree", api.KPurge: "N"}[kind])
}

// wantedMay is May by the words of 14.2.
func wantedMay(r api.Record) bool {
	if r.Kind < 1 || r.Kind > 4 {
		return false
	}
	v, zero := reflect.ValueOf(r), reflect.ValueOf(api.Record{})
	for i := range v.NumField() {
		name := v.Type().Field(i).Name
		// A nil list and an empty one are told alike.
		if name != "Kind" && !slices.Contains(has(r.Kind), name) && fmt.Sprintf("%+v", v.Field(i)) != fmt.Sprintf("%+v", zero.Field(i)) {
			return false
		}
	}
	in := func(n, least, most int) bool { return n >= least && n <= most }
	c := r.Csn
	for i, d := range r.Deltas {
		if i == 400 || !delta.May(d) || d.Csn.N-r.Csn.N != i+1 || d.Csn.Epoch < c.Epoch {
			return false
		}
		c.Epoch = d.Csn.Epoch
	}
	return (r.Kind != api.KDelta || delta.May(r.Delta)) && in(r.Epoch, 0, 1<<52) && in(r.Parent, -1, 7) && in(r.From, 0, 24) && in(r.To, 0, 24) && in(r.Csn.Epoch, 0, 1<<52) && in(r.Csn.N, 0, 1<<52) && tree.May(r.Tree) && in(r.N, 0, 1<<52)
}

func mayIs(t *testing.T, r api.Record, want bool) {
	t.Helper()
	if wantedMay(r) != want {
		t.Errorf("the test's own: %s", short(r))
	}
	if kept.May(r) != want {
		t.Errorf("14.2: May of %s: %v", short(r), !want)
	}
	if s := kept.Put(r); (s != "") != want {
		t.Errorf("14.3: Put of %s: %.100q", short(r), s)
	}
}

// TestMayKinds: 14.2, each kind, and numbers that are none.
func TestMayKinds(t *testing.T) {
	for _, r := range records() {
		was := r.Kind
		for _, kind := range []int{math.MinInt, -5, -1, 0, 1, 2, 3, 4, 5, 6, 7, 8, 255, 256 + 1, 1<<32 + 1, math.MaxInt} {
			r.Kind = kind
			// What is zero but for its kind may be one of each kind but KDelta.
			bare := whole(api.Record{Kind: kind}) == whole(r) && kind > 1 && kind < 5
			mayIs(t, r, kind == was || bare)
		}
	}
	mayIs(t, api.Record{}, false)
	for kind := -9; kind < 300; kind++ {
		mayIs(t, api.Record{Kind: kind}, kind == api.KMeta || kind == api.KFull || kind == api.KPurge)
	}
}

// edges are numbers about the limits.
func edges() []int {
	return []int{math.MinInt, math.MinInt + 1, -1<<52 - 1, -1 << 52, -1 << 32, -25, -8, -7, -3, -2, -1, 0, 1, 2, 6, 7, 8, 9, 23, 24, 25, 26, 399, 400, 401, 1<<31 - 1, 1 << 31, 1 << 32, 1<<32 + 5, 1<<52 - 1, 1 << 52, 1<<52 + 1, 1 << 53, math.MaxInt - 1, math.MaxInt}
}

// TestMayNumbers: 14.2, of each kind each number that it has, at its limits, below and above them.
func TestMayNumbers(t *testing.T) {
	within := func(n, least, most int) bool { return n >= least && n <= most }
	for _, n := range edges() {
		for _, meta := range []api.Record{{Kind: api.KMeta}, {Kind: api.KMeta, Epoch: 1 << 52, Lead: true, Parent: -1, Reload: true, From: 24, To: 24}, {Kind: api.KMeta, Epoch: 5, Parent: 7, From: 3, To: 2}} {
			r := meta
			r.Epoch = n
			mayIs(t, r, within(n, 0, api.MaxCsn))
			r = meta
			r.Parent = n
			mayIs(t, r, within(n, -1, 7))
			r = meta
			r.From = n
			mayIs(t, r, within(n, 0, 24))
			r = meta
			r.To = n
			mayIs(t, r, within(n, 0, 24))
		}
		mayIs(t, api.Record{Kind: api.KPurge, N: n}, within(n, 0, api.MaxCsn))
		for _, m := range edges() {
			mayIs(t, api.Record{Kind: api.KFull, Csn: at(n, m)}, within(n, 0, api.MaxCsn) && within(m, 0, api.MaxCsn))
			mayIs(t, api.Record{Kind: api.KDelta, Delta: out(n, m, "o=x")}, within(n, 0, api.MaxCsn) && within(m, 1, api.MaxCsn))
		}
	}
}

// others are records that have one thing that is not zero.
func others() map[string][]api.Record {
	all := map[string][]api.Record{
		"Delta": {{Delta: in(1, 5, org("x"))}, {Delta: out(1, 5, "o=x")}, {Delta: api.Delta{Csn: at(1, 0)}}, {Delta: api.Delta{Csn: at(0, 1)}}, {Delta: api.Delta{Gone: "o=x"}}, {Delta: api.Delta{Entry: en("o=x")}}, {Delta: api.Delta{Entry: en("", "")}}},
		"Lead":  {{Lead: true}}, "Reload": {{Reload: true}},
		"Csn":    {{Csn: at(0, 1)}, {Csn: at(1, 0)}, {Csn: at(-1, 0)}, {Csn: at(0, 1<<52)}},
		"Deltas": {{Deltas: row(0, 0, 1)}, {Deltas: row(1, 5, 2)}, {Deltas: make([]api.Delta, 1)}},
		"Tree":   {{Tree: list(org("x"))}, {Tree: list(en(""))}, {Tree: company()}},
	}
	for _, n := range []int{-1, 1, 5, 24, 1 << 32, 1 << 52, math.MinInt} {
		for name, r := range map[string]api.Record{"Epoch": {Epoch: n}, "Parent": {Parent: n}, "From": {From: n}, "To": {To: n}, "N": {N: n}} {
			all[name] = append(all[name], r)
		}
	}
	return all
}

// TestMayBesides: 14.2, of each kind each thing that it has not, not zero, alone; Lead and Reload may be true in KMeta alone.
func TestMayBesides(t *testing.T) {
	seen := 0
	for _, r := range records() {
		for name, l := range others() {
			if slices.Contains(has(r.Kind), name) {
				continue
			}
			for _, x := range l {
				both := r
				reflect.ValueOf(&both).Elem().FieldByName(name).Set(reflect.ValueOf(x).FieldByName(name))
				mayIs(t, both, false)
				seen++
			}
		}
		// Lists that are empty, of whatever room, are zero.
		r.Deltas = append(make([]api.Delta, 0, 3), r.Deltas...)
		r.Tree = append(make([]api.Entry, 0, 3), r.Tree...)
		r.Delta.Entry.Attrs = append(make([]api.Attr, 0, 3), r.Delta.Entry.Attrs...)
		mayIs(t, r, true)
	}
	for i := range 4 {
		for _, r := range records() {
			r.Lead, r.Reload = i&1 != 0, i&2 != 0
			mayIs(t, r, i == 0 || r.Kind == api.KMeta)
		}
	}
	if seen < 500 {
		t.Error("the test's own: too few", seen)
	}
}

// TestMayDelta: 14.2, KDelta: what chapter 13 says.
func TestMayDelta(t *testing.T) {
	for _, d := range []api.Delta{in(1, 1, org("X")), in(1, 1, unit("a", "o=none")), out(0, 1, "cn=none"), moved(1, 1, "o=x", org("x"))} {
		mayIs(t, api.Record{Kind: api.KDelta, Delta: d}, true)
	}
	for _, d := range []api.Delta{{}, {Csn: at(1, 1)}, in(1, 0, org("x")), in(-1, 1, org("x")), out(1, 1, "O=x"), out(1, 1, "none"), in(1, 1, en("o=x")), in(1, 1, en("o=x", "o:y", "objectclass:organization")), in(1, 1, en(`o=\78`, "o:x", "objectclass:organization")), in(1, 1, en("o=x", "objectclass:organization", "o:x")), moved(1, 1, "O=x", org("x")), moved(1, 1, "o=x", en("o=x"))} {
		mayIs(t, api.Record{Kind: api.KDelta, Delta: d}, false)
	}
}
