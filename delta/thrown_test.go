package delta_test

import (
	"fmt"
	"slices"
	"sort"
	"testing"

	"brook/api"
	"brook/delta"
	"brook/dn"
	"brook/entry"
	"brook/schema"
	"brook/tree"
)

// dice is a small generator: the same numbers in each run.
type dice uint32

func (d *dice) below(n int) int {
	*d = *d*1664525 + 1013904223
	return int(*d>>8) % n
}

func (d *dice) of(l ...string) string { return l[d.below(len(l))] }

// entry throws one that is its own norm, and for which Check says Success; what is above it may be none.
func (d *dice) entry() api.Entry {
	val := d.of("a", "b", "B", "a b", "A  B", ",", "c,d=e", `\`, "z")
	part := dn.Text([]api.Rdn{{Type: "t", Val: val}})[1:] + d.of("", "", ",o=a", ",O=b", ",ou=a,o=a")
	switch d.below(3) {
	case 0:
		return en(d.of("o", "O")+part, "o:"+val, "objectclass:organization")
	case 1:
		return en(d.of("ou", "OU")+part, "objectclass:organizationalunit", "ou:"+val)
	}
	return en(d.of("cn", "Cn")+part, "cn:"+val, "objectclass:person", "sn:"+d.of("S", "s|T"))
}

// delta throws one that may be.
func (d *dice) delta() api.Delta {
	c := api.Delta{Csn: api.Csn{Epoch: d.below(9), N: 1 + d.below(99)}}
	what := 1 + d.below(3)
	if what != 1 {
		c.Gone = tree.Key(d.entry())
	}
	if what != 2 {
		c.Entry = d.entry()
	}
	return c
}

// wrong throws one of which something may be wrong.
func (d *dice) wrong() api.Delta {
	c := d.delta()
	for range d.below(3) {
		switch d.below(11) {
		case 0:
			c.Csn.N = []int{0, -1, api.MaxCsn, api.MaxCsn + 1}[d.below(4)]
		case 1:
			c.Csn.Epoch = []int{0, -1, api.MaxCsn, api.MaxCsn + 1}[d.below(4)]
		case 2:
			c.Gone = ""
		case 3:
			c.Gone = d.of("o=a", "O=a", "o=A", "o=a ", "a", ",", `o=\61`, `o=\,`, `o=\2c`, "cn=a,o=a", "cn=a, o=a")
		case 4:
			c.Entry = api.Entry{}
		case 5:
			c.Entry.Dn = d.of("", "o=a", "no name", `o=\61`, `o=\20`)
		case 6:
			c.Entry.Attrs = nil
		case 7:
			c.Entry.Attrs = []api.Attr{}
		case 8:
			slices.Reverse(c.Entry.Attrs)
		case 9:
			c.Entry = entry.Set(c.Entry, d.of("description", "uid", "dc", "objectclass"), d.of("a", "person", "organization"))
		case 10:
			c.Entry = d.entry()
		}
	}
	return c
}

// wantedMay is May by the words of 13.1.
func wantedMay(d api.Delta) bool {
	if d.Csn.Epoch < 0 || d.Csn.Epoch > 1<<52 || d.Csn.N < 1 || d.Csn.N > 1<<52 {
		return false
	}
	zero := fmt.Sprintf("%q", d.Entry) == `{"" []}`
	if d.Gone == "" && zero {
		return false
	}
	if l, ok := dn.Parse(d.Gone); d.Gone != "" {
		if key, is := dn.Key(dn.Text(l)); !ok || !is || key != d.Gone {
			return false
		}
	}
	return zero || schema.Check(d.Entry) == api.Success && tree.Same(tree.Put(nil, d.Entry), list(d.Entry))
}

// byKey makes the list of entries by their keys.
func byKey(all map[string]api.Entry) []api.Entry {
	var l []api.Entry
	for _, e := range all {
		l = append(l, e)
	}
	sort.Slice(l, func(i, j int) bool { return tree.Key(l[i]) < tree.Key(l[j]) })
	return l
}

// whole tells all of a delta; nil lists and empty ones are one.
func whole(d api.Delta) string { return fmt.Sprintf("%d %q %q", d.Csn, d.Gone, d.Entry) }

// TestThrownMay: 13.1, of deltas of which something may be wrong; R1, whatever they are all calls end, with the same answers again.
func TestThrownMay(t *testing.T) {
	d := dice(131)
	seen := map[bool]int{}
	l := company()
	kept := text(l)
	for range 20000 {
		c, other := d.wrong(), d.wrong()
		was, want := whole(c), wantedMay(c)
		seen[want]++
		if delta.May(c) != want {
			t.Fatalf("13.1: May of %s: %v", was, !want)
		}
		first := text(delta.Apply(l, c))
		// What is asked of another one between them is not remembered.
		if got := text(delta.Fold(delta.Apply(l, other), c)); got != text(delta.Fold(l, other, c)) {
			t.Fatalf("13.1: Fold of %s, %s: %s", whole(other), was, got)
		}
		if delta.May(c) != want || text(delta.Apply(l, c)) != first || text(delta.Fold(l, c)) != first || text(l) != kept || whole(c) != was {
			t.Fatalf("R1: of %s", was)
		}
	}
	if seen[true] < 2000 || seen[false] < 2000 {
		t.Error("the test's own: too few", seen)
	}
}

// TestThrownFold: 13.1, 13.2, many deltas, one behind the other, held against a map of keys.
func TestThrownFold(t *testing.T) {
	d := dice(132)
	for range 300 {
		all := map[string]api.Entry{}
		for range d.below(8) {
			e := d.entry()
			all[tree.Key(e)] = e
		}
		l := byKey(all)
		was := text(l)
		var deltas []api.Delta
		now := l
		for range d.below(12) {
			c := d.delta()
			if !delta.May(c) || !wantedMay(c) {
				t.Fatalf("13.1: May of %s", whole(c))
			}
			deltas = append(deltas, c)
			delete(all, c.Gone)
			if c.Entry.Dn != "" {
				all[tree.Key(c.Entry)] = c.Entry
			}
			behind := delta.Apply(now, c)
			if text(behind) != text(byKey(all)) {
				t.Fatalf("13.1: Apply of %s to %q: %s", whole(c), keys(now), text(behind))
			}
			if got := delta.Apply(behind, c); !tree.Same(got, behind) {
				t.Fatalf("13.2: twice %s: %q, then %q", whole(c), keys(behind), keys(got))
			}
			now = behind
		}
		if got := delta.Fold(l, deltas...); text(got) != text(byKey(all)) || text(l) != was {
			t.Fatalf("13.1: Fold of %d to %s: %s", len(deltas), was, text(got))
		}
		// In parts it is the same.
		at := d.below(len(deltas) + 1)
		if got := delta.Fold(delta.Fold(l, deltas[:at]...), deltas[at:]...); text(got) != text(byKey(all)) {
			t.Fatalf("13.1: Fold of %d in parts: %s", len(deltas), text(got))
		}
	}
}

// TestThrownSame: 13.1, Same of one and of what it would be if another thing were thrown in its place, held against the text of all that they are.
func TestThrownSame(t *testing.T) {
	d := dice(133)
	seen := map[bool]int{}
	for range 20000 {
		again := d
		a := d.wrong()
		// Thrown again it is like a, in memory of its own.
		b := again.wrong()
		if !delta.Same(a, b) {
			t.Fatalf("13.1: Same of %s twice", whole(a))
		}
		switch other := d.wrong(); d.below(4) {
		case 0:
			b.Csn = other.Csn
		case 1:
			b.Gone = other.Gone
		case 2:
			b.Entry.Dn = other.Entry.Dn
		case 3:
			b.Entry.Attrs = other.Entry.Attrs
		}
		want := whole(a) == whole(b)
		seen[want]++
		if delta.Same(a, b) != want || delta.Same(b, a) != want {
			t.Fatalf("13.1: Same of %s, %s: %v", whole(a), whole(b), !want)
		}
	}
	if seen[true] < 500 || seen[false] < 2000 {
		t.Error("the test's own: too few", seen)
	}
}
