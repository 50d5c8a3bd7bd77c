package kept_test

import (
	"fmt"
	"slices"
	"strings"
	"testing"

	"brook/api"
	"brook/ber"
	"brook/delta"
	"brook/kept"
	"brook/tree"
)

// dice is a small generator: the same numbers in each run.
type dice uint32

func (d *dice) below(n int) int {
	*d = *d*1664525 + 1013904223
	return int(*d>>8) % n
}

func (d *dice) of(l ...string) string { return l[d.below(len(l))] }

func (d *dice) num(l ...int) int { return l[d.below(len(l))] }

// entry throws one that is its own norm, and for which Check says Success; what is above it may be none.
func (d *dice) entry() api.Entry {
	val := d.of("a", "b", "B", "a b", "A  B", "c=d", "z", "\x00")
	part := strings.ReplaceAll(val, "\x00", `\00`) + d.of("", "", ",o=a", ",O=b", ",ou=a,o=a")
	switch d.below(3) {
	case 0:
		return en(d.of("o=", "O=")+part, "o:"+val, "objectclass:organization")
	case 1:
		return en(d.of("ou=", "OU=")+part, "objectclass:organizationalunit", "ou:"+val)
	}
	return en(d.of("cn=", "Cn=")+part, "cn:"+val, "objectclass:person", "sn:"+d.of("S", "s|T", "\xff"))
}

// delta throws one that may be.
func (d *dice) delta(c api.Csn) api.Delta {
	what := 1 + d.below(3)
	t := api.Delta{Csn: c}
	if what != 1 {
		t.Gone = d.of("o=a", "o=b", "ou=a,o=a", "cn=none")
	}
	if what != 2 {
		t.Entry = d.entry()
	}
	return t
}

// record throws one that may be.
func (d *dice) record() api.Record {
	r := api.Record{Kind: 1 + d.below(4)}
	edge := func() int {
		return d.num(0, 1, 5, 127, 128, 255, 256, 1<<31, 1<<52-1, 1<<52)
	}
	switch r.Kind {
	case api.KDelta:
		r.Delta = d.delta(at(edge(), max(edge(), 1)))
	case api.KMeta:
		r.Epoch, r.Lead, r.Parent, r.Reload, r.From, r.To = edge(), d.below(2) == 0, d.below(9)-1, d.below(2) == 0, d.below(25), d.below(25)
	case api.KFull:
		r.Csn = at(d.below(300), d.below(300))
		c := r.Csn
		for range d.below(5) {
			c = at(c.Epoch+d.num(0, 0, 1, 200), c.N+1)
			r.Deltas = append(r.Deltas, d.delta(c))
		}
		for range d.below(9) {
			if l := delta.Apply(r.Tree, in(0, 1, d.entry())); tree.May(l) {
				r.Tree = l
			}
		}
	case api.KPurge:
		r.N = edge()
	}
	return r
}

// wrong throws one of which something may be wrong.
func (d *dice) wrong() api.Record {
	r, other := d.record(), d.record()
	for range d.below(3) {
		n := d.num(-1, 0, 1, 7, 8, 24, 25, 1<<52, 1<<52+1, -1<<63)
		switch d.below(16) {
		case 0:
			r.Kind = d.below(7) - 1
		case 1:
			r.Epoch = n
		case 2:
			r.Parent = n
		case 3:
			r.From = n
		case 4:
			r.To = n
		case 5:
			r.N = n
		case 6:
			r.Csn = d.of3(other.Csn, at(n, r.Csn.N), at(r.Csn.Epoch, n))
		case 7:
			r.Lead = !r.Lead
		case 8:
			r.Reload = !r.Reload
		case 9:
			r.Delta = other.Delta
		case 10:
			r.Deltas = other.Deltas
		case 11:
			r.Tree = other.Tree
		case 12:
			slices.Reverse(r.Tree)
		case 13:
			slices.Reverse(r.Deltas)
		case 14:
			r.Deltas, r.Tree = r.Deltas[:0], r.Tree[:0]
		case 15:
			r.Delta = d.delta(at(n, 1))
		}
	}
	return r
}

func (d *dice) of3(a, b, c api.Csn) api.Csn { return []api.Csn{a, b, c}[d.below(3)] }

// TestThrown: 14.2 to 14.4, records of which something may be wrong, held against the chapter's words.
func TestThrown(t *testing.T) {
	d := dice(141)
	seen := map[bool]int{}
	for range 20000 {
		r, other := d.wrong(), d.record()
		was, want := whole(r), wantedMay(r)
		seen[want]++
		if !wantedMay(other) {
			t.Fatal("the test's own:", whole(other))
		}
		s := kept.Put(r)
		if kept.May(r) != want || (s == bytesOf(r)) != want || (s != "") != want {
			t.Fatalf("14.2: May of %s: %v, %x", was, !want, s)
		}
		got, ok := kept.Get(s)
		if ok != want || ok && whole(got) != was || !ok && whole(got) != whole(api.Record{}) {
			t.Fatalf("14.4: Get of Put of %s: %v, %s", was, ok, whole(got))
		}
		// What is asked of another one between them is not remembered.
		kept.Get(kept.Put(other))
		if kept.Put(r) != s || whole(r) != was || kept.Same(r, other) != (was == whole(other)) {
			t.Fatalf("R1: of %s, %s", was, whole(other))
		}
		getIs(t, bytesOf(r))
	}
	if seen[true] < 3000 || seen[false] < 3000 {
		t.Error("the test's own: too few", seen)
	}
}

// TestThrownBytes: 14.3, the bytes of thrown records, in which something is turned, is gone, or stands there besides.
func TestThrownBytes(t *testing.T) {
	d := dice(142)
	seen := map[bool]int{}
	for range 20000 {
		s, other := []byte(kept.Put(d.record())), kept.Put(d.record())
		for range 1 + d.below(2) {
			i, j := d.below(len(s)), d.below(len(s))
			switch d.below(5) {
			case 0:
				s[i] = byte(d.below(256))
			case 1:
				s[i], s[j] = s[j], s[i]
			case 2:
				s = slices.Insert(s, i, byte(d.below(256)))
			case 3:
				s[i] = other[d.below(len(other))]
			case 4:
				s[i] ^= 0x20
			}
		}
		seen[getIs(t, string(s))]++
	}
	if seen[true] < 500 || seen[false] < 3000 {
		t.Error("the test's own: too few", seen)
	}
}

// TestThrownParts: 14.3, tlvs of thrown records, of which one is that of another record, or another one of the same.
func TestThrownParts(t *testing.T) {
	d := dice(143)
	seen := map[bool]int{}
	for range 5000 {
		s, other := kept.Put(d.record()), kept.Put(d.record())
		whole, _, _ := ber.Get(d.of(s, other), 0)
		x := whole
		for d.below(3) > 0 && len(x.L) > 0 {
			x = x.L[d.below(len(x.L))]
		}
		all := each(s, func(api.Tlv, string) string { return ber.Put(x) })
		seen[getIs(t, all[d.below(len(all))])]++
	}
	if seen[true] < 100 || seen[false] < 2000 {
		t.Error("the test's own: too few", seen)
	}
}

// TestEnds: R1, long texts and lists end in no long time, and none panics, whatever it is given.
func TestEnds(t *testing.T) {
	const n = 1 << 21
	for _, s := range []string{"\x30", "\x30\x00", "\x04\x00", "\x02\x01\x04", "\x00", "\xff", "a", ",", "o=a,", `\`, "\x30\x80", "\x30\x83\x10\x00\x00"} {
		long := strings.Repeat(s, n/len(s))
		head := "\x30\x83\x0f\xff\xff"
		for _, x := range []string{long, head + long, "\x30\x83\x10\x00\x00\x02\x01\x03\x02\x01\x00\x02\x01\x00\x30\x83\x0f\xff\xf0" + long, "\x30\x83\x10\x00\x00\x02\x01\x01\x30\x83\x0f\xff\xf0" + long, wire(0x30, num(3), num(0), num(0), wire(0x30, long[:n/4]), wire(0x30, long[:n/4])), wire(0x30, num(1), wire(0x30, num(1), num(1), wire(4, long[:n/4])))} {
			if r, ok := kept.Get(x); ok || whole(r) != whole(api.Record{}) {
				t.Errorf("14.3: Get of long %q", s)
			}
		}
		e := api.Entry{Dn: long, Attrs: []api.Attr{{Type: long, Vals: []string{long, long}}}}
		for _, r := range []api.Record{{Kind: api.KDelta, Delta: in(1, 1, e)}, {Kind: api.KDelta, Delta: out(1, 1, long)}, full(at(0, 0), list(e)), full(at(0, 0), nil, in(0, 1, e)), {Tree: list(e)}} {
			if kept.May(r) || kept.Put(r) != "" || !kept.Same(r, r) || kept.Same(r, api.Record{}) {
				t.Errorf("14.2: of long %q", s)
			}
		}
		if got, ok := kept.ReadEntry(kept.Entry(e)); !ok || fmt.Sprint(len(got.Dn), len(got.Attrs[0].Vals[1])) != fmt.Sprint(len(long), len(long)) {
			t.Errorf("14.1: of long %q", s)
		}
	}
	deep := leaf(4, "x")
	for range 1<<16 - 2 {
		deep = node(0x30, deep)
	}
	wide := node(0x30, leaf(4, "x"), node(0x30, slices.Repeat([]api.Tlv{node(0x30, leaf(4, "o"), node(0x31))}, 1<<18)...))
	if e, ok := kept.ReadEntry(wide); !ok || len(e.Attrs) != 1<<18 || e.Attrs[1<<17].Type != "o" {
		t.Error("14.1: of very many attributes")
	}
	wide.L[1].L[1<<18-1] = deep
	for _, x := range []api.Tlv{deep, wide, node(0x30, leaf(4, "x"), deep), node(0x30, leaf(4, "x"), node(0x30, deep)), node(0x30, deep, deep)} {
		if e, ok := kept.ReadEntry(x); ok || e.Attrs != nil {
			t.Error("14.1: of what is deep")
		}
	}
	for _, r := range []api.Record{full(at(0, 0), nil, make([]api.Delta, 1<<20)...), full(at(0, 0), make([]api.Entry, 1<<20)), {Kind: api.KPurge, Deltas: make([]api.Delta, 1<<20)}} {
		if kept.May(r) || kept.Put(r) != "" || !kept.Same(r, r) {
			t.Error("14.2: of very many")
		}
	}
}
