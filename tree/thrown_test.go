package tree_test

import (
	"fmt"
	"slices"
	"sort"
	"testing"

	"brook/api"
	"brook/dn"
	"brook/entry"
	"brook/schema"
	"brook/tree"
)

// dice is a small generator: the same numbers in each run.
type dice uint32

func (d *dice) below(n int) int {
	*d = *d*1664525 + 1013904223
	return int(*d>>8) % n
}

func (d *dice) of(l ...string) string { return l[d.below(len(l))] }

// mix brings a list into another order.
func (d *dice) mix(l []api.Entry) {
	for i := range l {
		j := d.below(i + 1)
		l[i], l[j] = l[j], l[i]
	}
}

// entry throws one that is its own norm, and for which Check says Success, below a name, or below none.
func (d *dice) entry(up string) api.Entry {
	val := d.of("a", "b", "B", "a b", "A  B", ",", "c,d=e", `\`, "é", "z")
	part := dn.Text([]api.Rdn{{Type: "t", Val: val}})[1:]
	if up != "" {
		part += "," + up
	}
	switch d.below(3) {
	case 0:
		return en(d.of("o", "O")+part, "o:"+val, "objectclass:organization")
	case 1:
		return en(d.of("ou", "OU")+part, "objectclass:organizationalunit", "ou:"+val)
	}
	return en(d.of("cn", "Cn")+part, "cn:"+val, "objectclass:person", "sn:"+d.of("S", "s|T"))
}

// tree throws one that may be: each entry is below one that is there, or below none.
func (d *dice) tree() []api.Entry {
	all := map[string]api.Entry{}
	names := []string{"", ""}
	for range d.below(20) {
		e := d.entry(d.of(names...))
		key, ok := dn.Key(e.Dn)
		if !ok {
			continue
		}
		all[key] = e
		names = append(names, e.Dn)
	}
	return byKey(all)
}

// byKey makes the list of entries by their keys.
func byKey(all map[string]api.Entry) []api.Entry {
	var keys []string
	for key := range all {
		keys = append(keys, key)
	}
	sort.Strings(keys)
	var l []api.Entry
	for _, key := range keys {
		l = append(l, all[key])
	}
	return l
}

// wantedMay is May by the words of 8.1.
func wantedMay(l []api.Entry) bool {
	was := ""
	for _, e := range l {
		key, _ := dn.Key(e.Dn)
		if schema.Check(e) != api.Success || fmt.Sprintf("%q", entry.Norm(e)) != fmt.Sprintf("%q", e) || key <= was {
			return false
		}
		was = key
		up := dn.Up(key)
		if up != "" && !slices.ContainsFunc(l, func(x api.Entry) bool { k, _ := dn.Key(x.Dn); return k == up }) {
			return false
		}
	}
	return len(l) <= api.MaxEntries
}

// wantedKids are Kids by the lists that keys are: those with one part more ahead.
func wantedKids(l []api.Entry, key string) []string {
	above, _ := dn.Parse(key)
	var kids []string
	for _, e := range l {
		k, _ := dn.Key(e.Dn)
		if parts, _ := dn.Parse(k); len(parts) == len(above)+1 && slices.Equal(parts[1:], above) {
			kids = append(kids, k)
		}
	}
	return kids
}

// TestThrown: 8.1, of trees that are thrown, by other means: each key of it, and others, is looked for, put, taken away.
func TestThrown(t *testing.T) {
	d := dice(81)
	for range 400 {
		l := d.tree()
		was := text(l)
		if !tree.May(l) || !wantedMay(l) || !tree.Same(l, l) {
			t.Fatalf("8.1: May of %s", was)
		}
		asked := append(slices.Clone(l), d.entry(""), d.entry("o=a"), d.entry("ou=b,o=a"), d.entry(d.entry("").Dn))
		for _, e := range asked {
			key, ok := dn.Key(e.Dn)
			if !ok || tree.Key(e) != key {
				t.Fatalf("8.1: Key of %q", e.Dn)
			}
			at := slices.IndexFunc(l, func(x api.Entry) bool { k, _ := dn.Key(x.Dn); return k == key })
			if got := tree.Find(l, key); got != at {
				t.Fatalf("8.1: Find of %q in %q: %d", key, keys(l), got)
			}
			if got := tree.Kids(l, key); !slices.Equal(got, wantedKids(l, key)) {
				t.Fatalf("8.1: Kids of %q in %q: %q", key, keys(l), got)
			}
			all := map[string]api.Entry{}
			for _, x := range l {
				k, _ := dn.Key(x.Dn)
				all[k] = x
			}
			put := en(e.Dn, "description:"+d.of("new", "new|old"))
			all[key] = put
			if got := tree.Put(l, put); text(got) != text(byKey(all)) {
				t.Fatalf("8.1: Put of %q into %q: %s", e.Dn, keys(l), text(got))
			}
			delete(all, key)
			got := tree.Del(l, key)
			if text(got) != text(byKey(all)) || tree.Same(got, l) != (at < 0) || tree.May(got) != wantedMay(got) {
				t.Fatalf("8.1: Del of %q in %q: %s", key, keys(l), text(got))
			}
		}
		if got := tree.Kids(l, ""); !slices.Equal(got, wantedKids(l, "")) || text(l) != was {
			t.Fatalf("8.1: Kids of the empty key in %q: %q", keys(l), got)
		}
	}
}

// TestThrownLists: 8.1, of lists of which something may be wrong; R1, whatever they are all calls end, with the same answers again.
func TestThrownLists(t *testing.T) {
	d := dice(18)
	seen := map[bool]int{}
	for range 6000 {
		l := d.tree()
		l = l[:min(len(l), 4)]
		for range d.below(3) {
			e := d.entry(d.of("", "o=a"))
			switch d.below(6) {
			case 0:
				e.Dn = d.of("", "no name", `o=\78`, "o=a", `o=\20`, "O=A")
			case 1:
				slices.Reverse(e.Attrs)
			case 2:
				e.Attrs = e.Attrs[1:]
			case 3:
				e = api.Entry{}
			}
			l = slices.Insert(l, d.below(len(l)+1), e)
		}
		was, may := text(l), wantedMay(l)
		seen[may]++
		if tree.May(l) != may {
			t.Fatalf("8.1: May of %s: %v", was, !may)
		}
		key := d.of("", "o=a", "ou=b,o=a", "no name", "\xff")
		first := answers(l, key)
		// What is asked of another one between them is not remembered.
		answers(l[:len(l)/2], key)
		if again := answers(l, key); again != first || text(l) != was {
			t.Fatalf("R1: of %s: %q, %q", was, first, again)
		}
		if !tree.Same(l, l) || tree.Same(l, append(slices.Clone(l), api.Entry{})) {
			t.Fatalf("8.1: Same of %s", was)
		}
	}
	if seen[true] < 500 || seen[false] < 500 {
		t.Error("the test's own: too few", seen)
	}
}

// answers tells what is answered of a list and a key.
func answers(l []api.Entry, key string) string {
	return fmt.Sprintf("%d %q %q %q %q", tree.Find(l, key), tree.Kids(l, key), tree.Del(l, key), tree.Put(l, en("o=a")), tree.Put(l, en(key)))
}
