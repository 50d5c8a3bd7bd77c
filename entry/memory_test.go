package entry_test

import (
	"fmt"
	"slices"
	"strings"
	"sync"
	"testing"

	"brook/api"
	"brook/entry"
)

// roomy makes an entry whose lists have spare room, in which something stands.
func roomy() (e api.Entry, whole []api.Attr) {
	whole = en("", "SN:c|b|a|spare", "dc:2|1|spare", "CN:Ann|b|spare", "cn", "spare:spare").Attrs
	for i, a := range whole {
		whole[i].Vals = a.Vals[:max(len(a.Vals)-1, 0)]
	}
	return api.Entry{Dn: `CN=\41`, Attrs: whole[:4]}, whole
}

// all tells what stands in a list of attributes, in their spare room, too.
func all(l []api.Attr) string {
	s := ""
	for _, a := range l[:cap(l)] {
		s += fmt.Sprintf("%q %q %d %d; ", a.Type, a.Vals[:cap(a.Vals)], len(a.Vals), cap(a.Vals))
	}
	return s
}

// TestHandedIn: R3, what is handed in stays, the room behind it, too.
func TestHandedIn(t *testing.T) {
	e, whole := roomy()
	vals := strings.Split("z|y|z|spare", "|")
	was, wasVals := all(whole), fmt.Sprint(vals)
	for range 3 {
		entry.Norm(e)
		for _, typ := range []string{"cn", "SN", "dc", "mail", "zz", "AA", ""} {
			entry.Vals(e, typ)
			entry.Has(e, typ, "b")
			entry.Set(e, typ)
			entry.Set(e, typ, vals[:3]...)
			entry.Set(e, typ, vals[:0]...)
		}
		entry.Same(e, e)
	}
	if all(whole) != was || fmt.Sprint(vals) != wasVals {
		t.Error("R3: what was handed in", all(whole), vals)
	}
}

// spoil writes into all that was told, and into its spare room.
func spoil(e api.Entry) {
	for _, a := range e.Attrs {
		for i := range a.Vals[:cap(a.Vals)] {
			a.Vals[:cap(a.Vals)][i] = "spoilt"
		}
	}
	for i := range e.Attrs[:cap(e.Attrs)] {
		e.Attrs[:cap(e.Attrs)][i] = api.Attr{Type: "spoilt", Vals: []string{"spoilt"}}
	}
}

// TestTold: R3, what is told is new memory: whoever writes into it changes nothing that was handed in, and nothing else that was told.
func TestTold(t *testing.T) {
	e, whole := roomy()
	vals := []string{"z", "y"}
	was := all(whole)
	calls := []func() api.Entry{
		func() api.Entry { return entry.Norm(e) },
		func() api.Entry { return entry.Norm(entry.Norm(e)) },
		func() api.Entry { return entry.Set(e, "cn", vals...) },
		func() api.Entry { return entry.Set(e, "cn") },
		func() api.Entry { return entry.Set(e, "mail", vals...) },
		func() api.Entry { return entry.Set(e, "DC", vals...) },
		func() api.Entry { return entry.Set(e, "none") },
		func() api.Entry {
			return api.Entry{Attrs: []api.Attr{{Vals: entry.Vals(e, "sn")}, {Vals: entry.Vals(e, "cn")}, {Vals: entry.Vals(e, "sn")}}}
		},
	}
	for i, call := range calls {
		first, second := call(), call()
		want := text(first)
		spoil(first)
		if text(second) != want || text(call()) != want || all(whole) != was || !slices.Equal(vals, []string{"z", "y"}) {
			t.Errorf("R3: call %d: %s, %s", i, want, text(second))
		}
	}
	// What is handed in may be written to behind the call.
	for i, call := range calls {
		e, _ = roomy()
		vals = []string{"z", "y"}
		told := call()
		want := text(told)
		spoil(e)
		clear(vals)
		if text(told) != want {
			t.Errorf("R3: call %d: %s, then %s", i, want, text(told))
		}
	}
}

// TestLists: R3, no two lists of one answer share memory, spare room too.
func TestLists(t *testing.T) {
	e, _ := roomy()
	shared := []string{"z", "y", "x"}
	twins := api.Entry{Attrs: []api.Attr{{Type: "cn", Vals: shared}, {Type: "CN", Vals: shared[:1]}, {Type: "sn", Vals: shared[1:]}, {Type: "dc", Vals: shared}, {Type: "o", Vals: shared}}}
	for i, told := range []api.Entry{entry.Norm(e), entry.Norm(twins), entry.Set(e, "mail", "a"), entry.Set(twins, "cn"), entry.Set(twins, "mail", shared...), entry.Set(twins, "o", shared[:2]...), entry.Norm(en("", "cn:a", "cn:b", "cn:c", "cn", "cn:d|e"))} {
		for j, a := range told.Attrs {
			want := slices.Clone(told.Attrs)
			for k, b := range want {
				want[k].Vals = slices.Clone(b.Vals)
			}
			_ = append(a.Vals, "more", "and", "more")
			for k := range a.Vals {
				a.Vals[k] = "spoilt"
				want[j].Vals[k] = "spoilt"
			}
			if text(told) != text(api.Entry{Dn: told.Dn, Attrs: want}) {
				t.Errorf("R3: answer %d, list %d: %s", i, j, text(told))
			}
		}
	}
}

// TestAtOnce: R1, R5: what is told is the same, whoever asks ahead or at once.
func TestAtOnce(t *testing.T) {
	e, _ := roomy()
	norm, set := text(entry.Norm(e)), text(entry.Set(e, "mail", "m"))
	right := make([]bool, 16)
	var done sync.WaitGroup
	for i := range right {
		done.Go(func() {
			ok := true
			for n := range 200 {
				other := en(fmt.Sprint("o=", i), fmt.Sprint("O:", n), "cn:x")
				ok = ok && text(entry.Norm(e)) == norm && text(entry.Set(e, "mail", "m")) == set && entry.Has(e, "cn", "B") && len(entry.Vals(e, "SN")) == 3
				ok = ok && entry.Norm(other).Attrs[1].Vals[0] == fmt.Sprint(n) && !entry.Same(e, other)
			}
			right[i] = ok
		})
	}
	done.Wait()
	for i, ok := range right {
		if !ok {
			t.Error("5.1: at once", i)
		}
	}
}

// TestEnds: R1, long texts and lists end in no long time.
func TestEnds(t *testing.T) {
	const n = 1 << 22
	for _, s := range []string{strings.Repeat("A", n), strings.Repeat(" ", n), strings.Repeat(",", n), strings.Repeat("cn=a,", n), strings.Repeat(`\`, n), "cn=" + strings.Repeat("x", n), strings.Repeat("\xff", n)} {
		e := api.Entry{Dn: s, Attrs: []api.Attr{{Type: s, Vals: []string{s}}, {Type: "CN", Vals: []string{s}}}}
		norm := entry.Norm(e)
		if norm.Dn != s || len(norm.Attrs) != 2 || entry.Vals(e, s)[0] != s || entry.Has(e, s, s) || entry.Has(e, "cn", s) || !entry.Same(e, e) {
			t.Errorf("5.1: of long %q", s[:3])
		}
		if set := entry.Set(e, s, s, s); len(set.Attrs) != 2 || len(entry.Vals(set, s)) != 2 {
			t.Errorf("5.2: of long %q", s[:3])
		}
	}
	many := api.Entry{Attrs: slices.Repeat([]api.Attr{{Type: "SN", Vals: []string{"a"}}, {Type: "cn", Vals: []string{"b"}}}, 1<<17)}
	vals := slices.Repeat([]string{"a"}, 1<<18)
	norm, set := entry.Norm(many), entry.Set(many, "sn", vals...)
	if len(norm.Attrs) != 1<<18 || norm.Attrs[1<<17-1].Type != "cn" || norm.Attrs[1<<17].Type != "sn" || len(set.Attrs) != 1<<17+1 || len(entry.Vals(set, "sn")) != 1<<18 || entry.Has(set, "sn", "b") {
		t.Error("5.1: of many attributes")
	}
}
