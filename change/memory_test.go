package change_test

import (
	"fmt"
	"slices"
	"strings"
	"sync"
	"testing"

	"brook/api"
	"brook/change"
	"brook/entry"
	"brook/tree"
)

// spared gives the lists of an entry spare room, in which something stands.
func spared(e api.Entry) api.Entry {
	for i, a := range e.Attrs {
		e.Attrs[i].Vals = append(slices.Clip(a.Vals), "spare")[:len(a.Vals)]
	}
	e.Attrs = append(slices.Clip(e.Attrs), api.Attr{Type: "spare", Vals: []string{"spare"}})[:len(e.Attrs)]
	return e
}

// given is all that is handed in, with spare room everywhere.
type given struct {
	tree []api.Entry
	e    api.Entry
	mods []api.Mod
}

func roomy(t *testing.T) given {
	t.Helper()
	room := append(staff(t), org("spare"))
	for i := range room {
		room[i] = spared(room[i])
	}
	// Not its own norm, so that something is done to it.
	e := spared(en(`CN=\46lo,o=y`, "SN:S|T", "objectClass:person", "CN:Flo|F"))
	mods := modsOf("add description:new|newer|spare", "del description:d|spare", "rep sn:T|U|spare", "del userpassword:spare", "add userpassword:q|spare", "rep mail:spare", "spare spare:spare")
	for i, m := range mods {
		mods[i].Vals = m.Vals[:len(m.Vals)-1]
	}
	return given{room[:len(room)-1], e, mods[:6]}
}

// whole tells what stands in all that was handed in, in its spare room, too.
func (g given) whole() string {
	s := ""
	for _, e := range append(slices.Clone(g.tree[:cap(g.tree)]), g.e) {
		s += fmt.Sprintf("%q %d;", e.Dn, len(e.Attrs))
		for _, a := range e.Attrs[:cap(e.Attrs)] {
			s += fmt.Sprintf(" %q %q %d;", a.Type, a.Vals[:cap(a.Vals)], len(a.Vals))
		}
	}
	for _, m := range g.mods[:cap(g.mods)] {
		s += fmt.Sprintf("%d %q %q %d;", m.Kind, m.Type, m.Vals[:cap(m.Vals)], len(m.Vals))
	}
	return s
}

// calls are some of each kind that tell a delta, and some that tell a code.
func (g given) calls() []func() (api.Delta, int) {
	modify := func(name string, n int) func() (api.Delta, int) {
		return func() (api.Delta, int) { return change.Modify(g.tree, name, g.mods[:n]...) }
	}
	rename := func(name, rdn string, old bool) func() (api.Delta, int) {
		return func() (api.Delta, int) { return change.Rename(g.tree, name, rdn, old) }
	}
	return []func() (api.Delta, int){
		func() (api.Delta, int) { return change.Add(g.tree, g.e) },
		func() (api.Delta, int) { return change.Add(g.tree, g.tree[0]) },
		func() (api.Delta, int) { return change.Delete(g.tree, "cn=eve,o=x") },
		func() (api.Delta, int) { return change.Delete(g.tree, "o=x") },
		modify(staffName, 0), modify(staffName, 1), modify(staffName, 2), modify(staffName, 3), modify(staffName, 5), modify("o=x", 0), modify("cn=eve,o=x", 1), modify("o=y", 3), modify("no", 3),
		rename(staffName, "cn=New", true), rename(staffName, "cn=New", false), rename(staffName, "cn=Cyan", true), rename(staffName, "cn=Cyan", false), rename(staffName, "cn=Cy", true), rename(staffName, "sn=s", true), rename("o=y", "o=x", true), rename("ou=b,o=x", "ou=new", true),
	}
}

// TestHandedIn: R3, what is handed in stays, the room behind it, too.
func TestHandedIn(t *testing.T) {
	g := roomy(t)
	was := g.whole()
	deltas := 0
	for range 3 {
		for i, call := range g.calls() {
			if _, code := call(); code == api.Success {
				deltas++
			}
			if g.whole() != was {
				t.Fatal("R3: what was handed in, behind call", i, g.whole())
			}
		}
		change.Add(g.tree[:1], g.e)
		change.Modify(g.tree, staffName, g.mods...)
		change.Rename(g.tree[:len(g.tree)-1], staffName, "cn=New", true)
		if g.whole() != was {
			t.Fatal("R3: what was handed in", g.whole())
		}
	}
	if deltas < 3*14 {
		t.Error("the test's own: too few", deltas)
	}
}

// spoil writes into all of a delta, and into its spare room.
func spoil(d api.Delta) {
	for _, a := range d.Entry.Attrs {
		for i := range a.Vals[:cap(a.Vals)] {
			a.Vals[:cap(a.Vals)][i] = "spoilt"
		}
	}
	for i := range d.Entry.Attrs[:cap(d.Entry.Attrs)] {
		d.Entry.Attrs[:cap(d.Entry.Attrs)][i] = api.Attr{Type: "spoilt", Vals: []string{"spoilt"}}
	}
}

// spoilAll writes into all that was handed in.
func (g given) spoilAll() {
	for i, e := range append(slices.Clone(g.tree), g.e) {
		spoil(api.Delta{Entry: e})
		if i < len(g.tree) {
			g.tree[i] = api.Entry{Dn: "spoilt"}
		}
	}
	for i, m := range g.mods {
		for j := range m.Vals {
			m.Vals[j] = "spoilt"
		}
		g.mods[i] = api.Mod{}
	}
}

// TestTold: R3, what is told is new memory: whoever writes into it changes nothing that was handed in, and nothing else that was told.
func TestTold(t *testing.T) {
	g := roomy(t)
	was := g.whole()
	for i, call := range g.calls() {
		first, code := call()
		second, _ := call()
		want := told(first, code)
		spoil(first)
		if told(second, code) != want || told(call()) != want || g.whole() != was {
			t.Errorf("R3: call %d: %s, %s", i, want, told(second, code))
		}
	}
	// What is handed in may be written to behind the call.
	for i := range g.calls() {
		g := roomy(t)
		d, code := g.calls()[i]()
		want := told(d, code)
		g.spoilAll()
		if told(d, code) != want {
			t.Errorf("R3: call %d: %s, then %s", i, want, told(d, code))
		}
	}
}

// TestLists: R3, no two lists of one answer share memory, spare room too, even where those that were handed in do.
func TestLists(t *testing.T) {
	g := roomy(t)
	shared := []string{"Twin", "T", "spare"}[:2]
	twins := api.Entry{Dn: "cn=Twin,o=x", Attrs: []api.Attr{{Type: "sn", Vals: shared}, {Type: "CN", Vals: shared[:1]}, {Type: "objectClass", Vals: []string{"person"}}, {Type: "description", Vals: shared[1:]}}}
	mods := []api.Mod{{Kind: api.MRep, Type: "sn", Vals: shared}, {Kind: api.MAdd, Type: "cn", Vals: shared}, {Kind: api.MRep, Type: "description", Vals: shared[:1]}, {Kind: api.MRep, Type: "userpassword", Vals: shared[1:]}}
	calls := append(g.calls(),
		func() (api.Delta, int) { return change.Add(g.tree, twins) },
		func() (api.Delta, int) { return change.Modify(g.tree, "cn=eve,o=x", mods...) },
		func() (api.Delta, int) { return change.Modify(g.tree, staffName, mods...) },
	)
	for i, call := range calls {
		d, code := call()
		for j, a := range d.Entry.Attrs {
			want := api.Delta{Gone: d.Gone, Entry: api.Entry{Dn: d.Entry.Dn}}
			for _, b := range d.Entry.Attrs {
				want.Entry.Attrs = append(want.Entry.Attrs, api.Attr{Type: b.Type, Vals: slices.Clone(b.Vals)})
			}
			_ = append(a.Vals, "more", "and", "more")
			for k := range a.Vals {
				a.Vals[k] = "spoilt"
				want.Entry.Attrs[j].Vals[k] = "spoilt"
			}
			if told(d, code) != told(want, code) {
				t.Errorf("R3: answer %d, list %d: %s", i, j, told(d, code))
			}
		}
	}
	if slices.Contains(shared[:3], "spoilt") || shared[:3][2] != "spare" {
		t.Error("R3: what was handed in", shared[:3])
	}
}

// TestNotKept: R1, R3, nothing of a tree is remembered: of the same memory with others in it the answers are theirs.
func TestNotKept(t *testing.T) {
	g := roomy(t)
	if _, code := change.Modify(g.tree, "o=y"); code != api.Success {
		t.Fatal("9.2:", code)
	}
	at := tree.Find(g.tree, "o=y")
	g.tree[at] = org("yy")
	if got := told(change.Modify(g.tree, "o=y")); got != refused(api.NoObject) {
		t.Error("R1: of another entry in the same memory", got)
	}
	if got := told(change.Add(g.tree, g.e)); got != refused(api.NoObject) {
		t.Error("R1: of another entry in the same memory", got)
	}
	if got := told(change.Delete(g.tree, "o=YY")); got != told(api.Delta{Gone: "o=yy"}, api.Success) {
		t.Error("R1: of another entry in the same memory", got)
	}
	g.tree[at].Attrs[0].Vals[0] = "none"
	if got := told(change.Modify(g.tree, "o=yy")); got != refused(api.NotOnRdn) {
		t.Error("R1: of another value in the same memory", got)
	}
}

// TestAtOnce: R1, R5: what is told is the same, whoever asks ahead or at once.
func TestAtOnce(t *testing.T) {
	g := roomy(t)
	var want []string
	for _, call := range g.calls() {
		want = append(want, told(call()))
	}
	right := make([]bool, 16)
	var done sync.WaitGroup
	for i := range right {
		done.Go(func() {
			ok := true
			for n := range 20 {
				for j, call := range g.calls() {
					ok = ok && told(call()) == want[j]
				}
				d, code := change.Modify(g.tree, "o=x", modsOf(fmt.Sprint("add description:", i, "|", n, "x"))...)
				ok = ok && code == api.Success && d.Entry.Attrs[0].Vals[0] == fmt.Sprint(i)
			}
			right[i] = ok
		})
	}
	done.Wait()
	for i, ok := range right {
		if !ok {
			t.Error("9: at once", i)
		}
	}
}

// TestEnds: R1, long texts and lists end in no long time.
func TestEnds(t *testing.T) {
	l := staff(t)
	const n = 1 << 22
	for _, s := range []string{strings.Repeat("A", n), strings.Repeat(" ", n), strings.Repeat(",", n), strings.Repeat("cn=a,", n), strings.Repeat(`\`, n), "cn=" + strings.Repeat("x", n), strings.Repeat("\xff", n)} {
		for i, got := range []string{told(change.Add(l, api.Entry{Dn: s})), told(change.Delete(l, s)), told(change.Modify(l, s)), told(change.Rename(l, s, "cn=x", true)), told(change.Rename(l, "cn=eve,o=x", s, true))} {
			if got != refused(api.BadDn) {
				t.Errorf("9: %d of long %q: %s", i, s[:3], got)
			}
		}
		for i, c := range []struct {
			m    api.Mod
			code int
		}{{api.Mod{Kind: api.MAdd, Type: s}, api.UndefinedType}, {api.Mod{Kind: api.MAdd, Type: "sn", Vals: []string{s}}, api.BadSyntax}, {api.Mod{Kind: api.MDel, Type: "sn", Vals: []string{s}}, api.NoAttribute}, {api.Mod{Kind: api.MRep, Type: "sn", Vals: []string{s}}, api.BadSyntax}} {
			if got := told(change.Modify(l, staffName, c.m)); got != refused(c.code) {
				t.Errorf("9.2: Modify %d of long %q: %s", i, s[:3], got)
			}
		}
	}
	if got := told(change.Add(l, api.Entry{Dn: "o=z", Attrs: make([]api.Attr, n)})); got != refused(api.Constraint) {
		t.Error("9.1: of many attributes", got)
	}
}

// TestManyValues: R1, mods of many values, and many mods, each on what those ahead of it left, end in no long time.
func TestManyValues(t *testing.T) {
	l := staff(t)
	const n = 1 << 16
	text := func(i int) string { return fmt.Sprint("w", i) }
	var all []string
	var one []api.Mod
	for i := range n {
		all = append(all, text(i))
		one = append(one, api.Mod{Kind: api.MAdd, Type: "description", Vals: all[i : i+1]})
	}
	swap := slices.Clone(one)
	for i := 1; i < n; i += 2 {
		swap[i] = api.Mod{Kind: api.MDel, Type: "description", Vals: all[i-1 : i]}
	}
	del := api.Mod{Kind: api.MDel, Type: "Description", Vals: slices.Concat(all, all)}
	del.Vals = append(del.Vals, "E  F")
	for i, c := range []struct {
		mods []api.Mod
		code int
	}{
		{one, api.Constraint},
		{append(slices.Clone(one), one[n/2]), api.ValueExists},
		{append(slices.Clone(one), api.Mod{Kind: api.MRep, Type: "description"}), api.Success},
		{append(slices.Clone(one), del), api.Success},
		{append(slices.Clone(one), del, one[0]), api.Success},
		{[]api.Mod{{Kind: api.MAdd, Type: "description", Vals: all}, del}, api.Success},
		{[]api.Mod{{Kind: api.MAdd, Type: "description", Vals: append(slices.Clone(all), "W0")}}, api.ValueExists},
		{[]api.Mod{{Kind: api.MRep, Type: "description", Vals: slices.Concat(all, all)}, del}, api.NoAttribute},
		{append([]api.Mod{{Kind: api.MRep, Type: "description", Vals: append(slices.Repeat([]string{"same"}, n), "")}}, swap...), api.Constraint},
		{append([]api.Mod{{Kind: api.MRep, Type: "description", Vals: slices.Repeat([]string{"same"}, n)}, {Kind: api.MDel, Type: "description", Vals: slices.Repeat([]string{" SAME"}, n)}}, swap...), api.Success},
		{append(slices.Repeat([]api.Mod{{Kind: api.MRep, Type: "sn", Vals: all[:30]}}, n/16), swap...), api.Success},
	} {
		d, code := change.Modify(l, staffName, c.mods...)
		if code != c.code || code != api.Success && told(d, code) != refused(code) {
			t.Errorf("9.2: Modify by many, %d: %d", i, code)
		}
		if code == api.Success {
			behind(t, l, d)
		}
	}
}

// TestNoTrees: R1, of lists that may not be nothing is said, but that each call ends, with the same answer again, and leaves what was handed in.
func TestNoTrees(t *testing.T) {
	l := company(t)
	odd := []api.Entry{{}, en("no name"), en("o=X", "O:x", "o:x|X|", "dc:d", "dc"), en("o=x", "sn"), en(`cn=\41nn`, "objectclass"), en("cn=Ann,o=x"), en("dc=x", "dc:x"), en("", "o:x")}
	lists := [][]api.Entry{odd, slices.Concat(odd, odd), slices.Concat(l, odd), slices.Concat(odd, l), slices.Concat(l, l), slices.Repeat(odd, 1<<9), make([]api.Entry, 1<<13)}
	slices.Reverse(l)
	lists = append(lists, l)
	var mods []api.Mod
	for kind := range 5 {
		for _, typ := range []string{"o", "DC", "sn", "cn", ""} {
			mods = append(mods, api.Mod{Kind: kind, Type: typ}, api.Mod{Kind: kind, Type: typ, Vals: []string{"x", ""}}, api.Mod{Kind: kind, Type: typ, Vals: []string{"y"}})
		}
	}
	for i, l := range lists {
		was := slices.Clone(l)
		for _, name := range []string{"", "no name", "o=x", "cn=ann", "cn=ann,o=x", "dc=x", "o=y", "ou=a,o=x"} {
			ask := func() string {
				s := told(change.Add(l, org("q"))) + told(change.Delete(l, name)) + told(change.Modify(l, name))
				for _, m := range mods[:min(len(mods), 1<<20/(len(l)+1))] {
					s += told(change.Modify(l, name, m, m))
				}
				for _, rdn := range []string{"", "o=x", "dc=y", "CN=Bea", `cn=\20`} {
					s += told(change.Rename(l, name, rdn, true)) + told(change.Rename(l, name, rdn, false))
				}
				return s
			}
			if first := ask(); first != ask() {
				t.Errorf("R1: of list %d and %q", i, name)
			}
		}
		if !slices.EqualFunc(was, l, entry.Same) {
			t.Errorf("R3: list %d", i)
		}
	}
}
