package find_test

import (
	"fmt"
	"slices"
	"strings"
	"sync"
	"testing"

	"brook/acl"
	"brook/api"
	"brook/find"
	"brook/tree"
)

// given is all that is handed in, with spare room everywhere, in which something stands.
type given struct {
	l     []api.Entry
	rules []api.Rule
	m     api.Msg
}

// spare takes the last of each list away, so that it stands in the spare room.
func spare(e api.Entry) api.Entry {
	for i, a := range e.Attrs {
		e.Attrs[i].Vals = append(a.Vals, "spare")[:len(a.Vals)]
	}
	e.Attrs = append(e.Attrs, api.Attr{Type: "spare", Vals: []string{"spare"}})[:len(e.Attrs)]
	return e
}

func roomy(t *testing.T) given {
	t.Helper()
	l := append(company(), org("spare"))
	for i := range l {
		l[i] = spare(l[i])
	}
	rules := append(house(), rule(api.WAny, "", "", true, api.Write, "spare"))
	for i, r := range rules {
		rules[i].Types = append(r.Types, "spare")[:len(r.Types)]
	}
	m := ask(t, "", api.Sub, 0, "(|(!(&(cn=*)(sn=zz)))(mail=a*b*c))", "CN", "ou", "description", "sn", "o", "Mail", "spare")
	m.Types = m.Types[:6]
	m.Filter.Kids = append(m.Filter.Kids, api.Filter{Val: "spare"})[:2]
	m.Filter.Kids[1].Parts = append(m.Filter.Kids[1].Parts, "spare")[:3]
	g := given{l[:9], rules[:len(rules)-1], m}
	if !tree.May(g.l) || !acl.May(g.rules) {
		t.Fatal("the test's own")
	}
	return g
}

// whole tells what stands in all that was handed in, in its spare room, too.
func (g given) whole() string {
	kids := g.m.Filter.Kids
	s := fmt.Sprintf("%q %q %d %+v %d %q;", g.m.Dn, g.m.Types[:cap(g.m.Types)], len(g.m.Types), kids[:cap(kids)], len(kids), kids[1].Parts[:cap(kids[1].Parts)])
	for _, r := range g.rules[:cap(g.rules)] {
		s += fmt.Sprintf(" %d %q %q %v %d %q %d;", r.Who, r.Dn, r.Target, r.Deep, r.Right, r.Types[:cap(r.Types)], len(r.Types))
	}
	for _, e := range g.l[:cap(g.l)] {
		s += fmt.Sprintf("%q %d;", e.Dn, len(e.Attrs))
		for _, a := range e.Attrs[:cap(e.Attrs)] {
			s += fmt.Sprintf(" %q %q %d;", a.Type, a.Vals[:cap(a.Vals)], len(a.Vals))
		}
	}
	return s
}

// people are some who ask.
var people = []string{"", annKey, eveKey, danKey, "cn=nobody"}

// forms are messages that go each their way through Search.
func (g given) forms() []api.Msg {
	all, few := g.m, g.m
	all.Types, few.Limit = nil, 2
	star := g.m
	star.Types = []string{"*"}
	base := all
	base.Dn, base.Scope = "OU=a,o=x", api.One
	wrong := all
	wrong.Dn = "o=z"
	return []api.Msg{g.m, all, few, star, base, wrong}
}

// TestHandedIn: R3, what is handed in stays, the room behind it, too; R1, nothing of it is remembered.
func TestHandedIn(t *testing.T) {
	g := roomy(t)
	was := g.whole()
	var told []string
	for range 3 {
		s := ""
		for _, who := range people {
			for _, m := range g.forms() {
				got, code := find.Search(g.l, g.rules, who, m)
				s += text(got) + fmt.Sprint(code, ";")
			}
			s += fmt.Sprint(find.Compare(g.l, g.rules, who, "CN=Ann,ou=a,o=x", "Cn", " ANN"), find.Compare(g.l, g.rules, who, "o=x", "ou", ""))
		}
		told = append(told, s)
		if g.whole() != was {
			t.Fatal("R3: what was handed in", g.whole())
		}
	}
	if told[0] != told[1] || told[0] != told[2] || strings.Contains(told[0], "spare") {
		t.Error("R1: the same asked again", told)
	}
}

// TestSameMemory: R1, other things in the same memory are others.
func TestSameMemory(t *testing.T) {
	g := roomy(t)
	g.rules = list(rule(api.WAny, "", "", true, api.Read, "cn", "ou", "o"))
	g.m = ask(t, "o=x", api.One, 0, "(|(cn=*)(ou=*)(o=*))", "cn", "ou")
	for i, c := range []struct {
		do      func()
		want    string
		code    int
		compare int
	}{
		{func() {}, "cn=Eve,o=x: cn; ou=a,o=x: ou; ou=b,o=x: ou", 0, api.CompareTrue},
		{func() { g.m.Types[0] = "o" }, "cn=Eve,o=x:; ou=a,o=x: ou; ou=b,o=x: ou", 0, api.CompareTrue},
		{func() { g.m.Types[0] = "*" }, "cn=Eve,o=x: cn; ou=a,o=x: ou; ou=b,o=x: ou", 0, api.CompareTrue},
		{func() { g.m.Filter.Kids[1].Type = "o" }, "cn=Eve,o=x: cn", 0, api.CompareTrue},
		{func() { g.rules[0].Types[0] = "sn" }, "", 0, api.NoRight},
		{func() { g.m.Filter.Kids[0].Type = "sn" }, "cn=Eve,o=x: sn", 0, api.NoRight},
		{func() { g.m.Filter.Kids[0].Kind = 0 }, "", api.ProtocolError, api.NoRight},
		{func() { g.m.Filter.Kids[0] = api.Filter{Kind: api.FAnd} }, "cn=Eve,o=x: sn; ou=a,o=x: ou; ou=b,o=x: ou", 0, api.NoRight},
		{func() { g.rules[0].Target = "o=y" }, "", 0, api.NoRight},
		{func() { g.rules[0].Target, g.rules[0].Types[0] = "cn=eve,o=x", "cn" }, "cn=Eve,o=x: cn", 0, api.CompareTrue},
		{func() { g.l[3].Attrs[0].Vals[0], g.l[3].Attrs[0].Vals[1] = "Fay", "x" }, "cn=Eve,o=x: cn", 0, api.CompareFalse},
		{func() { g.l[3].Dn = "cn=Eve,o=y" }, "", 0, api.NoObject},
		{func() { g.l[4].Dn = "o=w" }, "", api.NoObject, api.NoObject},
	} {
		c.do()
		got, code := find.Search(g.l, g.rules, "", g.m)
		if compare := find.Compare(g.l, g.rules, "", eveKey, "cn", "eve"); types(got) != c.want || code != c.code || compare != c.compare {
			t.Errorf("R1: behind change %d: %q, %d, %d", i, types(got), code, compare)
		}
	}
}

// spoil writes into all of a list that was told, and into its spare room.
func spoil(l []api.Entry) {
	for _, e := range l {
		for _, a := range e.Attrs {
			for i := range a.Vals[:cap(a.Vals)] {
				a.Vals[:cap(a.Vals)][i] = "spoilt"
			}
		}
		for i := range e.Attrs[:cap(e.Attrs)] {
			e.Attrs[:cap(e.Attrs)][i] = api.Attr{Type: "spoilt", Vals: []string{"spoilt"}}
		}
	}
	for i := range l[:cap(l)] {
		l[:cap(l)][i] = en("spoilt", "spoilt:spoilt")
	}
}

// TestTold: R3, what is told is new memory: whoever writes into it changes nothing that was handed in, and nothing else that was told.
func TestTold(t *testing.T) {
	for _, who := range people {
		for i := range roomy(t).forms() {
			g := roomy(t)
			m, was := g.forms()[i], g.whole()
			call := func() []api.Entry {
				l, _ := find.Search(g.l, g.rules, who, m)
				return l
			}
			first, second := call(), call()
			want := text(first)
			_ = append(first, en("more"), en("more"))
			for _, e := range first {
				_ = append(e.Attrs, api.Attr{Type: "more"}, api.Attr{Type: "more"})
				for _, a := range e.Attrs {
					_ = append(a.Vals, "more", "and", "more")
				}
			}
			spoil(first)
			if text(second) != want || text(call()) != want || g.whole() != was {
				t.Errorf("R3: what is told to %q of %d: %s, %s", who, i, want, text(second))
			}
			// What is handed in may be written to behind the call.
			spoil(g.l)
			for j := range g.rules {
				clear(g.rules[j].Types)
			}
			clear(g.rules)
			clear(g.m.Types)
			clear(g.m.Filter.Kids)
			if text(second) != want {
				t.Errorf("R3: what was told to %q of %d: %s, then %s", who, i, want, text(second))
			}
		}
	}
}

// twins is a tree whose entries share all of their memory.
func twins(t *testing.T) []api.Entry {
	t.Helper()
	vals := []string{"x", "z", "spare"}
	attrs := []api.Attr{{Type: "cn", Vals: vals[:2]}, {Type: "description", Vals: vals[:1]}, {Type: "objectclass", Vals: []string{"person"}}, {Type: "sn", Vals: vals[1:2]}}
	var l []api.Entry
	for _, name := range []string{"cn=x", "cn=x,cn=x", "cn=z", "cn=z,cn=x"} {
		l = append(l, api.Entry{Dn: name, Attrs: attrs})
	}
	if !tree.May(l) {
		t.Fatal("the test's own", text(l))
	}
	return l
}

// TestLists: R3, no two lists of one answer share memory, spare room too, even where those that were handed in do.
func TestLists(t *testing.T) {
	l := twins(t)
	was := text(l)
	for _, m := range []api.Msg{ask(t, "", api.Sub, 0, "(&)"), ask(t, "", api.Sub, 3, "(cn=x)", "sn", "Description", "cn", "cn"), ask(t, "cn=x", api.One, 0, "(&)", "*")} {
		for _, rules := range [][]api.Rule{open(), list(rule(api.WAny, "", "", true, api.Write, "cn", "sn", "description"))} {
			told, _ := find.Search(l, rules, "", m)
			if len(told) < 2 {
				t.Fatal("the test's own", text(told))
			}
			for j, e := range told {
				was := text(told[:j]) + text(told[j+1:])
				_ = append(e.Attrs, api.Attr{Type: "more"}, api.Attr{Type: "more"})
				for k, a := range e.Attrs {
					others := text([]api.Entry{{Attrs: e.Attrs[:k]}, {Attrs: e.Attrs[k+1:]}})
					_ = append(a.Vals, "more", "and", "more")
					for n := range a.Vals[:cap(a.Vals)] {
						a.Vals[:cap(a.Vals)][n] = fmt.Sprint("spoilt", j, k)
					}
					if text([]api.Entry{{Attrs: e.Attrs[:k]}, {Attrs: e.Attrs[k+1:]}}) != others {
						t.Errorf("R3: entry %d, list %d", j, k)
					}
				}
				spoil(told[j : j+1 : j+1])
				if text(told[:j])+text(told[j+1:]) != was {
					t.Errorf("R3: entry %d: %s", j, text(told))
				}
			}
		}
	}
	if text(l) != was {
		t.Error("R3: what was handed in", text(l))
	}
}

// TestAtOnce: R1, R5: what is told is the same, whoever asks ahead or at once.
func TestAtOnce(t *testing.T) {
	g := roomy(t)
	var want []string
	for _, who := range people {
		l, code := find.Search(g.l, g.rules, who, g.m)
		want = append(want, text(l)+fmt.Sprint(code, find.Compare(g.l, g.rules, who, annKey, "mail", "ann@x")))
	}
	m := ask(t, "", api.Sub, 1, "(sn=*)", "cn")
	right := make([]bool, 16)
	var done sync.WaitGroup
	for i := range right {
		done.Go(func() {
			ok := true
			for n := range 60 {
				k := (n + i) % len(people)
				l, code := find.Search(g.l, g.rules, people[k], g.m)
				ok = ok && text(l)+fmt.Sprint(code, find.Compare(g.l, g.rules, people[k], annKey, "mail", "ann@x")) == want[k]
				own := []api.Entry{person(fmt.Sprint("a", i), "o=x"), person(fmt.Sprint("b", n), "o=x"), org("x")}
				l, code = find.Search(own, open(), "", m)
				ok = ok && types(l) == fmt.Sprint("cn=a", i, ",o=x: cn") && code == api.SizeExceeded
			}
			right[i] = ok
		})
	}
	done.Wait()
	for i, ok := range right {
		if !ok {
			t.Error("11: at once", i)
		}
	}
}

// TestEnds: R1, long texts end in no long time.
func TestEnds(t *testing.T) {
	const n = 1 << 22
	m := ask(t, "", api.Sub, 0, "(&)")
	for _, s := range []string{"a", "A", " ", ",", "o=a,", `\`, `\,`, "\xff", "*"} {
		long := strings.Repeat(s, n)
		named, asked, filtered := m, m, m
		named.Dn, asked.Types, filtered.Filter = long, []string{long, "sn"}, api.Filter{Kind: api.FEq, Type: "cn", Val: long}
		if _, code := find.Search(company(), open(), "", named); code != api.BadDn {
			t.Errorf("11.1: of long %q: %d", s, code)
		}
		if _, code := find.Search(company(), open(), "", filtered); code != api.ProtocolError {
			t.Errorf("11.1: of a filter of long %q: %d", s, code)
		}
		if l, code := find.Search(company(), open(), long, asked); len(l) != 9 || len(l[0].Attrs) != 1 || code != api.Success {
			t.Errorf("11.1: of Types of long %q: %d", s, code)
		}
		for _, c := range []struct{ who, name, typ, val string }{{long, annKey, "cn", "ann"}, {"", long, "cn", "ann"}, {"", annKey, long, "ann"}, {"", annKey, "cn", long}} {
			want := map[bool]int{c.name == long: api.BadDn, c.typ == long: api.UndefinedType, c.val == long: api.BadSyntax, c.who == long: api.CompareTrue}[true]
			if code := find.Compare(company(), open(), c.who, c.name, c.typ, c.val); code != want {
				t.Errorf("11.2: of long %q: %d, not %d", s, code, want)
			}
		}
	}
}

// TestEndsMany: R1, of very many Types, entries, attributes and filters, which end in no long time.
func TestEndsMany(t *testing.T) {
	full := ask(t, "", api.Sub, 0, "(&)", slices.Repeat([]string{"sn", "none", "x"}, 1<<19)...)
	full.Types = append(full.Types, "Cn")
	l, code := find.Search(company(), open(), "", full)
	if len(l) != 9 || types(l[:1]) != "cn=Ann,ou=a,o=x: cn sn" || code != api.Success {
		t.Error("11.1: of very many Types", types(l))
	}
	many := []api.Entry{org("x")}
	for i := range 1 << 15 {
		many = append(many, person(fmt.Sprintf("p%06d", i), "o=x"))
	}
	l, code = find.Search(many, open(), "", ask(t, "o=x", api.One, 0, "(uid=p0*)", "cn", "sn"))
	if len(l) != 1<<15 || code != api.Success || find.Compare(many, open(), "", "cn=p000007,o=x", "uid", "P000007") != api.CompareTrue {
		t.Error("11.1: of very many entries", len(l), code)
	}
	wide := []api.Entry{{Dn: "o=x", Attrs: slices.Repeat([]api.Attr{{Type: "SN", Vals: []string{"s"}}, {Type: "cn", Vals: []string{"x"}}}, 1<<17)}}
	l, code = find.Search(wide, open(), "", ask(t, "o=x", api.Base, 0, "(cn=x)", "sn"))
	if len(l) != 1 || len(l[0].Attrs) != 1<<17 || code != api.Success {
		t.Error("11.1: of very many attributes", len(l), code)
	}
	deep := ask(t, "", api.Sub, 1, "(&)")
	for range 1 << 15 {
		deep.Filter = api.Filter{Kind: api.FNot, Kids: []api.Filter{deep.Filter}}
	}
	if l, code := find.Search(company(), open(), "", deep); len(l) != 0 || code != api.ProtocolError {
		t.Error("11.1: of a very deep filter", code)
	}
}
