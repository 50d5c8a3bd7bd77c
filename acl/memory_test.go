package acl_test

import (
	"fmt"
	"slices"
	"strings"
	"sync"
	"testing"

	"brook/acl"
	"brook/api"
)

// given is all that is handed in, with spare room everywhere, in which something stands.
type given struct {
	rules []api.Rule
	e     api.Entry
	types []string
}

func roomy() given {
	rules := list(
		rule(api.WAny, "", "OU=a,o=x", true, api.No, "userpassword", "member", "spare"),
		rule(api.WSelf, "", "O=x", true, api.Write, "mail", "sn", "spare"),
		rule(api.WDn, "CN=Root", "", true, api.Write, "entry", "cn", "spare"),
		rule(api.WUser, "", "o=X", true, api.Read, "spare"),
		rule(api.WAny, "", "o=x", false, api.Read, "spare"),
		rule(api.WAny, "spare", "spare", true, api.Write, "spare"),
	)
	for i, r := range rules {
		rules[i].Types = r.Types[:len(r.Types)-1]
	}
	e := en("CN=Ann,OU=A,O=x", "SN:s|t|spare", "cn:Ann|spare", "userPassword:p|q|spare", "dc:d|spare", "Mail:m|n|o|spare", "cn", "spare:spare")
	for i, a := range e.Attrs {
		e.Attrs[i].Vals = a.Vals[:max(len(a.Vals)-1, 0)]
	}
	e.Attrs = e.Attrs[:6]
	return given{rules[:5], e, []string{"Mail", "sn", "entry", "spare"}[:2]}
}

// whole tells what stands in all that was handed in, in its spare room, too.
func (g given) whole() string {
	s := fmt.Sprintf("%q %d %d %d;", g.types[:cap(g.types)], len(g.types), len(g.rules), len(g.e.Attrs))
	for _, r := range g.rules[:cap(g.rules)] {
		s += fmt.Sprintf(" %d %q %q %v %d %q %d;", r.Who, r.Dn, r.Target, r.Deep, r.Right, r.Types[:cap(r.Types)], len(r.Types))
	}
	for _, a := range g.e.Attrs[:cap(g.e.Attrs)] {
		s += fmt.Sprintf(" %q %q %d;", a.Type, a.Vals[:cap(a.Vals)], len(a.Vals))
	}
	return s + g.e.Dn
}

// people are some who ask: nobody, oneself, the one of Dn, another.
var people = []string{"", "cn=ann,ou=a,o=x", "cn=root", "cn=z"}

// TestHandedIn: R3, what is handed in stays, the room behind it, too; R1, nothing of it is remembered.
func TestHandedIn(t *testing.T) {
	g := roomy()
	was := g.whole()
	if !acl.May(g.rules) {
		t.Fatal("the test's own", was)
	}
	var told []string
	for range 3 {
		for _, who := range people {
			told = append(told, fmt.Sprint(acl.May(g.rules), acl.Right(g.rules, who, g.e, "Cn"), acl.View(g.rules, who, g.e), acl.Gate(g.rules, who, g.e, g.types...)))
		}
		if g.whole() != was {
			t.Fatal("R3: what was handed in", g.whole())
		}
	}
	if n := len(people); !slices.Equal(told[:n], told[n:2*n]) || !slices.Equal(told[:n], told[2*n:]) || told[1] == told[0] || told[1] == told[2] || told[1] == told[3] {
		t.Error("R1: the same asked again", told)
	}
}

// TestSameMemory: R1, other things in the same memory are others.
func TestSameMemory(t *testing.T) {
	g := roomy()
	self := people[1]
	for i, c := range []struct {
		do    func()
		right int
		gate  bool
		types string
	}{
		{func() {}, api.Write, true, "SN cn dc Mail cn"},
		{func() { g.rules[1].Right = api.Read }, api.Read, false, "SN cn dc Mail cn"},
		{func() { g.rules[1].Types[0] = "cn" }, api.Read, false, "SN cn dc Mail cn"},
		{func() { g.rules[3].Right = api.No }, api.No, false, "SN cn cn"},
		{func() { g.e.Attrs[0].Type = "o" }, api.No, false, "cn cn"},
		{func() { g.rules[3].Who, g.rules[3].Right = api.WAny, api.Write }, api.Write, false, "o cn dc Mail cn"},
		{func() { g.types[1] = "cn" }, api.Write, false, "o cn dc Mail cn"},
		{func() { g.rules[1].Types[0] = "o" }, api.Write, true, "o cn dc Mail cn"},
		{func() { g.e.Dn = "o=y" }, api.No, false, ""},
		{func() { g.rules[3].Target = "" }, api.Write, true, "o cn userPassword dc Mail cn"},
		{func() { g.rules[3].Deep = false }, api.No, false, ""},
	} {
		c.do()
		var types []string
		for _, a := range acl.View(g.rules, self, g.e).Attrs {
			types = append(types, a.Type)
		}
		if right, gate := acl.Right(g.rules, self, g.e, "mail"), acl.Gate(g.rules, self, g.e, g.types...); right != c.right || gate != c.gate || strings.Join(types, " ") != c.types {
			t.Errorf("R1: behind change %d: %s, %v, %q", i, rightNames[right], gate, types)
		}
	}
}

// spoil writes into all of an entry, and into its spare room.
func spoil(e api.Entry) {
	for _, a := range e.Attrs {
		for i := range a.Vals[:cap(a.Vals)] {
			a.Vals[:cap(a.Vals)][i] = "spoilt"
		}
	}
	for i := range e.Attrs[:cap(e.Attrs)] {
		e.Attrs[:cap(e.Attrs)][i] = api.Attr{Type: "spoilt", Vals: []string{"spoilt"}}
	}
}

// TestTold: R3, what is told is new memory: whoever writes into it changes nothing that was handed in, and nothing else that was told.
func TestTold(t *testing.T) {
	for i, who := range people {
		g := roomy()
		for _, rules := range [][]api.Rule{g.rules, list(plain()), nil} {
			was := g.whole()
			first, second := acl.View(rules, who, g.e), acl.View(rules, who, g.e)
			want := all(first)
			_ = append(first.Attrs, api.Attr{Type: "more"}, api.Attr{Type: "more"})
			for _, a := range first.Attrs {
				_ = append(a.Vals, "more", "and", "more")
			}
			spoil(first)
			if all(second) != want || all(acl.View(rules, who, g.e)) != want || g.whole() != was {
				t.Errorf("R3: what is told to %d: %s, %s", i, want, all(second))
			}
		}
		// What is handed in may be written to behind the call.
		g = roomy()
		told := acl.View(g.rules, who, g.e)
		want := all(told)
		spoil(g.e)
		for j := range g.rules {
			clear(g.rules[j].Types)
		}
		clear(g.rules)
		if all(told) != want {
			t.Errorf("R3: what was told to %d: %s, then %s", i, want, all(told))
		}
	}
}

// TestLists: R3, no two lists of one answer share memory, spare room too, even where those that were handed in do.
func TestLists(t *testing.T) {
	vals := []string{"x", "y", "z", "spare"}
	twins := api.Entry{Attrs: []api.Attr{{Type: "cn", Vals: vals[:3]}, {Type: "CN", Vals: vals[:2]}, {Type: "sn", Vals: vals[1:2]}, {Type: "cn", Vals: vals[:3]}, {Type: "o", Vals: vals[:0]}, {Type: "cn", Vals: vals[2:3]}}}
	for _, rules := range [][]api.Rule{list(plain()), list(rule(api.WAny, "", "", true, api.Read, "cn")), list(rule(api.WAny, "", "", true, api.Write, "sn", "cn"))} {
		told := acl.View(rules, "", twins)
		if len(told.Attrs) < 4 {
			t.Fatal("the test's own", all(told))
		}
		for j, a := range told.Attrs {
			others := func() string {
				return all(api.Entry{Attrs: told.Attrs[:j]}) + all(api.Entry{Attrs: told.Attrs[j+1:]})
			}
			was := others()
			_ = append(a.Vals, "more", "and", "more")
			for n := range a.Vals[:cap(a.Vals)] {
				a.Vals[:cap(a.Vals)][n] = fmt.Sprint("spoilt", j)
			}
			if others() != was {
				t.Errorf("R3: list %d: %s", j, all(told))
			}
		}
	}
	if fmt.Sprint(vals) != "[x y z spare]" {
		t.Error("R3: what was handed in", vals)
	}
}

// TestAtOnce: R1, R5: what is told is the same, whoever asks ahead or at once.
func TestAtOnce(t *testing.T) {
	g := roomy()
	var want []string
	for _, who := range people {
		want = append(want, all(acl.View(g.rules, who, g.e)))
	}
	right := make([]bool, 16)
	var done sync.WaitGroup
	for i := range right {
		done.Go(func() {
			ok := true
			for n := range 300 {
				k := (n + i) % len(people)
				own := list(rule(api.WDn, fmt.Sprint("cn=", i), fmt.Sprint("o=", n), true, api.Write))
				ok = ok && all(acl.View(g.rules, people[k], g.e)) == want[k] && acl.Gate(g.rules, people[k], g.e, g.types...) == (k == 1) && acl.May(g.rules)
				ok = ok && acl.Right(own, fmt.Sprint("cn=", i), en(fmt.Sprint("cn=a,o=", n)), "cn") == api.Write && !acl.Gate(own, fmt.Sprint("cn=", i+1), en(fmt.Sprint("o=", n)), "cn", "cn")
			}
			right[i] = ok
		})
	}
	done.Wait()
	for i, ok := range right {
		if !ok {
			t.Error("10.2: at once", i)
		}
	}
}

// TestEnds: R1, long texts and lists end in no long time.
func TestEnds(t *testing.T) {
	const n = 1 << 22
	for _, s := range []string{"a", "A", " ", ",", "o=a,", `\`, `\,`, "\xff", "entry"} {
		long := strings.Repeat(s, n)
		for i, r := range []api.Rule{rule(api.WDn, long, "", true, api.Read), rule(api.WAny, long, "", true, api.Read), rule(api.WAny, "", long, true, api.Read), rule(api.WAny, "", "", true, api.Read, long)} {
			if acl.May(list(r)) {
				t.Errorf("10.1: May of long %q: %d", s, i)
			}
		}
		e := api.Entry{Dn: long, Attrs: []api.Attr{{Type: long, Vals: []string{long}}, {Type: "CN", Vals: []string{long}}}}
		rules := list(rule(api.WSelf, "", "o=x", true, api.No), rule(api.WAny, "", "", true, api.Write, "cn"), rule(api.WUser, "", "", true, api.Read))
		if v := acl.View(rules, long, e); len(v.Attrs) != 2 || v.Dn != long || acl.Right(rules, long, e, long) != api.Read || acl.Right(rules, "", e, long) != api.No || acl.Gate(rules, long, e, long) {
			t.Errorf("10.2: of long %q", s)
		}
	}
}

// TestEndsMany: R1, of very many rules, types and attributes, which end in no long time.
func TestEndsMany(t *testing.T) {
	rules := slices.Repeat(list(rule(api.WSelf, "", most, true, api.Write), rule(api.WUser, "", "", true, api.No, tellTypes...)), 1<<16)
	types := slices.Repeat([]string{"cn", "SN", "dc"}, 1<<18)
	if acl.May(rules) || acl.Right(rules, "cn=a", en(most), "cn") != api.No || acl.Gate(rules, "cn=a", en(most), types...) {
		t.Error("10.2: of very many rules")
	}
	wide := api.Entry{Dn: most, Attrs: slices.Repeat([]api.Attr{{Type: "SN", Vals: []string{"s"}}, {Type: "dc"}, {Type: "cn", Vals: []string{"x"}}}, 1<<17)}
	few := append(slices.Repeat(rules[:2], api.MaxVals/2-1), rule(api.WAny, "", "cn=Ann", true, api.Read, "sn"), rule(api.WAny, "", most, false, api.Write))
	if v := acl.View(few, "", wide); len(v.Attrs) != 3<<17 || acl.Gate(few, "", wide, types...) || !acl.Gate(few, "", wide, slices.Repeat([]string{"cn", "dc"}, 1<<18)...) {
		t.Error("10.2: of very many attributes", len(v.Attrs))
	}
	if v := acl.View(few, "cn=z", wide); len(v.Attrs) != 1<<17 || v.Attrs[0].Type != "dc" {
		t.Error("10.2: of very many attributes, some", len(v.Attrs))
	}
}
