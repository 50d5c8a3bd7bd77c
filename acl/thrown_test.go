package acl_test

import (
	"fmt"
	"slices"
	"testing"

	"brook/acl"
	"brook/api"
	"brook/dn"
)

// dice is a small generator: the same numbers in each run.
type dice uint32

func (d *dice) below(n int) int {
	*d = *d*1664525 + 1013904223
	return int(*d>>8) % n
}

func (d *dice) of(l ...string) string { return l[d.below(len(l))] }

func (d *dice) name() string {
	return d.of("o=x", "O=X", "ou=a,o=x", "OU=A,O=x", "ou=b,o=x", "cn=a,ou=a,o=x", `cn=\41,ou=A,o=x`, "cn=b,ou=a,o=x", "cn=B,o=x", "cn=b  b,o=x", `cn=b\ \ B,O=x`, "o=y", `o=a\,o=x`, "cn=a,o=y")
}

func (d *dice) who() string {
	return d.of("", "", "o=x", "cn=a,ou=a,o=x", "cn=b,ou=a,o=x", "cn=b,o=x", "cn=b b,o=x", "ou=a,o=x", "cn=a,o=y", "cn=none")
}

func (d *dice) typ() string {
	return d.of("cn", "CN", "Cn", "sn", "o", "O", "uidNumber", "uidnumber", "Member", "userPassword", "dc", "DC", "description", "entry", "Entry", "", " cn", "*")
}

// rules throws some that may be.
func (d *dice) rules() []api.Rule {
	var l []api.Rule
	for range d.below(7) {
		r := rule(1+d.below(4), "", d.name(), d.below(3) > 0, d.below(3))
		if r.Who == api.WDn {
			r.Dn = d.name()
		}
		if d.below(5) == 0 {
			r.Target = ""
		}
		for n := d.below(4); n > 0; n-- {
			r.Types = append(r.Types, d.of("cn", "sn", "o", "uidnumber", "member", "userpassword", "description", "entry"))
		}
		l = append(l, r)
	}
	return l
}

func (d *dice) entry() api.Entry {
	e := api.Entry{Dn: d.name()}
	if d.below(10) == 0 {
		e.Dn = d.of("", "none", "o=", `o=\20`, "o=x,", "cn= b,o=x")
	}
	for range d.below(7) {
		a := api.Attr{Type: d.typ()}
		for range d.below(4) {
			a.Vals = append(a.Vals, d.of("", "a", "A", " b ", "\xff"))
		}
		e.Attrs = append(e.Attrs, a)
	}
	return e
}

// The words of 10.2 by other means: a name is a list of folded parts, and a rule is asked for each type anew.

// folded tells the parts of a name; of what has none it tells none.
func folded(name string) []api.Rdn {
	l, ok := dn.Parse(name)
	if !ok {
		return nil
	}
	for i, part := range l {
		l[i] = api.Rdn{Type: asciiSmall(part.Type), Val: dn.Fold(part.Val)}
		if l[i].Val == "" {
			return nil
		}
	}
	return l
}

func wantedCovers(r api.Rule, e api.Entry) bool {
	own, target := folded(e.Dn), folded(r.Target)
	above := len(own) - len(target)
	if above < 0 || above > 0 && !r.Deep {
		return false
	}
	return slices.Equal(own[above:], target)
}

func wantedMeans(r api.Rule, who string, e api.Entry) bool {
	parts, _ := dn.Parse(who)
	return map[int]bool{
		api.WAny:  true,
		api.WUser: len(parts) > 0,
		api.WSelf: slices.Equal(parts, folded(e.Dn)),
		api.WDn:   slices.Equal(parts, folded(r.Dn)),
	}[r.Who]
}

func wanted(rules []api.Rule, who string, e api.Entry, typ string) int {
	for _, r := range rules {
		if wantedCovers(r, e) && wantedMeans(r, who, e) && (len(r.Types) == 0 || slices.Contains(r.Types, asciiSmall(typ))) {
			return r.Right
		}
	}
	return api.No
}

func wantedView(rules []api.Rule, who string, e api.Entry) api.Entry {
	v := api.Entry{Dn: e.Dn}
	for _, a := range e.Attrs {
		if wanted(rules, who, e, a.Type) != api.No {
			v.Attrs = append(v.Attrs, a)
		}
	}
	return v
}

// TestThrown: 10.2, of rules, entries and people that are thrown.
func TestThrown(t *testing.T) {
	d := dice(10)
	rights, views, gates := map[int]int{}, map[bool]int{}, map[bool]int{}
	for range 40000 {
		rules, who, e := d.rules(), d.who(), d.entry()
		if !acl.May(rules) {
			t.Fatal("the test's own", text(rules))
		}
		was := fmt.Sprint(rules) + all(e)
		typ := d.typ()
		want := wanted(rules, who, e, typ)
		if got := acl.Right(rules, who, e, typ); got != want {
			t.Fatalf("10.2: Right of %q to %q of %q: %s, not %s: %s", who, typ, e.Dn, rightNames[got], rightNames[want], text(rules))
		}
		rights[want]++
		v := wantedView(rules, who, e)
		if got := acl.View(rules, who, e); all(got) != all(v) {
			t.Fatalf("10.2: View of %q of %s: %s: %s", who, all(e), all(got), text(rules))
		}
		views[len(v.Attrs) > 0 && len(v.Attrs) < len(e.Attrs)]++
		types, open := []string(nil), true
		for range d.below(4) {
			types = append(types, d.typ())
			open = open && wanted(rules, who, e, types[len(types)-1]) == api.Write
		}
		if acl.Gate(rules, who, e, types...) != open {
			t.Fatalf("10.2: Gate of %q to %q of %q: %v: %s", who, types, e.Dn, !open, text(rules))
		}
		gates[open && len(types) > 0]++
		if fmt.Sprint(rules)+all(e) != was {
			t.Fatal("R3: what was handed in", was)
		}
	}
	if rights[api.No] < 5000 || rights[api.Read] < 2000 || rights[api.Write] < 2000 || views[true] < 2000 || gates[true] < 1000 {
		t.Error("the test's own", rights, views, gates)
	}
}

// TestThrownMay: 10.1, of rules that are thrown, some of which may not be.
func TestThrownMay(t *testing.T) {
	d := dice(101)
	seen := map[bool]int{}
	for range 20000 {
		rules, want := d.rules(), true
		for i := range rules {
			r := &rules[i]
			switch d.below(40) {
			case 0:
				r.Who = d.below(8) - 1
			case 1:
				r.Dn = d.of(append(notNames, names...)...)
			case 2:
				r.Dn = ""
			case 3:
				r.Target = d.of(append(notNames, names...)...)
			case 4:
				r.Right = d.below(6) - 1
			case 5:
				r.Types = append(r.Types, d.of(append(notTypes, tellTypes...)...))
			case 6:
				r.Types = slices.Repeat([]string{"cn"}, 18+d.below(5))
			}
			want = want && wantedMay(*r)
		}
		if acl.May(rules) != want {
			t.Fatalf("10.1: May %v: %s", !want, text(rules))
		}
		seen[want]++
	}
	if seen[true] < 5000 || seen[false] < 2000 {
		t.Error("the test's own", seen)
	}
}

// wantedMay is 10.1 of one rule, by the lists of these tests.
func wantedMay(r api.Rule) bool {
	named := func(s string) bool { return len(folded(s)) > 0 }
	who := r.Dn == "" && r.Who >= api.WAny && r.Who <= api.WSelf || named(r.Dn) && r.Who == api.WDn
	known := !slices.ContainsFunc(r.Types, func(typ string) bool { return !slices.Contains(tellTypes, typ) })
	return who && (r.Target == "" || named(r.Target)) && known && len(r.Types) <= api.MaxAttrs && slices.Contains([]int{api.No, api.Read, api.Write}, r.Right)
}
