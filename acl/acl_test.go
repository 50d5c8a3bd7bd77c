package acl_test

import (
	"slices"
	"strings"
	"testing"

	"brook/acl"
	"brook/api"
)

// en makes an entry of texts: a type, `:`, and values with `|` between; without `:` it has none.
func en(name string, s ...string) api.Entry {
	e := api.Entry{Dn: name}
	for _, x := range s {
		typ, vals, some := strings.Cut(x, ":")
		a := api.Attr{Type: typ}
		if some {
			a.Vals = strings.Split(vals, "|")
		}
		e.Attrs = append(e.Attrs, a)
	}
	return e
}

func list(l ...api.Rule) []api.Rule { return l }

// rightNames are rights in words.
var rightNames = map[int]string{api.No: "No", api.Read: "Read", api.Write: "Write"}

// checkRight asks the right to a type, by Right, by Gate, and by View of an entry that has that type alone.
func checkRight(t *testing.T, want int, rules []api.Rule, who, name, typ string) {
	t.Helper()
	if !acl.May(rules) {
		t.Fatal("the test's own", text(rules))
	}
	e := en(name, typ+":v|w")
	if got := acl.Right(rules, who, e, typ); got != want {
		t.Errorf("10.2: Right of %q to %q of %q: %s, not %s: %s", who, typ, name, rightNames[got], rightNames[want], text(rules))
	}
	if got := acl.Right(rules, who, en(name), typ); got != want {
		t.Errorf("10.2: Right of %q to %q of %q without attributes: %s, not %s: %s", who, typ, name, rightNames[got], rightNames[want], text(rules))
	}
	if acl.Gate(rules, who, e, typ) != (want == api.Write) {
		t.Errorf("10.2: Gate of %q to %q of %q, of which the right is %s: %s", who, typ, name, rightNames[want], text(rules))
	}
	if v := acl.View(rules, who, e); v.Dn != name || (len(v.Attrs) == 1) != (want >= api.Read) {
		t.Errorf("10.2: View of %q to %q of %q, of which the right is %s: %s", who, typ, name, rightNames[want], text(rules))
	}
}

// checkSpeaks asks whether a rule speaks of it, for each right that it may give.
func checkSpeaks(t *testing.T, want bool, r api.Rule, who, name, typ string) {
	t.Helper()
	for _, right := range []int{api.No, api.Read, api.Write} {
		r.Right = right
		if !want {
			checkRight(t, api.No, list(r), who, name, typ)
			// The one behind it counts.
			checkRight(t, api.Read, list(r, plain()), who, name, typ)
			checkRight(t, api.Read, list(r, r, plain(), r), who, name, typ)
			continue
		}
		checkRight(t, right, list(r), who, name, typ)
		checkRight(t, right, list(r, plain()), who, name, typ)
		checkRight(t, right, list(r, rule(api.WAny, "", "", true, api.Write), rule(api.WAny, "", "", true, api.No)), who, name, typ)
	}
}

// TestNoRules: 10.2, without rules the right is No.
func TestNoRules(t *testing.T) {
	for _, rules := range [][]api.Rule{nil, {}, make([]api.Rule, 0, 9)} {
		for _, who := range []string{"", "o=x", "cn=a,o=x"} {
			for _, name := range []string{"", "o=x", "no name"} {
				for _, typ := range []string{"cn", "entry", "", "dc"} {
					checkRight(t, api.No, rules, who, name, typ)
				}
			}
		}
	}
}

// TestTarget: 10.2, e's Key is Target's, or, if Deep, Under it; an entry that has none counts as one whose key is empty.
func TestTarget(t *testing.T) {
	for _, c := range []struct {
		target, name string
		is, under    bool
	}{
		{"o=x", "o=x", true, true}, {"O=X", "o=x", true, true}, {"o=x", "O=X", true, true}, {"cn=Ann  Lee,O=x", "CN=ann lee,o=X", true, true}, {`cn=\41`, "cn=a", true, true}, {"cn=a", `cn=\ \20A`, true, true}, {`o=a\2cb`, `o=A\,B`, true, true}, {most, strings.ToUpper(most), true, true},
		// Above, beside, below it.
		{"ou=a,o=x", "o=x", false, false}, {"o=x", "o=y", false, false}, {"ou=a,o=x", "ou=b,o=x", false, false}, {"ou=a,o=x", "ou=a,o=y", false, false}, {"ou=a,o=x", "ou=a", false, false}, {"o=x", "cn=x", false, false}, {"o=x", "ou=x", false, false}, {"o=x", "o=xx", false, false}, {"o=xx", "o=x", false, false}, {"o=x", "o=y,o=xx", false, false}, {"o=x", `cn=a\,o=x`, false, false}, {"o=x", `cn=a\2co\3dx`, false, false}, {"ou=a,o=x", "cn=a,ou=b,o=x", false, false}, {"o=x", "o=x,o=y", false, false},
		{"o=x", "ou=a,o=x", false, true}, {"O=X", "OU=a,o=X", false, true}, {"o=x", "cn=b,ou=a,O=x", false, true}, {"ou=A,o=x", "cn=b,ou=a,o=X", false, true}, {"o=x", "o=x,o=x", false, true}, {"cn=ann", most, false, true}, {"o=x", `cn=a\,b,o=x`, false, true}, {`o=\,`, `cn=a,o=\2C`, false, true}, {"o=a  b", "cn=a,o=A b", false, true},
		// The empty one is above all; what has no Key counts as empty.
		{"", "o=x", false, true}, {"", "cn=a,o=x", false, true}, {"", most, false, true}, {"", "", true, true}, {"o=x", "", false, false},
		{"", "no name", true, true}, {"", " ", true, true}, {"", `o=\20`, true, true}, {"", "o=x,", true, true}, {"", `cn=\20,o=x`, true, true}, {"", "cn=a," + most, true, true},
		{"o=x", "no name", false, false}, {"o=x", "o=", false, false}, {"o=x", "cn=,o=x", false, false}, {"o=x", `cn=\20,o=x`, false, false}, {"o=x", " ,o=x", false, false}, {"cn=ann", "cn=a," + most, false, false}, {"o=x", "o=x ", false, false},
	} {
		for _, typ := range []string{"cn", "entry"} {
			checkSpeaks(t, c.is, rule(api.WAny, "", c.target, false, 0), "", c.name, typ)
			checkSpeaks(t, c.under, rule(api.WAny, "", c.target, true, 0), "", c.name, typ)
			checkSpeaks(t, c.under, rule(api.WAny, "", c.target, true, 0, "entry", "cn"), "cn=z", c.name, typ)
		}
	}
}

// TestTypes: 10.2, typ, in letters a to z, is one of Types, or these are none.
func TestTypes(t *testing.T) {
	asked := append(slices.Clone(tellTypes), notTypes...)
	for _, typ := range asked {
		forms := []string{typ, strings.ToUpper(typ)}
		if typ != "" {
			forms = append(forms, strings.ToUpper(typ[:1])+typ[1:])
		}
		for _, form := range forms {
			small := asciiSmall(form)
			checkSpeaks(t, true, rule(api.WAny, "", "o=x", false, 0), "", "o=x", form)
			for _, l := range [][]string{{"cn"}, {"entry"}, {"cn", "entry"}, {"sn", "cn", "sn"}, {"uidnumber"}, {"o"}, {"ou"}, tellTypes} {
				checkSpeaks(t, slices.Contains(l, small), rule(api.WAny, "", "o=x", false, 0, l...), "", "o=x", form)
			}
		}
	}
}

// asciiSmall makes letters A to Z small, and no others.
func asciiSmall(s string) string {
	b := []byte(s)
	for i, c := range b {
		if strings.IndexByte("ABCDEFGHIJKLMNOPQRSTUVWXYZ", c) >= 0 {
			b[i] = c | 0x20
		}
	}
	return string(b)
}

// TestTypeLetters: 10.2, each byte at each place of a type: none but the other case of a letter is like it.
func TestTypeLetters(t *testing.T) {
	for _, typ := range []string{"mail", "entry", "sn", "objectclass"} {
		rules := list(rule(api.WAny, "", "", true, api.Write, typ))
		for i := range typ {
			for c := range 256 {
				other := typ[:i] + string([]byte{byte(c)}) + typ[i+1:]
				want := api.No
				if c == int(typ[i]) || c == int(typ[i])-'a'+'A' {
					want = api.Write
				}
				if got := acl.Right(rules, "", en("o=x"), other); got != want {
					t.Errorf("10.2: Right to %q by a rule of %q: %s", other, typ, rightNames[got])
				}
			}
		}
		for _, other := range []string{"", " " + typ, typ + " ", typ + typ, typ[1:], typ[:len(typ)-1], strings.ReplaceAll(typ, "i", "\u0130"), strings.ReplaceAll(typ, "s", "\u017f"), typ + "\x00"} {
			if got := acl.Right(rules, "", en("o=x"), other); other != typ && got != api.No {
				t.Errorf("10.2: Right to %q by a rule of %q: %s", other, typ, rightNames[got])
			}
		}
	}
}

// TestWho: 10.2, anybody; who is not empty; who is e's Key; who is Dn's Key.
func TestWho(t *testing.T) {
	for _, c := range []struct {
		name, who             string
		any, user, self, root bool
	}{
		// Nobody, oneself, another, the one of Dn.
		{"cn=a,o=x", "", true, false, false, false},
		{"cn=a,o=x", "cn=a,o=x", true, true, true, false}, {"CN=A,O=X", "cn=a,o=x", true, true, true, false}, {`cn=\41,o=\ X`, "cn=a,o=x", true, true, true, false},
		{"cn=a,o=x", "cn=b,o=x", true, true, false, false}, {"cn=a,o=x", "o=x", true, true, false, false}, {"cn=a,o=x", "cn=c,cn=a,o=x", true, true, false, false}, {"o=x", "cn=a,o=x", true, true, false, false}, {"cn=a,o=x", "cn=a", true, true, false, false}, {"cn=a,o=x", "cn=aa,o=x", true, true, false, false},
		{"cn=a,o=x", "cn=the root,o=x", true, true, false, true}, {"cn=a,o=x", "cn=the root", true, true, false, false}, {"cn=a,o=x", "cn=b,cn=the root,o=x", true, true, false, false}, {"cn=a,o=x", "cn=the roo,o=x", true, true, false, false},
		{"CN=The Root,O=x", "cn=the root,o=x", true, true, true, true}, {"CN=The Root,O=x", "", true, false, false, false}, {"CN=The Root,O=x", "cn=a,o=x", true, true, false, false},
		// A who that is no Key is held against Keys byte by byte.
		{"cn=a,o=x", "CN=a,o=x", true, true, false, false}, {"CN=a,o=x", "CN=a,o=x", true, true, false, false}, {"cn=a,o=x", " cn=a,o=x", true, true, false, false}, {"cn=a,o=x", "CN=The  Root,O=x", true, true, false, false}, {"cn=a,o=x", "\x00", true, true, false, false}, {"no name", "no name", true, true, false, false}, {"no name", "cn=the root,o=x", true, true, false, true},
		// An entry that has no Key counts as one whose Key is empty.
		{"", "", true, false, true, false}, {"no name", "", true, false, true, false}, {"", "cn=a,o=x", true, true, false, false},
	} {
		for _, typ := range []string{"userpassword", "entry"} {
			for _, target := range []string{"", c.name} {
				if !acl.May(list(rule(api.WAny, "", target, true, 0))) {
					continue
				}
				checkSpeaks(t, c.any, rule(api.WAny, "", target, true, 0), c.who, c.name, typ)
				checkSpeaks(t, c.user, rule(api.WUser, "", target, true, 0), c.who, c.name, typ)
				checkSpeaks(t, c.self, rule(api.WSelf, "", target, true, 0), c.who, c.name, typ)
				for _, root := range []string{"cn=the root,o=x", "CN=The  Root,O=x", `cn=\54he rOOt\20,O=\ X`} {
					checkSpeaks(t, c.root, rule(api.WDn, root, target, true, 0), c.who, c.name, typ)
				}
			}
		}
	}
}

// TestAllMust: 10.2, a rule speaks of it if its Target, its Types and its Who do, not if two of them do.
func TestAllMust(t *testing.T) {
	for i, c := range []struct {
		r    api.Rule
		want bool
	}{
		{rule(api.WUser, "", "o=x", true, 0, "cn"), true}, {rule(api.WSelf, "", "cn=a,o=x", false, 0, "cn"), true}, {rule(api.WDn, "CN=a,o=X", "o=x", true, 0), true},
		{rule(api.WUser, "", "o=y", true, 0, "cn"), false}, {rule(api.WUser, "", "o=x", false, 0, "cn"), false}, {rule(api.WUser, "", "o=x", true, 0, "sn"), false}, {rule(api.WDn, "cn=b,o=x", "o=x", true, 0, "cn"), false}, {rule(api.WDn, "cn=a,o=x", "o=y", true, 0), false}, {rule(api.WDn, "cn=a,o=x", "o=x", true, 0, "entry"), false}, {rule(api.WSelf, "", "cn=a,o=x", false, 0, "entry"), false}, {rule(api.WSelf, "", "o=x", false, 0, "cn"), false},
	} {
		checkSpeaks(t, c.want, c.r, "cn=a,o=x", "cn=a,o=x", "cn")
		if got := acl.Right(list(c.r, c.r), "", en("cn=a,o=x"), "cn"); got != api.No {
			t.Error("10.2: nobody's Right", i, got)
		}
	}
}

// TestFirst: 10.2, of several rules that speak of it the first counts, also where it says No, whatever stands behind or ahead of it.
func TestFirst(t *testing.T) {
	speaks := []api.Rule{rule(api.WAny, "", "", true, 0), rule(api.WUser, "", "o=x", true, 0, "sn", "cn"), rule(api.WSelf, "", "cn=a,o=x", false, 0), rule(api.WDn, "cn=a,O=x", "cn=A,o=x", true, 0, "cn")}
	silent := []api.Rule{rule(api.WAny, "", "o=x", false, 0), rule(api.WDn, "cn=b,o=x", "", true, 0), rule(api.WSelf, "", "", true, 0, "sn", "entry"), rule(api.WUser, "", "o=y", true, 0)}
	rights := []int{api.No, api.Read, api.Write}
	for _, a := range speaks {
		for _, b := range speaks {
			for _, c := range silent {
				for i := range 27 {
					a.Right, b.Right, c.Right = rights[i%3], rights[i/3%3], rights[i/9]
					for _, l := range [][]api.Rule{{a}, {a, b}, {c, a}, {c, a, b}, {c, c, a, c, b, a, b}, {a, c, b, b}, {c, a, c}} {
						checkRight(t, a.Right, l, "cn=a,o=x", "CN=a,o=x", "cN")
					}
					checkRight(t, api.No, list(c, c), "cn=a,o=x", "CN=a,o=x", "cn")
				}
			}
		}
	}
}

// TestFirstOfType: 10.2, for each type another rule may be the first.
func TestFirstOfType(t *testing.T) {
	rules := list(
		rule(api.WAny, "", "o=x", true, api.No, "userpassword", "mail"),
		rule(api.WSelf, "", "o=x", true, api.Write, "mail", "sn", "sn", "userpassword"),
		rule(api.WAny, "", "o=x", true, api.Read, "cn", "sn", "entry"),
		rule(api.WUser, "", "o=x", true, api.Write, "cn", "uid"),
		rule(api.WUser, "", "o=x", true, api.Read),
		rule(api.WAny, "", "", true, api.Write),
	)
	for typ, want := range map[string][3]int{
		"userpassword": {api.No, api.No, api.No}, "mail": {api.No, api.No, api.No}, "sn": {api.Write, api.Read, api.Read}, "cn": {api.Read, api.Read, api.Read}, "entry": {api.Read, api.Read, api.Read}, "uid": {api.Write, api.Write, api.Write}, "o": {api.Read, api.Read, api.Write}, "dc": {api.Read, api.Read, api.Write}, "": {api.Read, api.Read, api.Write},
	} {
		for i, who := range []string{"cn=a,o=x", "cn=b,o=x", ""} {
			checkRight(t, want[i], rules, who, "CN=A,O=X", typ)
			checkRight(t, want[i], rules, who, "cn=a,o=x", strings.ToUpper(typ))
		}
		checkRight(t, api.Write, rules, "cn=a,o=x", "o=y", typ)
	}
	// The last of forty.
	many := append(slices.Repeat(list(rule(api.WAny, "", "o=y", true, api.No), rule(api.WSelf, "", "o=x", true, api.No, "sn"), rule(api.WAny, "", "o=x", true, api.Read, "mail")), 13), rule(api.WDn, "cn=a", "o=x", true, api.Write))
	checkRight(t, api.Write, many, "cn=a", "o=x", "cn")
	checkRight(t, api.Read, many, "cn=a", "o=x", "mail")
	checkRight(t, api.No, many, "cn=b", "o=x", "cn")
}

// behind puts a rule that speaks of the same as the one at i, with a right of its own, at j.
func behind(rules []api.Rule, i, j, right int) []api.Rule {
	r := rules[i]
	r.Right = right
	return slices.Insert(slices.Clone(rules), j, r)
}

// TestBehind: 10.3, a rule behind one that speaks of the same says nothing more.
func TestBehind(t *testing.T) {
	d := dice(103)
	for range 4000 {
		rules, who, e := d.rules(), d.who(), d.entry()
		if len(rules) == 0 {
			continue
		}
		i := d.below(len(rules))
		longer := behind(rules, i, i+1+d.below(len(rules)-i), d.below(3))
		if !acl.May(longer) {
			t.Fatal("the test's own", text(longer))
		}
		for _, typ := range append(tellTypes, "dc") {
			if acl.Right(longer, who, e, typ) != acl.Right(rules, who, e, typ) || acl.Gate(longer, who, e, typ, "cn") != acl.Gate(rules, who, e, typ, "cn") {
				t.Fatalf("10.3: %q to %q of %q: %s", who, typ, e.Dn, text(longer))
			}
		}
		if all(acl.View(longer, who, e)) != all(acl.View(rules, who, e)) {
			t.Fatalf("10.3: View of %q of %q: %s", who, e.Dn, text(longer))
		}
	}
}
