package acl_test

import (
	"fmt"
	"slices"
	"strconv"
	"strings"
	"testing"

	"brook/acl"
	"brook/api"
)

// all tells all of an entry; nil lists and empty ones are one.
func all(e api.Entry) string { return fmt.Sprintf("%q", e) }

// TestView: 10.2, e with those of its attributes whose Type has at least Read, in their order, with all of their values.
func TestView(t *testing.T) {
	rules := list(
		rule(api.WAny, "", "", true, api.No, "userpassword", "entry"),
		rule(api.WSelf, "", "", true, api.Write, "cn", "mail"),
		rule(api.WUser, "", "", true, api.Read, "sn", "mail"),
		rule(api.WDn, "cn=r", "", true, api.Read),
		rule(api.WAny, "", "o=p", false, api.Write),
	)
	for _, c := range []struct {
		who        string
		name       string
		in, remain string
	}{
		{"cn=a", "cn=a", "", ""}, {"", "cn=a", "cn:a; sn:s", ""}, {"", "o=p", "", ""},
		{"cn=a", "cn=a", "cn:a; objectclass:person; sn:s", "cn:a; sn:s"}, {"cn=b", "cn=a", "cn:a; mail:m; objectclass:person; sn:s", "mail:m; sn:s"}, {"cn=r", "cn=a", "cn:a; objectclass:person; sn:s; userpassword:p", "cn:a; objectclass:person; sn:s"}, {"cn=r", "cn=r", "cn:a; dc:d; mail:m; sn:s", "cn:a; dc:d; mail:m; sn:s"},
		{"", "o=p", "o:p; objectclass:organization", "o:p; objectclass:organization"}, {"", "O=P", "userpassword:p", ""}, {"cn=a", "o=p", "userpassword:p|q; o:p; userPassword:r; entry:x", "o:p"},
		// Types, values, their order, names stay as they are; attributes of one type are told each.
		{"cn=a", "CN=A", "SN:s; CN: Ann  Lee |b| b |B; sn:t; Mail:m", "SN:s; CN: Ann  Lee |b| b |B; sn:t; Mail:m"}, {"cn=b", "CN=A", "SN:s; CN:a; sn:t; Mail:m; cn:b", "SN:s; sn:t; Mail:m"}, {"cn=b", "CN=A", "cn:a; CN:b; sn:s", "sn:s"}, {"cn=a", `cn=\41`, "sn:z|y|x; sn:x|y; sn", "sn:z|y|x; sn:x|y; sn"}, {"cn=a", "cn=a", "sn; cn:; mail:|", "sn; cn:; mail:|"}, {"cn=a", "cn=a", "o:1; cn; o:2; sn:1; o:3", "cn; sn:1"},
		{"cn=b", "no name", "cn:a; sn:s; o:x", "sn:s"}, {"", "no name", "cn:a; sn:s", "cn:a"}, {"cn=r", "", "cn:a; dc:x; entry:e; :y; *:z", "cn:a; dc:x; :y; *:z"}, {"cn=r", "CN=\u00c4", "ENTRY:e; Dc:x; \xff:\xff", "Dc:x; \xff:\xff"},
	} {
		e, want := en(c.name, parts(c.in)...), en(c.name, parts(c.remain)...)
		was := all(e)
		for range 2 {
			if v := acl.View(rules, c.who, e); all(v) != all(want) || v.Dn != e.Dn {
				t.Errorf("10.2: View of %q of %s: %s", c.who, was, all(v))
			}
		}
		if all(e) != was {
			t.Errorf("R3: what was handed in: %s", was)
		}
		if v := acl.View(nil, c.who, e); len(v.Attrs) != 0 || v.Dn != e.Dn {
			t.Errorf("10.2: View without rules of %s: %s", was, all(v))
		}
		for _, right := range []int{api.Read, api.Write} {
			if v := acl.View(list(rule(api.WAny, "", "", true, right)), c.who, e); all(v) != was {
				t.Errorf("10.2: View of all of %s: %s", was, all(v))
			}
		}
		if v := acl.View(list(rule(api.WAny, "", "", true, api.No), plain()), c.who, e); len(v.Attrs) != 0 || v.Dn != e.Dn {
			t.Errorf("10.2: View of nothing of %s: %s", was, all(v))
		}
	}
}

// parts are the texts of attributes, between which `; ` stands.
func parts(s string) []string {
	if s == "" {
		return nil
	}
	return strings.Split(s, "; ")
}

// TestViewEach: 10.2, of all sets of four types those are told that are to be read.
func TestViewEach(t *testing.T) {
	four := []string{"cn", "mail", "o", "sn"}
	for bits := range 1 << 8 {
		var rules []api.Rule
		var want []string
		e := en("o=x", "SN:1", "cn:2|3", "o:4", "Mail:5", "cn:6")
		for i, typ := range four {
			right := bits >> (2 * i) & 3
			if right < 3 {
				rules = append(rules, rule(api.WAny, "", "o=x", false, right, typ))
			}
		}
		for _, a := range e.Attrs {
			if right := bits >> (2 * slices.Index(four, strings.ToLower(a.Type))) & 3; right == api.Read || right == api.Write {
				want = append(want, a.Type+":"+strings.Join(a.Vals, "|"))
			}
		}
		if v := acl.View(rules, "", e); all(v) != all(en("o=x", want...)) {
			t.Errorf("10.2: View by %s: %s", text(rules), all(v))
		}
	}
}

// TestViewMany: 10.2, View asks no more of an entry than what it says: more attributes, values and bytes than may be stay.
func TestViewMany(t *testing.T) {
	rules := list(rule(api.WAny, "", "", true, api.Read, "cn"))
	var e, want api.Entry
	e.Dn = "o=x"
	want.Dn = e.Dn
	for i := range 5000 {
		a := api.Attr{Type: []string{"cn", "sn", "CN"}[i%3], Vals: []string{strconv.Itoa(i)}}
		e.Attrs = append(e.Attrs, a)
		if i%3 != 1 {
			want.Attrs = append(want.Attrs, a)
		}
	}
	if all(acl.View(rules, "", e)) != all(want) {
		t.Error("10.2: View of many attributes")
	}
	vals := slices.Repeat([]string{strings.Repeat("X ", api.MaxVal), "", "a"}, api.MaxVals)
	e = api.Entry{Dn: strings.Repeat("x", 1000), Attrs: []api.Attr{{Type: "sn", Vals: vals}, {Type: "Cn", Vals: vals}}}
	if v := acl.View(rules, "", e); all(v) != all(api.Entry{Dn: e.Dn, Attrs: e.Attrs[1:]}) {
		t.Error("10.2: View of many values")
	}
}

// TestGate: 10.2, each of types has Write.
func TestGate(t *testing.T) {
	rules := list(
		rule(api.WAny, "", "", true, api.No, "userpassword"),
		rule(api.WAny, "", "", true, api.Read, "objectclass", "o"),
		rule(api.WSelf, "", "", true, api.Write, "mail", "description", "entry", "o"),
		rule(api.WDn, "cn=r", "", true, api.Write),
	)
	e := en("CN=a", "cn:a", "userpassword:p")
	for _, c := range []struct {
		who, types string
		want       bool
	}{
		{"", "", true}, {"cn=a", "", true}, {"cn=b", "", true},
		{"", "mail", false}, {"cn=a", "mail", true}, {"cn=a", "MAIL", true}, {"cn=a", "Entry", true}, {"cn=a", "o", false}, {"cn=a", "objectClass", false}, {"cn=a", "userpassword", false}, {"cn=a", "cn", false}, {"cn=a", "dc", false}, {"cn=b", "mail", false},
		{"cn=a", "mail description", true}, {"cn=a", "mail description entry", true}, {"cn=a", "mail MAIL mail", true}, {"cn=a", "mail description entry cn", false}, {"cn=a", "cn mail description entry", false}, {"cn=a", "mail o description", false}, {"cn=a", "mail userPassword description", false}, {"cn=a", "cn cn", false}, {"", "mail description", false},
		{"cn=r", "entry cn dc sn mail", true}, {"cn=r", "entry cn userpassword", false}, {"cn=r", "o entry", false}, {"cn=r", "entry OBJECTCLASS cn", false}, {"cn=r", "* 1 entries", true},
	} {
		types := strings.Fields(c.types)
		for range 2 {
			if acl.Gate(rules, c.who, e, types...) != c.want {
				t.Errorf("10.2: Gate of %q: %q: %v", c.who, types, !c.want)
			}
		}
		if acl.Gate(nil, c.who, e, types...) != (len(types) == 0) {
			t.Errorf("10.2: Gate without rules: %q", types)
		}
		if !acl.Gate(list(rule(api.WAny, "", "", true, api.Write)), c.who, e, types...) {
			t.Errorf("10.2: Gate where all is to be written: %q", types)
		}
		if acl.Gate(list(plain()), c.who, e, types...) != (len(types) == 0) {
			t.Errorf("10.2: Gate where all is to be read: %q", types)
		}
	}
	if !acl.Gate(rules, "cn=r", e, "") || acl.Gate(rules, "cn=a", e, "") || acl.Gate(rules, "cn=a", e, "mail", "") || acl.Gate(rules, "cn=a", e, " mail") {
		t.Error("10.2: Gate of the empty type")
	}
}

// TestGatePlaces: 10.2, one that is not to be written counts at whatever place, of however many.
func TestGatePlaces(t *testing.T) {
	rules := list(rule(api.WAny, "", "", true, api.Write, "cn"), rule(api.WAny, "", "", true, api.Read, "sn"))
	for _, n := range []int{1, 2, 3, 20, 21, 41, 256, 257} {
		types := slices.Repeat([]string{"cn"}, n)
		if !acl.Gate(rules, "", en("o=x"), types...) {
			t.Error("10.2: Gate of", n)
		}
		for i := range n {
			for _, other := range []string{"sn", "o", "entry"} {
				types[i] = other
				if acl.Gate(rules, "", en("o=x"), types...) {
					t.Error("10.2: Gate of", n, other, "at", i)
				}
			}
			types[i] = "CN"
		}
	}
	// So many refusals that a small count of them would begin anew.
	for _, n := range []int{1 << 8, 1 << 16} {
		if acl.Gate(rules, "", en("o=x"), slices.Repeat([]string{"sn"}, n)...) {
			t.Error("10.2: Gate of refusals", n)
		}
	}
}
