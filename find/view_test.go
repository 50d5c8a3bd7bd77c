package find_test

import (
	"slices"
	"strings"
	"testing"

	"brook/api"
	"brook/find"
)

// TestTypes: 11.1, of an entry the attributes whose Type is one of Types, in letters of whatever case, in the entry's order; of no Types, or with `*` among them, all.
func TestTypes(t *testing.T) {
	const all = "cn description mail objectclass sn uid userpassword"
	for want, lists := range map[string][]string{
		all:              {"*", "* *", "cn *", "* cn", "dc * o", "*  dc", "CN description MAIL objectClass Sn uid USERPASSWORD", "userpassword uid sn objectclass mail description cn"},
		"cn":             {"cn", "CN", "Cn", "cN", "cn cn", "cn CN Cn", "cn dc", "dc cn", "o cn ou", "entry cn", "** cn"},
		"cn sn":          {"cn sn", "sn cn", "SN CN SN", "sn ou cn"},
		"uid":            {"uid", "UID", "uidnumber uid", "uid uidNumber"},
		"objectclass":    {"objectClass", "OBJECTCLASS", "objectclass class"},
		"cn mail sn uid": {"uid sn mail cn", "MAIL UID cn sn"},
		"":               {"o", "ou", "member", "dc", "entry", "**", "*cn", "cn*", "c", "cnn", "all", "1.1", "cn; cn, cn=", "\u017fn", "ma\u0131l", "u\u0130d", "\x00", "cn\x00", "[n", "c.", "member ou o"},
	} {
		for _, l := range lists {
			got, code := search(t, company(), open(), "", ask(t, "cn=eve,o=x", api.Base, 0, "(&)", strings.Fields(l)...))
			if types(got) != strings.TrimSuffix("cn=Eve,o=x: "+want, " ") || code != api.Success {
				t.Errorf("11.1: Types %q: %q, %d", l, types(got), code)
			}
			for _, e := range got {
				for _, a := range e.Attrs {
					if !slices.Equal(a.Vals, company()[3].Attrs[slices.Index(strings.Fields(all), a.Type)].Vals) {
						t.Errorf("11.1: Types %q: values %q", l, a.Vals)
					}
				}
			}
		}
	}
}

// TestTypesNone: 11.1, no Types ask for all; an empty one, or one that there is not, asks for nothing; blanks do not go.
func TestTypesNone(t *testing.T) {
	for _, none := range [][]string{nil, {}, make([]string, 0, 3)} {
		m := ask(t, "", api.Sub, 0, "(&)")
		m.Types = none
		if got, _ := search(t, company(), open(), "", m); text(got) != text(company()) {
			t.Error("11.1: no Types", text(got))
		}
	}
	for _, typ := range []string{"", " ", " cn", "cn ", " *", "* ", "cn,sn", "\xff", strings.Repeat("cn", 1000)} {
		got, code := search(t, company(), open(), "", ask(t, "", api.Sub, 0, "(cn=*)", typ))
		if types(got) != "cn=Ann,ou=a,o=x:; cn=Bob,ou=A,O=x:; cn=Dan,ou=in,ou=a,o=x:; cn=Eve,o=x:" || code != api.Success {
			t.Errorf("11.1: Types %q: %q", typ, types(got))
		}
		if got, _ := search(t, company(), open(), "", ask(t, "o=x", api.Base, 0, "(&)", typ, "O")); types(got) != "o=x: o" {
			t.Errorf("11.1: Types %q and one: %q", typ, types(got))
		}
	}
}

// TestTypesEach: 11.1, each set of types of an entry, forwards and backwards, small and large.
func TestTypesEach(t *testing.T) {
	names := strings.Fields("cn description mail objectclass sn uid userpassword")
	for bits := 1; bits < 1<<len(names); bits++ {
		var some []string
		want := "cn=Eve,o=x:"
		for i, name := range names {
			if bits>>i&1 == 1 {
				some = append(some, name)
				want += " " + name
			}
		}
		for range 2 {
			if got, _ := find.Search(company(), open(), "", ask(t, "cn=eve,o=x", api.Base, 0, "(&)", some...)); types(got) != want {
				t.Errorf("11.1: Types %q: %q", some, types(got))
			}
			slices.Reverse(some)
			for i, name := range some {
				some[i] = strings.ToUpper(name)
			}
		}
	}
}

// TestTypeLetters: 11.1, each byte at each place of a type: none but the other case of a letter is like it.
func TestTypeLetters(t *testing.T) {
	for _, typ := range []string{"mail", "sn", "objectclass"} {
		for i := range typ {
			for c := range 256 {
				other := typ[:i] + string([]byte{byte(c)}) + typ[i+1:]
				got, _ := find.Search(company(), open(), "", ask(t, "cn=eve,o=x", api.Base, 0, "(&)", other))
				is := c == int(typ[i]) || c == int(typ[i])-'a'+'A'
				if len(got) != 1 || is && types(got) != "cn=Eve,o=x: "+typ || !is && strings.Contains(types(got), typ) {
					t.Errorf("11.1: Types %q: %q", other, types(got))
				}
			}
		}
	}
}

// TestTypesMatch: 11.1, the Filter is asked of all of the View, not of what Types leave; an entry of which none is left is told by its name.
func TestTypesMatch(t *testing.T) {
	for _, c := range []struct{ f, types, want string }{
		{"(cn=*)", "o", "cn=Ann,ou=a,o=x:; cn=Bob,ou=A,O=x:; cn=Dan,ou=in,ou=a,o=x:; cn=Eve,o=x:"},
		{"(uid=bob)", "CN sn", "cn=Bob,ou=A,O=x: cn sn"},
		{"(!(sn=*))", "ou", "o=x:; o=y:; ou=a,o=x: ou; ou=b,o=x: ou; ou=in,ou=a,o=x: ou"},
		{"(objectclass=organization)", "o ou", "o=x: o; o=y: o"},
		{"(&)", "member", "cn=Ann,ou=a,o=x:; cn=Bob,ou=A,O=x:; cn=Dan,ou=in,ou=a,o=x:; cn=Eve,o=x:; o=x:; o=y:; ou=a,o=x:; ou=b,o=x:; ou=in,ou=a,o=x:"},
		{"(|)", "*", ""},
	} {
		if got, code := search(t, company(), open(), "", ask(t, "", api.Sub, 0, c.f, strings.Fields(c.types)...)); types(got) != c.want || code != api.Success {
			t.Errorf("11.1: %s, Types %q: %q, %d", c.f, c.types, types(got), code)
		}
	}
}

// house are rules by which some see more than others.
func house() []api.Rule {
	return list(
		rule(api.WSelf, "", "", true, api.Write, "userpassword", "mail"),
		rule(api.WAny, "", "", true, api.No, "userpassword"),
		rule(api.WDn, "CN=Eve,O=X", "o=x", true, api.Write),
		rule(api.WAny, "", "ou=b,o=x", false, api.No),
		rule(api.WUser, "", "o=x", true, api.Read, "cn", "ou", "o", "objectclass", "description"),
		rule(api.WAny, "", "ou=in,ou=a,o=x", true, api.Read, "sn"),
		rule(api.WUser, "", "", true, api.No),
		rule(api.WAny, "", "o=y", false, api.Read, "o"),
	)
}

const (
	annKey = "cn=ann,ou=a,o=x"
	eveKey = "cn=eve,o=x"
	danKey = "cn=dan,ou=in,ou=a,o=x"
)

// TestViews: 11.1, what is told is of the View: an entry of which nothing may be read is not told, nor an attribute that may not be.
func TestViews(t *testing.T) {
	const rest = "cn description objectclass"
	for who, want := range map[string]string{
		"":     "cn=Dan,ou=in,ou=a,o=x: sn; o=y: o",
		annKey: "cn=Ann,ou=a,o=x: cn description mail objectclass userpassword; cn=Bob,ou=A,O=x: " + rest + "; cn=Dan,ou=in,ou=a,o=x: " + rest + " sn; cn=Eve,o=x: " + rest + "; o=x: o objectclass; ou=a,o=x: objectclass ou; ou=in,ou=a,o=x: objectclass ou",
		eveKey: "cn=Ann,ou=a,o=x: cn description mail objectclass sn uid; cn=Bob,ou=A,O=x: cn description mail objectclass sn uid; cn=Dan,ou=in,ou=a,o=x: cn description mail objectclass sn uid; cn=Eve,o=x: cn description mail objectclass sn uid userpassword; o=x: o objectclass; ou=a,o=x: objectclass ou; ou=b,o=x: objectclass ou; ou=in,ou=a,o=x: objectclass ou",
	} {
		for _, more := range [][]string{nil, {"*"}} {
			if got, code := search(t, company(), house(), who, ask(t, "", api.Sub, 0, "(&)", more...)); types(got) != want || code != api.Success {
				t.Errorf("11.1: to %q: %q, %d", who, types(got), code)
			}
		}
	}
	for _, who := range []string{"", annKey} {
		for scope := range scopeNames {
			checkKeys(t, "", company(), nil, who, ask(t, "", scope, 0, "(&)"))
			checkKeys(t, "", company(), nil, who, ask(t, "o=x", scope, 1, "(&)", "none"))
			checkKeys(t, "", company(), list(rule(api.WAny, "", "", true, api.Write, "entry")), who, ask(t, "o=x", scope, 0, "(&)"))
			checkKeys(t, "", company(), list(rule(api.WAny, "", "", true, api.Read, "entry", "member", "uidnumber")), who, ask(t, "", scope, 0, "(!(cn=*))"))
		}
	}
}

// TestUnreadKept: 11.1, a name that is there is found, though nothing of it, or of what is above, may be read.
func TestUnreadKept(t *testing.T) {
	rules := list(rule(api.WAny, "", danKey, false, api.Read))
	checkKeys(t, danKey, company(), rules, "", ask(t, "", api.Sub, 0, "(&)"))
	checkKeys(t, danKey, company(), rules, "", ask(t, "o=x", api.Sub, 0, "(&)"))
	checkKeys(t, danKey, company(), rules, "", ask(t, "ou=in,ou=a,o=x", api.One, 0, "(&)"))
	checkKeys(t, danKey, company(), rules, "", ask(t, danKey, api.Base, 0, "(&)"))
	checkKeys(t, "", company(), rules, "", ask(t, "ou=in,ou=a,o=x", api.Base, 0, "(&)"))
	checkKeys(t, "", company(), rules, "", ask(t, annKey, api.Sub, 0, "(&)"))
	checkCode(t, api.NoObject, company(), ask(t, "cn=zoe,o=x", api.Base, 0, "(&)"))
}

// TestUnreadFilter: 11.1, 11.3, a filter that asks for what may not be read finds nothing of it, within a not, too.
func TestUnreadFilter(t *testing.T) {
	const people = "cn=ann,ou=a,o=x cn=bob,ou=a,o=x cn=dan,ou=in,ou=a,o=x cn=eve,o=x"
	rules := list(rule(api.WSelf, "", "", true, api.Read), rule(api.WAny, "", "ou=a,o=x", true, api.Read, "cn", "sn"), rule(api.WAny, "", "", true, api.Read, "sn", "o"))
	for f, want := range map[string]string{
		"(sn=lee)": people, "(sn=*)": people, "(!(sn=*))": "o=x o=y",
		"(cn=*)": "cn=ann,ou=a,o=x cn=bob,ou=a,o=x cn=dan,ou=in,ou=a,o=x", "(cn=eve)": "", "(cn=boss)": "cn=ann,ou=a,o=x cn=bob,ou=a,o=x cn=dan,ou=in,ou=a,o=x", "(!(cn=*))": "cn=eve,o=x o=x o=y", "(!(cn=eve))": people + " o=x o=y", "(!(cn=ann))": "cn=bob,ou=a,o=x cn=dan,ou=in,ou=a,o=x cn=eve,o=x o=x o=y", "(cn=*e)": "", "(!(cn=*e))": people + " o=x o=y", "(cn>=e)": "", "(cn<=aa)": "", "(!(cn>=e))": people + " o=x o=y", "(!(!(cn=*)))": "cn=ann,ou=a,o=x cn=bob,ou=a,o=x cn=dan,ou=in,ou=a,o=x",
		"(mail=*)": "", "(mail=ann@x)": "", "(!(mail=ann@x))": people + " o=x o=y", "(userpassword=pw Ann)": "", "(!(userpassword=pw Ann))": people + " o=x o=y", "(!(userpassword=*))": people + " o=x o=y", "(objectclass=*)": "", "(!(objectclass=organization))": people + " o=x o=y", "(ou=*)": "", "(|(uid=ann)(sn=lee))": people, "(&(uid=ann)(sn=lee))": "", "(&(!(uid=ann))(sn=lee))": people, "(|(!(uid=ann))(sn=x))": people + " o=x o=y",
		"(!(dc=x))": "", "(!(mail=))": "",
	} {
		checkKeys(t, want, company(), rules, "", ask(t, "", api.Sub, 0, f))
	}
	// Who may read it finds it.
	checkKeys(t, annKey, company(), rules, annKey, ask(t, "", api.Sub, 0, "(mail=*)"))
	checkKeys(t, annKey, company(), rules, annKey, ask(t, "", api.Sub, 0, "(userpassword=pw Ann)"))
	checkKeys(t, strings.TrimPrefix(people, annKey+" ")+" o=x o=y", company(), rules, annKey, ask(t, "", api.Sub, 0, "(!(userpassword=pw Ann))"))
	// What may not be told by Types is not told.
	got, _ := search(t, company(), rules, "", ask(t, "", api.Sub, 0, "(sn=*)", "mail", "CN"))
	if types(got) != "cn=Ann,ou=a,o=x: cn; cn=Bob,ou=A,O=x: cn; cn=Dan,ou=in,ou=a,o=x: cn; cn=Eve,o=x:" {
		t.Error("11.3: what may not be read", types(got))
	}
}

// TestUnreadElse: 11.3, of trees that differ in what may not be read alone the same is told.
func TestUnreadElse(t *testing.T) {
	rules := list(rule(api.WAny, "", "ou=a,o=x", true, api.Read, "cn"), rule(api.WAny, "", "", true, api.Read, "sn", "o"))
	one, other := company(), company()
	for i, e := range other {
		if len(e.Attrs) > 2 {
			// mail, uid and userpassword are gone or others, description is another one.
			other[i].Attrs = []api.Attr{e.Attrs[0], {Type: "description", Vals: []string{"Else"}}, e.Attrs[3], e.Attrs[4], {Type: "uid", Vals: []string{"u"}}}
		}
	}
	other = slices.Concat(other[:7:7], []api.Entry{unit("aa", "o=x")}, other[7:])
	for _, typ := range strings.Fields("cn sn o ou mail uid description userpassword objectclass") {
		for _, form := range []string{"(T=*)", "(T=ann)", "(T>=ann)", "(T<=lee)", "(T=*e*)", "(T=u)", "(T=Else)", "(T=pw Ann)", "(T=ann@x)", "(T=aa)", "(T=boss)"} {
			f := strings.ReplaceAll(form, "T", typ)
			for _, f := range []string{f, "(!" + f + ")", "(|(sn=lee)" + f + ")", "(&(!" + f + ")(sn=*))"} {
				for _, limit := range []int{0, 1, 4, 6} {
					for _, name := range []string{"", "o=x"} {
						m := ask(t, name, api.Sub, limit, f)
						first, code := search(t, one, rules, "", m)
						second, same := search(t, other, rules, "", m)
						if text(first) != text(second) || code != same {
							t.Errorf("11.3: %s, Limit %d: %q, %d; %q, %d", f, limit, keys(first), code, keys(second), same)
						}
					}
				}
			}
		}
	}
	for _, c := range [][2]string{{"mail", "ann@x"}, {"uid", "u"}, {"uid", ""}, {"description", "Else"}, {"userpassword", "pw Ann"}, {"userpassword", ""}, {"member", "x"}} {
		if a, b := find.Compare(one, rules, "", annKey, c[0], c[1]), find.Compare(other, rules, "", annKey, c[0], c[1]); a != api.NoRight || b != api.NoRight {
			t.Errorf("11.3: Compare of %q: %d, %d", c, a, b)
		}
	}
}
