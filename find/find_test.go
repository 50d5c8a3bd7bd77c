package find_test

import (
	"fmt"
	"math"
	"slices"
	"strings"
	"testing"

	"brook/acl"
	"brook/api"
	"brook/filter"
	"brook/find"
	"brook/tree"
)

// en makes an entry of texts: a type, `:`, and values with `|` between.
func en(name string, s ...string) api.Entry {
	e := api.Entry{Dn: name}
	for _, x := range s {
		typ, vals, _ := strings.Cut(x, ":")
		e.Attrs = append(e.Attrs, api.Attr{Type: typ, Vals: strings.Split(vals, "|")})
	}
	return e
}

func org(o string) api.Entry { return en("o="+o, "o:"+o, "objectclass:organization") }

func unit(ou, up string) api.Entry {
	return en("ou="+ou+","+up, "objectclass:organizationalunit", "ou:"+ou)
}

// person has an attribute of each type that one may have.
func person(cn, up string) api.Entry {
	return en("cn="+cn+","+up, "cn:"+cn+"|Boss", "description:D "+cn+"|Second", "mail:"+cn+"@x", "objectclass:inetorgperson", "sn:Lee", "uid:"+cn, "userpassword:pw "+cn)
}

// company is a tree of two that have none above them, units and people below one of them.
func company() []api.Entry {
	return []api.Entry{
		person("Ann", "ou=a,o=x"),
		person("Bob", "ou=A,O=x"),
		person("Dan", "ou=in,ou=a,o=x"),
		person("Eve", "o=x"),
		org("x"),
		org("y"),
		unit("a", "o=x"),
		unit("b", "o=x"),
		unit("in", "ou=a,o=x"),
	}
}

// companyKeys are the keys of company, in their order.
const companyKeys = "cn=ann,ou=a,o=x cn=bob,ou=a,o=x cn=dan,ou=in,ou=a,o=x cn=eve,o=x o=x o=y ou=a,o=x ou=b,o=x ou=in,ou=a,o=x"

func rule(who int, name, target string, deep bool, right int, types ...string) api.Rule {
	return api.Rule{Who: who, Dn: name, Target: target, Deep: deep, Types: types, Right: right}
}

func list(l ...api.Rule) []api.Rule { return l }

// open lets anybody read all.
func open() []api.Rule { return list(rule(api.WAny, "", "", true, api.Read)) }

var scopeNames = map[int]string{api.Base: "Base", api.One: "One", api.Sub: "Sub"}

// ask makes a message that asks for what a filter of a text matches.
func ask(t *testing.T, name string, scope, limit int, f string, types ...string) api.Msg {
	t.Helper()
	x, ok := filter.Parse(f)
	if !ok {
		t.Fatal("the test's own", f)
	}
	return api.Msg{Id: 7, Kind: api.MSearch, Dn: name, Scope: scope, Limit: limit, Filter: x, Types: types}
}

// text tells all of a list; nil lists and empty ones are one.
func text(l []api.Entry) string { return fmt.Sprintf("%q", l) }

// keys tells which entries were told.
func keys(l []api.Entry) string {
	var all []string
	for _, e := range l {
		all = append(all, tree.Key(e))
	}
	return strings.Join(all, " ")
}

// types tells which attributes were told of which entries.
func types(l []api.Entry) string {
	var all []string
	for _, e := range l {
		s := e.Dn + ":"
		for _, a := range e.Attrs {
			s += " " + a.Type
		}
		all = append(all, s)
	}
	return strings.Join(all, "; ")
}

// search asks Search twice of what may be, and sees that what was handed in stays.
func search(t *testing.T, l []api.Entry, rules []api.Rule, who string, m api.Msg) ([]api.Entry, int) {
	t.Helper()
	if !tree.May(l) || !acl.May(rules) {
		t.Fatal("the test's own", text(l), rules)
	}
	was := fmt.Sprint(l, rules, m)
	first, code := find.Search(l, rules, who, m)
	again, same := find.Search(l, rules, who, m)
	if text(first) != text(again) || code != same {
		t.Errorf("R1: Search of %.200q: %d, then %d", fmt.Sprint(m), code, same)
	}
	if fmt.Sprint(l, rules, m) != was {
		t.Fatalf("R3: what was handed in: %.200q", was)
	}
	if code != api.Success && code != api.SizeExceeded && len(first) != 0 {
		t.Errorf("R4: beside %d: %s", code, keys(first))
	}
	return first, code
}

// checkKeys asks which entries are told, with all of their attributes, and Success.
func checkKeys(t *testing.T, want string, l []api.Entry, rules []api.Rule, who string, m api.Msg) {
	t.Helper()
	got, code := search(t, l, rules, who, m)
	if keys(got) != want || code != api.Success {
		t.Errorf("11.1: %s of %q: %q, %d, not %q", scopeNames[m.Scope], m.Dn, keys(got), code, want)
	}
}

// checkCode asks for a code beside which nothing is told.
func checkCode(t *testing.T, want int, l []api.Entry, m api.Msg) {
	t.Helper()
	for _, rules := range [][]api.Rule{open(), nil} {
		for _, who := range []string{"", "cn=eve,o=x"} {
			if got, code := search(t, l, rules, who, m); len(got) != 0 || code != want {
				t.Errorf("11.1: of %.200q: %d, not %d", fmt.Sprint(m), code, want)
			}
		}
	}
}

// TestCompany: the tests' own tree may be, and has these keys.
func TestCompany(t *testing.T) {
	if l := company(); !tree.May(l) || keys(l) != companyKeys {
		t.Fatal("11: the company", keys(l))
	}
}

// TestScopes: 11.1, the entry of the key, those whose Up it is, those that are Under it; the empty one's own there is not.
func TestScopes(t *testing.T) {
	for _, c := range []struct{ names, base, one, sub string }{
		{"", "", "o=x o=y", companyKeys},
		{`o=x|O=X|O=x|o=\58|o=\20x\20|o=\ x|o=x\ `, "o=x", "cn=eve,o=x ou=a,o=x ou=b,o=x", strings.Replace(companyKeys, "o=y ", "", 1)},
		{"o=y|O=Y", "o=y", "", "o=y"},
		{"ou=a,o=x|OU=A,o=X", "ou=a,o=x", "cn=ann,ou=a,o=x cn=bob,ou=a,o=x ou=in,ou=a,o=x", "cn=ann,ou=a,o=x cn=bob,ou=a,o=x cn=dan,ou=in,ou=a,o=x ou=a,o=x ou=in,ou=a,o=x"},
		{"ou=b,o=x|Ou=B,O=X", "ou=b,o=x", "", "ou=b,o=x"},
		{"ou=in,ou=a,o=x|OU=In,OU=a,O=x", "ou=in,ou=a,o=x", "cn=dan,ou=in,ou=a,o=x", "cn=dan,ou=in,ou=a,o=x ou=in,ou=a,o=x"},
		{"cn=eve,o=x|CN=EVE,o=x", "cn=eve,o=x", "", "cn=eve,o=x"},
		{`cn=dan,ou=in,ou=a,o=x|CN=\44an,Ou=In,OU=a,O=X`, "cn=dan,ou=in,ou=a,o=x", "", "cn=dan,ou=in,ou=a,o=x"},
	} {
		for _, name := range strings.Split(c.names, "|") {
			for _, f := range []string{"(&)", "(objectclass=*)", "(!(o=z))"} {
				checkKeys(t, c.base, company(), open(), "", ask(t, name, api.Base, 0, f))
				checkKeys(t, c.one, company(), open(), "", ask(t, name, api.One, 0, f))
				checkKeys(t, c.sub, company(), open(), "", ask(t, name, api.Sub, 0, f))
			}
		}
	}
}

// TestScopeMarks: 11.1, a mark ahead of a comma parts no names.
func TestScopeMarks(t *testing.T) {
	l := []api.Entry{en(`cn=a\,o=x`, "cn:a,o=x", "objectclass:person", "sn:s"), en(`cn=b\,o=x,o=x`, "cn:b,o=x", "objectclass:person", "sn:s"), org("x")}
	checkKeys(t, `cn=b\,o=x,o=x`, l, open(), "", ask(t, "o=x", api.One, 0, "(&)"))
	checkKeys(t, `cn=b\,o=x,o=x o=x`, l, open(), "", ask(t, "o=x", api.Sub, 0, "(&)"))
	checkKeys(t, `cn=a\,o=x o=x`, l, open(), "", ask(t, "", api.One, 0, "(&)"))
	checkKeys(t, `cn=a\,o=x`, l, open(), "", ask(t, `cn=a\2co=x`, api.Base, 0, "(&)"))
}

// TestWhole: 11.1, what is told of an entry is all of its View: its name and attributes as they are written.
func TestWhole(t *testing.T) {
	l := company()
	for _, who := range []string{"", "cn=eve,o=x"} {
		if got, _ := search(t, l, open(), who, ask(t, "", api.Sub, 0, "(&)")); text(got) != text(l) {
			t.Error("11.1: all of the company", text(got))
		}
	}
	got, _ := search(t, l, list(rule(api.WAny, "", "", true, api.Write)), "", ask(t, "cn=bob,ou=a,o=x", api.Base, 0, "(&)"))
	if text(got) != text(l[1:2]) {
		t.Error("11.1: what may be written may be read", text(got))
	}
}

// TestFilters: 11.1, those of which the Filter says True, not those of which it says Undefined.
func TestFilters(t *testing.T) {
	for f, want := range map[string]string{
		"(&)": companyKeys, "(|)": "", "(cn=*)": "cn=ann,ou=a,o=x cn=bob,ou=a,o=x cn=dan,ou=in,ou=a,o=x cn=eve,o=x", "(cn=BOB)": "cn=bob,ou=a,o=x", "(cn=boss)": "cn=ann,ou=a,o=x cn=bob,ou=a,o=x cn=dan,ou=in,ou=a,o=x cn=eve,o=x", "(mail=*N@X)": "cn=ann,ou=a,o=x cn=dan,ou=in,ou=a,o=x", "(uid>=c)": "cn=dan,ou=in,ou=a,o=x cn=eve,o=x", "(uid<=c)": "cn=ann,ou=a,o=x cn=bob,ou=a,o=x",
		"(!(cn=*))": "o=x o=y ou=a,o=x ou=b,o=x ou=in,ou=a,o=x", "(|(ou=B)(o=Y))": "o=y ou=b,o=x", "(&(cn=*)(!(uid=ann))(!(uid=eve)))": "cn=bob,ou=a,o=x cn=dan,ou=in,ou=a,o=x",
		"(dc=*)": "", "(!(dc=*))": "", "(|(dc=*)(ou=b))": "ou=b,o=x", "(&(dc=*)(ou=b))": "", "(!(&(dc=*)(ou=b)))": strings.Replace(companyKeys, " ou=b,o=x", "", 1), "(cn=)": "", "(!(cn=))": "", "(userpassword>=a)": "", "(!(userpassword=p*))": "", "(userpassword=pw Ann)": "cn=ann,ou=a,o=x", "(userpassword=pw ann)": "",
	} {
		checkKeys(t, want, company(), open(), "", ask(t, "", api.Sub, 0, f))
	}
	// Within the scope alone.
	checkKeys(t, "cn=eve,o=x", company(), open(), "", ask(t, "o=x", api.One, 0, "(cn=*)"))
	checkKeys(t, "", company(), open(), "", ask(t, "o=x", api.Base, 0, "(cn=*)"))
	checkKeys(t, "o=x", company(), open(), "", ask(t, "o=x", api.Base, 0, "(o=X)"))
	checkKeys(t, "cn=ann,ou=a,o=x cn=bob,ou=a,o=x", company(), open(), "", ask(t, "ou=a,o=x", api.One, 0, "(cn=*)"))
	checkKeys(t, "", company(), open(), "", ask(t, "ou=b,o=x", api.Sub, 0, "(cn=*)"))
}

// TestEmptyTree: 11.1, of an empty tree nothing is told of the empty name, and no other is there.
func TestEmptyTree(t *testing.T) {
	for _, l := range [][]api.Entry{nil, {}, make([]api.Entry, 0, 4)} {
		for scope := range scopeNames {
			for _, rules := range [][]api.Rule{open(), nil} {
				checkKeys(t, "", l, rules, "", ask(t, "", scope, 0, "(&)"))
				checkKeys(t, "", l, rules, "cn=a", ask(t, "", scope, 1, "(cn=*)", "*"))
			}
			checkCode(t, api.NoObject, l, ask(t, "o=x", scope, 0, "(&)"))
			checkCode(t, api.BadDn, l, ask(t, "x", scope, 0, "(&)"))
		}
		checkCode(t, api.ProtocolError, l, ask(t, "", 3, 0, "(&)"))
	}
}

// TestOtherFields: 11.1, nothing else of a message is asked.
func TestOtherFields(t *testing.T) {
	m := ask(t, "o=x", api.One, 2, "(objectclass=*)", "ou", "CN")
	want, code := search(t, company(), open(), "", m)
	if keys(want) != "cn=eve,o=x ou=a,o=x" || code != api.SizeExceeded {
		t.Fatal("11.1: two of three", keys(want), code)
	}
	for _, kind := range []int{0, api.MBind, api.MSearch, api.MDone, -1, 99} {
		m.Id, m.Kind, m.Val, m.Mods, m.Entry, m.Rdn = kind, kind, "(&)", []api.Mod{{Kind: api.MAdd}}, org("z"), "no"
		m.Old, m.Type, m.N, m.Of, m.Code, m.Text, m.Refs = true, "sn", -1, 1, api.Other, "text", []string{"o=y"}
		if got, code := search(t, company(), open(), "", m); text(got) != text(want) || code != api.SizeExceeded {
			t.Error("11.1: of a message of the kind", kind, keys(got), code)
		}
	}
}

var (
	wrongScopes = []int{-1, 3, 4, -2, 1 << 8, 1<<8 + 1, 1<<16 + 2, 1 << 32, 1<<32 + 1, math.MaxInt, math.MinInt}
	wrongLimits = []int{-1, -2, -9, -1 << 8, -1 << 31, -1 << 32, math.MinInt}
	notNames    = []string{"x", " ", "no name", "o", "o=", "o= x", "o=x ", `o=\20`, `cn=\ ,o=x`, "o=x,", ",o=x", ",", "o=x, cn=a", "1=x", "o=é", `o=x\`, "o=" + strings.Repeat("x", api.MaxVal+1), strings.Repeat("o=x,", api.MaxRdns) + "o=x", "*"}
	notThere    = []string{"o=z", "O=XX", "x=x", "cn=x", "ou=a", "ou=a,o=y", "cn=ann,o=x", "cn=ann,ou=b,o=x", "cn=ann", "ou=in,o=x", `o=x\,o=x`, "o=x,o=x", "cn=ann,cn=ann,ou=a,o=x", `o=x\20\20y`, strings.Repeat("o=x,", api.MaxRdns-1) + "o=x"}
)

// wrongFilters are some that may not be.
func wrongFilters() []api.Filter {
	has := api.Filter{Kind: api.FHas, Type: "cn"}
	deep := api.Filter{Kind: api.FNot, Kids: []api.Filter{has}}
	for range api.MaxDeep {
		deep = api.Filter{Kind: api.FNot, Kids: []api.Filter{deep}}
	}
	return []api.Filter{
		{}, {Kind: 9}, {Kind: -1, Type: "cn"}, {Kind: api.FHas}, {Kind: api.FHas, Type: "cn", Val: "x"}, {Kind: api.FHas, Type: "c n"}, {Kind: api.FNot}, {Kind: api.FNot, Kids: []api.Filter{has, has}}, {Kind: api.FAnd, Type: "cn"}, {Kind: api.FAnd, Kids: slices.Repeat([]api.Filter{has}, api.MaxVals+1)}, {Kind: api.FOr, Kids: []api.Filter{has, {}}}, {Kind: api.FEq, Type: "cn", Val: strings.Repeat("v", api.MaxVal+1)}, {Kind: api.FSub, Type: "cn", Parts: []string{"a"}}, {Kind: api.FSub, Type: "cn", Parts: []string{"", ""}}, {Kind: api.FGe, Type: strings.Repeat("t", api.MaxType+1), Val: "a"}, deep,
	}
}

// TestProtocolError: 11.1, a Scope that is none, a Limit below 0, a Filter that may not be; each alone.
func TestProtocolError(t *testing.T) {
	for _, name := range []string{"", "o=x", "cn=ann,ou=a,o=x"} {
		for _, scope := range wrongScopes {
			checkCode(t, api.ProtocolError, company(), ask(t, name, scope, 0, "(&)"))
		}
		for scope := range scopeNames {
			for _, limit := range wrongLimits {
				checkCode(t, api.ProtocolError, company(), ask(t, name, scope, limit, "(&)"))
			}
			for _, f := range wrongFilters() {
				checkCode(t, api.ProtocolError, company(), api.Msg{Dn: name, Scope: scope, Filter: f})
			}
		}
	}
}

// TestNames: 11.1, BadDn of what is no name, NoObject of one that is not there, whatever the scope.
func TestNames(t *testing.T) {
	for scope := range scopeNames {
		for _, name := range notNames {
			checkCode(t, api.BadDn, company(), ask(t, name, scope, 0, "(&)"))
		}
		for _, name := range notThere {
			checkCode(t, api.NoObject, company(), ask(t, name, scope, 1, "(dc=*)", "none"))
		}
	}
}

// TestFirst: 11.1, of several things that are wrong the first that the chapter names counts.
func TestFirst(t *testing.T) {
	right, _ := filter.Parse("(&)")
	for _, scope := range append([]int{api.Base, api.One, api.Sub}, wrongScopes...) {
		for _, limit := range append([]int{0, 1}, wrongLimits...) {
			for i, f := range append([]api.Filter{right}, wrongFilters()...) {
				ok := scope >= api.Base && scope <= api.Sub && limit >= 0 && i == 0
				for name, code := range map[string]int{"no name": api.BadDn, `o=\20`: api.BadDn, "o=z": api.NoObject, "ou=a": api.NoObject, "": 0, "O=Y": 0} {
					m := api.Msg{Dn: name, Scope: scope, Limit: limit, Filter: f}
					got, told := find.Search(company(), open(), "", m)
					if !ok && (told != api.ProtocolError || len(got) > 0) || ok && code != 0 && (told != code || len(got) > 0) || ok && code == 0 && told != api.Success && told != api.SizeExceeded {
						t.Fatalf("11.1: Scope %d, Limit %d, Filter %d of %q: %d", scope, limit, i, name, told)
					}
				}
			}
		}
	}
}

// TestLimit: 11.1, below as many as there are the first ones and SizeExceeded, else all of them; 0 limits nothing.
func TestLimit(t *testing.T) {
	for f, name := range map[string]string{"(&)": "", "(cn=*)": "", "(!(cn=*))": "", "(ou=*)": "o=x", "(cn=dan)": "", "(cn=zoe)": "", "(objectclass=organization)": "o=x", "(uid=eve)": "o=x"} {
		all, code := search(t, company(), open(), "", ask(t, name, api.Sub, 0, f))
		if code != api.Success {
			t.Fatal("11.1: without a limit", code)
		}
		for _, limit := range []int{1, 2, 3, 4, 5, 6, 7, 8, 9, 10, 11, 200, 201, 1 << 8, 1 << 16, 1 << 31, 1 << 32, math.MaxInt} {
			want, code := all, api.Success
			if limit < len(all) {
				want, code = all[:limit], api.SizeExceeded
			}
			got, told := search(t, company(), open(), "", ask(t, name, api.Sub, limit, f))
			if text(got) != text(want) || told != code {
				t.Errorf("11.1: %s with Limit %d: %q, %d", f, limit, keys(got), told)
			}
		}
	}
}

// TestLimitCounts: 11.1, only what is told counts: not what does not match, nor what may not be read, nor what is elsewhere.
func TestLimitCounts(t *testing.T) {
	rules := list(rule(api.WAny, "", "cn=eve,o=x", false, api.No), rule(api.WAny, "", "ou=b,o=x", false, api.No), rule(api.WAny, "", "", true, api.Read))
	for _, c := range []struct {
		m    api.Msg
		want string
		code int
	}{
		{ask(t, "o=x", api.One, 1, "(&)"), "ou=a,o=x", api.Success},
		{ask(t, "", api.Sub, 3, "(cn=boss)"), "cn=ann,ou=a,o=x cn=bob,ou=a,o=x cn=dan,ou=in,ou=a,o=x", api.Success},
		{ask(t, "", api.Sub, 2, "(cn=boss)"), "cn=ann,ou=a,o=x cn=bob,ou=a,o=x", api.SizeExceeded},
		{ask(t, "", api.Sub, 2, "(ou=*)"), "ou=a,o=x ou=in,ou=a,o=x", api.Success},
		{ask(t, "", api.Sub, 1, "(ou=*)", "none"), "ou=a,o=x", api.SizeExceeded},
		{ask(t, "", api.One, 2, "(&)", "sn"), "o=x o=y", api.Success},
		{ask(t, "o=y", api.Sub, 1, "(&)"), "o=y", api.Success},
		{ask(t, "o=x", api.Base, 1, "(&)"), "o=x", api.Success},
		{ask(t, "ou=b,o=x", api.Base, 1, "(&)"), "", api.Success},
		{ask(t, "", api.Base, 1, "(&)"), "", api.Success},
		{ask(t, "", api.Sub, 1, "(|)"), "", api.Success},
		{ask(t, "", api.Sub, 1, "(|(cn=ann)(dc=*))"), "cn=ann,ou=a,o=x", api.Success},
	} {
		if got, code := search(t, company(), rules, "", c.m); keys(got) != c.want || code != c.code {
			t.Errorf("11.1: %s of %q, %s, Limit %d: %q, %d", scopeNames[c.m.Scope], c.m.Dn, filter.Text(c.m.Filter), c.m.Limit, keys(got), code)
		}
	}
}

// TestFull: 11.1, of a tree of as many as may be.
func TestFull(t *testing.T) {
	l := []api.Entry{}
	for i := range api.MaxEntries - 1 {
		l = append(l, en(fmt.Sprintf("cn=%03d,o=x", i), fmt.Sprintf("cn:%03d", i), "objectclass:person", "sn:s"))
	}
	l = append(l, org("x"))
	for _, limit := range []int{0, 1, 198, 199, 200, 201} {
		want, code := l, api.Success
		if limit > 0 && limit < len(l) {
			want, code = l[:limit], api.SizeExceeded
		}
		if got, told := search(t, l, open(), "", ask(t, "", api.Sub, limit, "(objectclass=*)")); text(got) != text(want) || told != code {
			t.Error("11.1: of a full tree", limit, len(got), told)
		}
	}
	checkKeys(t, "cn=198,o=x", l, open(), "", ask(t, "o=x", api.One, 1, "(cn=198)"))
	checkKeys(t, "cn=000,o=x o=x", l, open(), "", ask(t, "o=X", api.Sub, 2, "(|(cn=000)(o=*))"))
}
