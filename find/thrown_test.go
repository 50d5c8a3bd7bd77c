package find_test

import (
	"slices"
	"sort"
	"strings"
	"testing"

	"brook/acl"
	"brook/api"
	"brook/dn"
	"brook/eval"
	"brook/filter"
	"brook/find"
	"brook/tree"
)

// dice is a small generator: the same numbers in each run.
type dice uint32

func (d *dice) below(n int) int {
	*d = *d*1664525 + 1013904223
	return int(*d>>8) % n
}

func (d *dice) of(l ...string) string { return l[d.below(len(l))] }

// some throws a few of a list, in its order.
func (d *dice) some(l ...string) []string {
	return slices.DeleteFunc(l, func(string) bool { return d.below(2) == 0 })
}

// tree throws one that may be: of some names those whose names above are there.
func (d *dice) tree() []api.Entry {
	all := map[string]api.Entry{}
	for _, name := range []string{"o=x", "o=y", "ou=a,o=x", "ou=b,O=X", "ou=a,o=y", "cn=a,o=x", "cn=b,ou=A,o=x", "cn=c,ou=a,o=x", `cn=\,o=x`, "cn=a,ou=b,o=x", "cn=d,cn=a,o=x"} {
		key, _ := dn.Key(name)
		up := dn.Up(key)
		if _, there := all[up]; up != "" && !there || d.below(6) == 0 {
			continue
		}
		all[key] = d.entry(name)
	}
	var l []api.Entry
	for _, e := range all {
		l = append(l, e)
	}
	sort.Slice(l, func(i, j int) bool { return tree.Key(l[i]) < tree.Key(l[j]) })
	return l
}

// entry throws one of a name, for which Check says Success.
func (d *dice) entry(name string) api.Entry {
	parts, _ := dn.Parse(name)
	own := parts[0]
	more := func(typ string) []string {
		if d.below(2) == 0 {
			return nil
		}
		return []string{typ + ":" + d.of("a", "B", "c|a", "  B b", "5")}
	}
	switch own.Type {
	case "o":
		return en(name, slices.Concat(more("description"), []string{"o:" + own.Val, "objectclass:organization"})...)
	case "ou":
		return en(name, slices.Concat(more("description"), []string{"objectclass:organizationalunit", "ou:" + own.Val})...)
	}
	return en(name, slices.Concat([]string{"cn:" + own.Val}, more("description"), more("mail"), []string{"objectclass:top|inetorgperson", "sn:" + d.of("a", "B")}, more("uid"), more("userpassword"))...)
}

func (d *dice) who() string { return d.of("", "o=x", "cn=a,o=x", "cn=b,ou=a,o=x", "cn=none") }

func (d *dice) rules() []api.Rule {
	var l []api.Rule
	for range d.below(6) {
		r := rule(1+d.below(4), "", d.of("", "", "O=x", "ou=a,o=x", "cn=a,o=x", "o=y"), d.below(4) > 0, d.below(3))
		if r.Who == api.WDn {
			r.Dn = d.of("o=x", "CN=A,o=x", "cn=b,ou=a,o=x")
		}
		if d.below(3) > 0 {
			r.Types = d.some("cn", "objectclass", "sn", "ou", "entry", "description", "mail")
		}
		l = append(l, r)
	}
	if d.below(3) > 0 {
		l = append(l, rule(api.WAny, "", d.of("", "o=x"), true, api.Read))
	}
	return l
}

func (d *dice) leaf() string {
	typ := d.of("cn", "CN", "sn", "description", "mail", "uid", "ou", "o", "objectclass", "userpassword", "dc")
	return "(" + typ + d.of("=*", "=*", "=a", "=b", "=B b", "=5", "=*b", "=a*", ">=b", "<=a", "=") + ")"
}

// filter throws the text of one at most so deep.
func (d *dice) filter(deep int) string {
	if deep == 0 || d.below(3) == 0 {
		return d.leaf()
	}
	switch d.below(4) {
	case 0:
		return "(&" + d.filter(deep-1) + d.filter(deep-1) + ")"
	case 1:
		return "(|" + d.filter(deep-1) + d.filter(deep-1) + ")"
	case 2:
		return d.of("(&)", "(objectclass=*)")
	}
	return "(!" + d.filter(deep-1) + ")"
}

// msg throws a message; something of some is wrong.
func (d *dice) msg(t *testing.T) api.Msg {
	t.Helper()
	m := ask(t, d.of("", "", "", "o=x", "O=X", "o=x", "o=y", "ou=a,o=x", "OU=b,o=X", "cn=a,o=x", `cn=\2co\3dx`), []int{api.Base, api.One, api.Sub, api.Sub}[d.below(4)], 0, d.filter(3))
	if d.below(3) == 0 {
		m.Limit = d.below(4)
	}
	if d.below(2) == 0 {
		m.Types = d.some("CN", "sn", "dc", "Description", "objectclass", "ou", "cn", "uid")
	}
	switch d.below(40) {
	case 0:
		m.Types = append(m.Types, "*")
	case 1:
		m.Scope = d.below(9) - 3
	case 2:
		m.Limit = -d.below(3)
	case 3:
		m.Filter = api.Filter{Kind: d.below(12)}
	case 4, 5, 6:
		m.Dn = d.of("x", `o=\20`, "o=z", "cn=none,o=x")
	}
	return m
}

// The words of 11.1 and 11.2 by other means: names are lists of folded parts, and each attribute's right is asked alone.

// folded tells the parts of a name; ok tells whether it is one.
func folded(name string) (l []string, ok bool) {
	parts, ok := dn.Parse(name)
	if !ok {
		return nil, false
	}
	for _, p := range parts {
		val := dn.Fold(p.Val)
		if val == "" {
			return nil, false
		}
		l = append(l, strings.ToLower(p.Type)+"="+val)
	}
	return l, true
}

func isThere(l []api.Entry, parts []string) int {
	return slices.IndexFunc(l, func(e api.Entry) bool {
		own, ok := folded(e.Dn)
		return ok && slices.Equal(own, parts)
	})
}

// wantedCode is what is wrong with a message; Success: nothing is.
func wantedCode(l []api.Entry, m api.Msg) int {
	if !slices.Contains([]int{api.Base, api.One, api.Sub}, m.Scope) || m.Limit < 0 || !filter.May(m.Filter) {
		return api.ProtocolError
	}
	parts, ok := folded(m.Dn)
	if !ok {
		return api.BadDn
	}
	if len(parts) > 0 && isThere(l, parts) < 0 {
		return api.NoObject
	}
	return api.Success
}

// wantedWithin tells by how many parts an entry is below the base.
func wantedWithin(e api.Entry, m api.Msg) bool {
	own, _ := folded(e.Dn)
	base, _ := folded(m.Dn)
	below := len(own) - len(base)
	if below < 0 || !slices.Equal(own[below:], base) {
		return false
	}
	return m.Scope == api.Sub || m.Scope == api.Base && below == 0 || m.Scope == api.One && below == 1
}

// wantedPart tells whether Types ask for a type.
func wantedPart(types []string, typ string) bool {
	for _, asked := range types {
		if asked == "*" || strings.EqualFold(asked, typ) {
			return true
		}
	}
	return len(types) == 0
}

func wantedSearch(l []api.Entry, rules []api.Rule, who string, m api.Msg) ([]api.Entry, int) {
	if code := wantedCode(l, m); code != api.Success {
		return nil, code
	}
	var all []api.Entry
	for _, e := range l {
		seen, told := api.Entry{Dn: e.Dn}, api.Entry{Dn: e.Dn}
		for _, a := range e.Attrs {
			if acl.Right(rules, who, e, a.Type) == api.No {
				continue
			}
			seen.Attrs = append(seen.Attrs, a)
			if wantedPart(m.Types, a.Type) {
				told.Attrs = append(told.Attrs, a)
			}
		}
		if wantedWithin(e, m) && len(seen.Attrs) > 0 && eval.Eval(m.Filter, seen) == api.True {
			all = append(all, told)
		}
	}
	if m.Limit > 0 && len(all) > m.Limit {
		return all[:m.Limit], api.SizeExceeded
	}
	return all, api.Success
}

// TestThrown: 11.1, of trees, rules, people and messages that are thrown.
func TestThrown(t *testing.T) {
	d := dice(11)
	codes, found, empty := map[int]int{}, 0, 0
	for range 12000 {
		l, rules, who, m := d.tree(), d.rules(), d.who(), d.msg(t)
		want, code := wantedSearch(l, rules, who, m)
		got, told := search(t, l, rules, who, m)
		if text(got) != text(want) || told != code {
			t.Fatalf("11.1: %s of %q, %s, Limit %d, Types %q, to %q by %v of %s: %q, %d, not %q, %d", scopeNames[m.Scope], m.Dn, filter.Text(m.Filter), m.Limit, m.Types, who, rules, text(l), text(got), told, text(want), code)
		}
		codes[code]++
		found += min(len(want), 1)
		if len(want) > 0 && len(want[0].Attrs) == 0 {
			empty++
		}
	}
	if codes[api.Success] < 5000 || codes[api.SizeExceeded] < 100 || codes[api.ProtocolError] < 200 || codes[api.BadDn] < 200 || codes[api.NoObject] < 200 || found < 2000 || empty < 100 {
		t.Error("the test's own", codes, found, empty)
	}
}

func wantedCompare(l []api.Entry, rules []api.Rule, who, name, typ, val string) int {
	parts, ok := folded(name)
	if !ok {
		return api.BadDn
	}
	at := isThere(l, parts)
	if at < 0 {
		return api.NoObject
	}
	typ = strings.ToLower(typ)
	if !slices.Contains(strings.Fields("objectclass cn sn o ou uid mail description uidnumber member userpassword"), typ) {
		return api.UndefinedType
	}
	if acl.Right(rules, who, l[at], typ) == api.No {
		return api.NoRight
	}
	// Of these types all values have a norm that do not fold to nothing.
	norm := dn.Fold(val)
	if typ == "userpassword" {
		norm = val
	}
	if norm == "" {
		return api.BadSyntax
	}
	for _, a := range l[at].Attrs {
		if a.Type != typ {
			continue
		}
		for _, own := range a.Vals {
			if own == val || typ != "userpassword" && dn.Fold(own) == norm {
				return api.CompareTrue
			}
		}
		return api.CompareFalse
	}
	return api.NoAttribute
}

// TestThrownCompare: 11.2, of trees, rules, people, names, types and values that are thrown.
func TestThrownCompare(t *testing.T) {
	d := dice(112)
	codes := map[int]int{}
	for range 40000 {
		l, rules, who := d.tree(), d.rules(), d.who()
		name := d.of("o=x", "O=X", "o=y", "ou=a,o=x", "OU=b,o=X", "cn=a,o=x", "cn=a,o=x", "CN=B,OU=a,o=x", "cn=c,ou=a,o=x", "", "x", `cn=\20`, "o=z")
		typ := d.of("cn", "CN", "sn", "Sn", "description", "mail", "UID", "ou", "o", "objectClass", "userpassword", "userPassword", "dc", "entry")
		val := d.of("a", "A", "b", "B", "c", " b  B", "B b", "5", "", " ", "x", "TOP", "inetorgperson")
		want := wantedCompare(l, rules, who, name, typ, val)
		if got := find.Compare(l, rules, who, name, typ, val); got != want {
			t.Fatalf("11.2: Compare by %q of %q, %q, %q by %v of %s: %d, not %d", who, name, typ, val, rules, text(l), got, want)
		}
		codes[want]++
	}
	for _, code := range []int{api.BadDn, api.NoObject, api.UndefinedType, api.NoRight, api.BadSyntax, api.NoAttribute, api.CompareTrue, api.CompareFalse} {
		if codes[code] < 300 {
			t.Error("the test's own", codes)
		}
	}
}

// TestThrownUnread: 11.3, of thrown trees of which what may not be read is taken away or turned the same is told.
func TestThrownUnread(t *testing.T) {
	d := dice(113)
	turned := 0
	for range 5000 {
		l, rules, who, m := d.tree(), d.rules(), d.who(), d.msg(t)
		other := d.turned(l, rules, who)
		if !tree.May(other) {
			t.Fatal("the test's own", text(other))
		}
		if text(other) == text(l) {
			continue
		}
		turned++
		first, code := find.Search(l, rules, who, m)
		second, same := find.Search(other, rules, who, m)
		if text(first) != text(second) || code != same {
			t.Fatalf("11.3: %s of %q, %s, Types %q, to %q by %v: of %s %s, of %s %s", scopeNames[m.Scope], m.Dn, filter.Text(m.Filter), m.Types, who, rules, text(l), text(first), text(other), text(second))
		}
		for _, e := range l {
			for _, typ := range []string{"description", "mail", "uid", "userpassword", "sn"} {
				val := d.of("a", "B", "new", "")
				if a, b := find.Compare(l, rules, who, e.Dn, typ, val), find.Compare(other, rules, who, e.Dn, typ, val); a != b {
					t.Fatalf("11.3: Compare of %q, %q, %q: %d, %d", e.Dn, typ, val, a, b)
				}
			}
		}
	}
	if turned < 2000 {
		t.Error("the test's own", turned)
	}
}

// turned makes of a tree one that may be, in which other things stand that who may not read.
func (d *dice) turned(l []api.Entry, rules []api.Rule, who string) []api.Entry {
	var all []api.Entry
	for _, e := range l {
		o := api.Entry{Dn: e.Dn}
		for _, a := range e.Attrs {
			free := slices.Contains([]string{"description", "mail", "uid", "userpassword", "sn"}, a.Type) && acl.Right(rules, who, e, a.Type) == api.No
			if free && a.Type != "sn" && d.below(2) == 0 {
				continue
			}
			if free {
				a.Vals = []string{"new"}
			}
			o.Attrs = append(o.Attrs, a)
		}
		all = append(all, o)
	}
	return all
}
