package tree_test

import (
	"fmt"
	"slices"
	"strings"
	"testing"

	"brook/api"
	"brook/tree"
)

// en makes an entry of texts: a type, `:`, and values with `|` between; without `:` it has none.
func en(name string, s ...string) api.Entry {
	e := api.Entry{Dn: name}
	for _, x := range s {
		typ, vals, some := strings.Cut(x, ":")
		a := api.Attr{Type: typ}
		if some {
			a.Vals = strings.Split(vals, "|")
		}
		e.Attrs = append(e.Attrs, a)
	}
	return e
}

func org(o string) api.Entry { return en("o="+o, "o:"+o, "objectclass:organization") }

func unit(ou, up string) api.Entry {
	return en("ou="+ou+","+up, "objectclass:organizationalunit", "ou:"+ou)
}

func person(cn, up string) api.Entry {
	return en("cn="+cn+","+up, "cn:"+cn, "objectclass:person", "sn:S")
}

func list(l ...api.Entry) []api.Entry { return l }

// text tells all of a list; nil lists and empty ones are one.
func text(l []api.Entry) string { return fmt.Sprintf("%q", l) }

func keys(l []api.Entry) string {
	var all []string
	for _, e := range l {
		all = append(all, tree.Key(e))
	}
	return strings.Join(all, " ")
}

// company is a tree of two that have none above them, units and people below one of them.
func company() []api.Entry {
	return list(
		person("Ann", "ou=a,o=x"),
		person("Bob", "ou=A,O=x"),
		person("Dan", "ou=in,ou=a,o=x"),
		person("Eve", "o=x"),
		org("x"),
		org("y"),
		unit("a", "o=x"),
		unit("b", "o=x"),
		unit("in", "ou=a,o=x"),
	)
}

// companyKeys are the keys of company, in their order.
const companyKeys = "cn=ann,ou=a,o=x cn=bob,ou=a,o=x cn=dan,ou=in,ou=a,o=x cn=eve,o=x o=x o=y ou=a,o=x ou=b,o=x ou=in,ou=a,o=x"

// TestCompany: the tests' own tree may be, and has these keys.
func TestCompany(t *testing.T) {
	if l := company(); !tree.May(l) || keys(l) != companyKeys {
		t.Fatal("8.1: the company", keys(l))
	}
}

// TestKey: 8.1, the Key of Dn; empty: it is no name.
func TestKey(t *testing.T) {
	most := strings.Repeat("cn=Ann,", api.MaxRdns-1) + "cn=Ann"
	for name, want := range map[string]string{
		"o=x": "o=x", "O=X": "o=x", "CN=Ann  Lee,O=x": "cn=ann lee,o=x", `cn=\41,o=\2c`: `cn=a,o=\,`, `cn=\20A\20,o=x`: "cn=a,o=x", "dc=x": "dc=x", most: strings.ToLower(most),
		"": "", "no name": "", " ": "", "o": "", "o=": "", "o= x": "", `o=\20`: "", `o=\20,o=x`: "", "o=x,": "", ",o=x": "", "o=x, cn=a": "", "o=x,cn=": "", "cn=a," + most: "", "o=" + strings.Repeat("x", api.MaxVal+1): "", "o=é": "", "o=x\x00": "",
	} {
		if key := tree.Key(en(name)); key != want {
			t.Errorf("8.1: Key of %.40q: %q", name, key)
		}
		// Of the name alone.
		if key := tree.Key(en(name, "o:y", "objectclass:organization")); key != want {
			t.Errorf("8.1: Key of %.40q, of one with attributes: %q", name, key)
		}
	}
	if tree.Key(api.Entry{}) != "" {
		t.Error("8.1: Key of the empty entry")
	}
}

// TestFind: 8.1, the place of the entry of a key, first, last and between; -1: there is none.
func TestFind(t *testing.T) {
	l := company()
	for i, key := range strings.Fields(companyKeys) {
		if at := tree.Find(l, key); at != i {
			t.Errorf("8.1: Find of %q: %d", key, at)
		}
		// Each of one less.
		for j := range l {
			want := i
			if j == i {
				want = -1
			} else if j < i {
				want--
			}
			if at := tree.Find(slices.Delete(company(), j, j+1), key); at != want {
				t.Errorf("8.1: Find of %q without the one at %d: %d", key, j, at)
			}
		}
	}
	for _, key := range []string{"", " ", ",", "no name", "o", "o=", "o=z", "o=", "O=X", "o=x ", " o=x", "o=x,", "ou=a", "a,o=x", "ou=a,o=y", "cn=eve", "CN=Ann,OU=a,o=x", `cn=\65ve,o=x`, "\x00", "zz=z", "a=a", strings.Repeat("o=x,", 9) + "o=x", strings.Repeat("x", 1<<16)} {
		if at := tree.Find(l, key); at != -1 {
			t.Errorf("8.1: Find of %.40q: %d", key, at)
		}
		if at := tree.Find(nil, key); at != -1 {
			t.Errorf("8.1: Find of %.40q in an empty tree: %d", key, at)
		}
	}
	if tree.Find([]api.Entry{}, "o=x") != -1 || tree.Find(list(org("x")), "o=x") != 0 {
		t.Error("8.1: Find in none, or in one")
	}
}

// TestKids: 8.1, the keys whose Up is a key, rising: of none, of one, of several; their own kids are none of them.
func TestKids(t *testing.T) {
	l := company()
	for key, want := range map[string]string{
		"":               "o=x o=y",
		"o=x":            "cn=eve,o=x ou=a,o=x ou=b,o=x",
		"o=y":            "",
		"ou=a,o=x":       "cn=ann,ou=a,o=x cn=bob,ou=a,o=x ou=in,ou=a,o=x",
		"ou=b,o=x":       "",
		"ou=in,ou=a,o=x": "cn=dan,ou=in,ou=a,o=x",
		"cn=eve,o=x":     "", "cn=dan,ou=in,ou=a,o=x": "",
		"O=X": "", "o=x ": "", "x": "", ",o=x": "", "OU=a,o=x": "", "ou=a": "", "no name": "", "o=z": "", " ": "", ",": "",
	} {
		if kids := tree.Kids(l, key); strings.Join(kids, " ") != want {
			t.Errorf("8.1: Kids of %q: %q", key, kids)
		}
		if kids := tree.Kids(nil, key); len(kids) != 0 {
			t.Errorf("8.1: Kids of %q in an empty tree: %q", key, kids)
		}
	}
	// Where what stands above them is not there they are kids all the same.
	l = tree.Del(tree.Del(l, "o=x"), "ou=a,o=x")
	for key, want := range map[string]string{"": "o=y", "o=x": "cn=eve,o=x ou=b,o=x", "ou=a,o=x": "cn=ann,ou=a,o=x cn=bob,ou=a,o=x ou=in,ou=a,o=x"} {
		if kids := tree.Kids(l, key); strings.Join(kids, " ") != want {
			t.Errorf("8.1: Kids of %q that is gone: %q", key, kids)
		}
	}
	// What has no name is nobody's kid, and has none.
	if kids := tree.Kids(list(api.Entry{}, en("no name"), org("x")), ""); strings.Join(kids, " ") != "o=x" {
		t.Errorf("8.1: Kids of the empty key, beside what has no name: %q", kids)
	}
	// A `,` behind a mark parts nothing.
	l = list(en(`o=a\,o=x`, `o:a,o=x`, "objectclass:organization"), org("x"), unit(`b\,c\\`, "o=x"), unit("d", `o=a\,o=x`))
	for key, want := range map[string]string{"": `o=a\,o=x o=x`, "o=x": `ou=b\,c\\,o=x`, `o=a\,o=x`: `ou=d,o=a\,o=x`} {
		if kids := tree.Kids(l, key); strings.Join(kids, " ") != want {
			t.Errorf("8.1: Kids of %q: %q", key, kids)
		}
	}
}

// TestPut: 8.1, an entry in the place of that of its key, or where it stands by it: ahead of all, behind all, between.
func TestPut(t *testing.T) {
	for i, c := range []struct {
		e    api.Entry
		want string
	}{
		{person("Abe", "o=x"), "cn=abe,o=x " + companyKeys},
		{person("Zoe", "o=y"), strings.Replace(companyKeys, " o=x o=y ", " cn=zoe,o=y o=x o=y ", 1)},
		{org("w"), strings.Replace(companyKeys, " o=x o=y ", " o=w o=x o=y ", 1)},
		{org("xa"), strings.Replace(companyKeys, " o=x o=y ", " o=x o=xa o=y ", 1)},
		{org("z"), strings.Replace(companyKeys, " o=x o=y ", " o=x o=y o=z ", 1)},
		{unit("AA", "o=x"), strings.Replace(companyKeys, " ou=b,o=x", " ou=aa,o=x ou=b,o=x", 1)},
		{unit("Z", "o=nowhere"), companyKeys + " ou=z,o=nowhere"},
		{unit("Zz", "o=x"), companyKeys + " ou=zz,o=x"},
		{org("X"), companyKeys},
		{person("ANN", "OU=a,o=x"), companyKeys},
		{en("ou=in,ou=A,o=x", "description:new", "objectclass:organizationalunit", "ou:IN"), companyKeys},
		{en("ou=b,o=x"), companyKeys},
		{en("dc=x"), strings.Replace(companyKeys, " o=x ", " dc=x o=x ", 1)},
		{en(`a=\00`, ":", "dc:x"), `a=\00 ` + companyKeys},
	} {
		l := company()
		told := tree.Put(l, c.e)
		if keys(told) != c.want {
			t.Errorf("8.1: Put %d: %s", i, keys(told))
		}
		// All others are there as they were, and it is as it was handed in.
		at := slices.Index(strings.Split(c.want, " "), tree.Key(c.e))
		rest := slices.Delete(slices.Clone(told), at, at+1)
		others := slices.DeleteFunc(company(), func(e api.Entry) bool { return tree.Key(e) == tree.Key(c.e) })
		if text(told[at:at+1]) != text(list(c.e)) || text(rest) != text(others) || text(l) != text(company()) {
			t.Errorf("8.1: Put %d: %s", i, text(told))
		}
		if again := tree.Put(told, c.e); text(again) != text(told) {
			t.Errorf("8.1: Put %d again: %s", i, text(again))
		}
	}
	for _, l := range [][]api.Entry{nil, {}, list(org("x")), list(org("X"))} {
		if told := tree.Put(l, org("x")); text(told) != text(list(org("x"))) {
			t.Errorf("8.1: Put into %s: %s", text(l), text(told))
		}
	}
}

// TestPutAll: 8.1, whatever the order in which they are put, the same tree comes of it.
func TestPutAll(t *testing.T) {
	d := dice(8)
	for range 200 {
		l := company()
		d.mix(l)
		var told []api.Entry
		for i, e := range l {
			told = tree.Put(told, e)
			if len(told) != i+1 {
				t.Fatal("8.1: Put", keys(told))
			}
		}
		if text(told) != text(company()) {
			t.Fatal("8.1: Put in another order", keys(told))
		}
	}
}

// TestPutMany: 8.1, how many there may be is asked by May, not by Put.
func TestPutMany(t *testing.T) {
	var l []api.Entry
	for i := range api.MaxEntries + 2 {
		l = tree.Put(l, org(fmt.Sprint(5000-i)))
		if len(l) != i+1 || tree.May(l) != (i < api.MaxEntries) {
			t.Fatal("8.1: Put of many", i, len(l))
		}
	}
}

// TestPutWrong: R4, no sentence gives Put a value of an entry that has no key, or is not its own norm.
func TestPutWrong(t *testing.T) {
	for i, e := range []api.Entry{
		{}, en("", "o:x", "objectclass:organization"), en("no name"), en("o="), en(`o=\ `), en("o=x, o=y"), en(`o=\20,o=x`),
		en(`o=\78`, "o:x", "objectclass:organization"), en(`o=\C4`), en("o=x", "objectclass:organization", "o:x"), en("o=x", "O:x", "objectclass:organization"), en("o=x", "o:x", "objectClass:organization"), en("o=x", "o", "DC", "dc"),
	} {
		for _, l := range [][]api.Entry{nil, company(), list(org("x"))} {
			if told := tree.Put(l, e); len(told) != 0 {
				t.Errorf("R4: Put %d: %s", i, text(told))
			}
		}
	}
}

// TestDel: 8.1, a list without the entry of a key, if there is one.
func TestDel(t *testing.T) {
	for i, key := range strings.Fields(companyKeys) {
		l := company()
		told := tree.Del(l, key)
		if text(told) != text(slices.Delete(company(), i, i+1)) || text(l) != text(company()) {
			t.Errorf("8.1: Del of %q: %s", key, keys(told))
		}
		if again := tree.Del(told, key); text(again) != text(told) {
			t.Errorf("8.1: Del of %q again: %s", key, keys(again))
		}
		// What was there, put again, is there.
		if back := tree.Put(told, l[i]); text(back) != text(l) {
			t.Errorf("8.1: Put of %q that was gone: %s", key, keys(back))
		}
	}
	for _, key := range []string{"", " ", "no name", "o=z", "O=X", "o=x ", "ou=a", "o", "CN=Eve,o=x", "x", "\xff"} {
		if told := tree.Del(company(), key); text(told) != text(company()) {
			t.Errorf("8.1: Del of %q: %s", key, keys(told))
		}
		if told := tree.Del(nil, key); len(told) != 0 {
			t.Errorf("8.1: Del of %q in an empty tree: %s", key, keys(told))
		}
	}
	if told := tree.Del(list(org("X")), "o=x"); len(told) != 0 {
		t.Error("8.1: Del of the only one", keys(told))
	}
}

// TestSame: 8.1, alike in all: of lists that differ in something each is like itself alone.
func TestSame(t *testing.T) {
	all := [][]api.Entry{
		nil, list(en("")), list(en(""), en("")), list(en("no name")), list(en("o=x")), list(en("O=x")), list(en("o=X")), list(en(`o=\78`)), list(en("o=x", "")), list(en("o=x", ":")),
		list(org("x")), list(org("X")), list(org("x"), org("x")), list(org("x"), org("y")), list(org("y"), org("x")), list(org("y")), list(org("x"), org("y"), org("y")),
		list(en("o=x", "objectclass:organization", "o:x")), list(en("o=x", "O:x", "objectclass:organization")), list(en("o=x", "o:x", "objectclass:Organization")), list(en("o=x", "o:x|x", "objectclass:organization")), list(en("o=x", "o:x|y", "objectclass:organization")), list(en("o=x", "o:y|x", "objectclass:organization")), list(en("o=x", "o:x")), list(en("o=x", "o:x", "objectclass")), list(en("o=x", "o:x", "objectclass:")), list(en("o=x", "o: x", "objectclass:organization")), list(en("o=x", "ou:x", "objectclass:organization")),
		company(), company()[1:], company()[:8], append(company(), org("z")), append(company(), company()[0]), append(company()[1:], company()[0]), tree.Put(company(), org("X")), tree.Del(company(), "ou=a,o=x"),
	}
	was := fmt.Sprintf("%q", all)
	for i, a := range all {
		for j, b := range all {
			if tree.Same(a, b) != (i == j) {
				t.Errorf("8.1: Same of %s, %s: %v", text(a), text(b), i != j)
			}
		}
		// All made anew; nil lists and empty ones are one.
		b := make([]api.Entry, 0, 20)
		for _, e := range a {
			x := api.Entry{Dn: e.Dn, Attrs: append(make([]api.Attr, 0, 5), e.Attrs...)}
			for k, attr := range x.Attrs {
				x.Attrs[k].Vals = append(make([]string, 0, 9), attr.Vals...)
			}
			b = append(b, x)
		}
		if !tree.Same(a, b) || !tree.Same(b, a) {
			t.Errorf("8.1: Same of %s made anew", text(a))
		}
	}
	if fmt.Sprintf("%q", all) != was {
		t.Error("R3: what was handed in")
	}
}
