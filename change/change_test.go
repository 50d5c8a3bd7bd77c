package change_test

import (
	"fmt"
	"slices"
	"strings"
	"testing"

	"brook/api"
	"brook/change"
	"brook/entry"
	"brook/schema"
	"brook/tree"
)

// en makes an entry of texts: a type, `:`, and values with `|` between; without `:` it has none.
func en(name string, s ...string) api.Entry {
	e := api.Entry{Dn: name}
	for _, x := range s {
		typ, vals, some := strings.Cut(x, ":")
		a := api.Attr{Type: typ}
		if some {
			a.Vals = strings.Split(vals, "|")
		}
		e.Attrs = append(e.Attrs, a)
	}
	return e
}

func org(o string) api.Entry { return en("o="+o, "o:"+o, "objectclass:organization") }

func unit(ou, up string) api.Entry {
	return en("ou="+ou+","+up, "objectclass:organizationalunit", "ou:"+ou)
}

func person(cn, up string) api.Entry {
	return en("cn="+cn+","+up, "cn:"+cn, "objectclass:person", "sn:S")
}

// treeOf makes the tree of entries, and sees that it may be.
func treeOf(t *testing.T, entries ...api.Entry) []api.Entry {
	t.Helper()
	var l []api.Entry
	for _, e := range entries {
		l = tree.Put(l, entry.Norm(e))
	}
	if len(l) != len(entries) || !tree.May(l) {
		t.Fatal("the test's own: a tree that may not be", text(l))
	}
	return l
}

// company is a tree of two that have none above them, units and people below one of them.
func company(t *testing.T) []api.Entry {
	t.Helper()
	return treeOf(t, org("x"), org("y"), unit("a", "o=x"), unit("b", "o=x"), unit("in", "ou=a,o=x"), person("Ann", "ou=a,o=x"), person("Bob", "ou=A,O=x"), person("Dan", "ou=in,ou=a,o=x"), person("Eve", "o=x"))
}

// many makes a tree of n that have none above them.
func many(t *testing.T, n int) []api.Entry {
	t.Helper()
	var l []api.Entry
	for i := range n {
		l = append(l, org(fmt.Sprint(1000+i)))
	}
	return treeOf(t, l...)
}

// text tells all of a list; nil lists and empty ones are one.
func text(l []api.Entry) string { return fmt.Sprintf("%q", l) }

func keys(l []api.Entry) string {
	var all []string
	for _, e := range l {
		all = append(all, tree.Key(e))
	}
	return strings.Join(all, " ")
}

// told is the text of an answer.
func told(d api.Delta, code int) string {
	return fmt.Sprintf("%d %d %q %q", code, d.Csn, d.Gone, d.Entry)
}

// refused is the text of an answer that is a code.
func refused(code int) string { return told(api.Delta{}, code) }

// added is the text of an answer that e is there.
func added(e api.Entry) string { return told(api.Delta{Entry: e}, api.Success) }

// behind makes the tree behind a change, and sees that it may be (9.4), and that nothing but what the delta names is another.
func behind(t *testing.T, l []api.Entry, d api.Delta) []api.Entry {
	t.Helper()
	next := l
	if d.Gone != "" {
		next = tree.Del(next, d.Gone)
		if tree.Find(l, d.Gone) < 0 {
			t.Fatalf("9: gone is %q, which was not there: %q", d.Gone, keys(l))
		}
	}
	key := tree.Key(d.Entry)
	if d.Entry.Dn != "" {
		next = tree.Put(next, d.Entry)
	}
	if !tree.May(next) {
		t.Fatalf("9.4: behind %s, from %q: %s", told(d, api.Success), keys(l), text(next))
	}
	rest := func(l []api.Entry) []api.Entry { return tree.Del(tree.Del(l, d.Gone), key) }
	if !tree.Same(rest(l), rest(next)) {
		t.Fatalf("9.4: behind %s others are not as they were: %s", told(d, api.Success), text(next))
	}
	return next
}

// wrongs are entries that Check refuses, by the code that it says: below a name, or below none.
func wrongs(up string) map[int][]api.Entry {
	const class = "objectclass:organizationalunit"
	long := strings.Repeat("v", api.MaxVal+1)
	name := "ou=n" + up
	var attrs []string
	for range api.MaxAttrs + 1 {
		attrs = append(attrs, "ou:n")
	}
	var vals []string
	for i := range api.MaxVals + 1 {
		vals = append(vals, fmt.Sprint("n", i))
	}
	return map[int][]api.Entry{
		api.BadDn:         {{}, en("", class, "ou:n"), en("n"+up, class, "ou:n"), en(`ou=\20`+up, class, `ou: `), en("ou="+up, class, "ou:n"), en("ou=n,"+up, class, "ou:n"), en("ou="+long+up, class, "ou:n"), en(strings.Repeat("ou=n,", api.MaxRdns)+"ou=n", class, "ou:n")},
		api.Constraint:    {en(name, attrs...), en(name, class, "ou"), en(name, class, "description", "ou:n"), en(name, class, "ou:n|"+strings.Join(vals, "|")), en("uid=n"+up, "objectclass:person|posix", "cn:n", "sn:n", "uid:n", "uidnumber:1|2")},
		api.UndefinedType: {en(name, "ou:n", "dc:n", "cn", class), en(name, "dc:n", class, "ou:n"), en(name, class, "ou:n", ":n"), en(name, "ou :n", class), en("dc=n"+up, "dc:n", class, "ou:n")},
		api.ValueExists:   {en(name, class, "ou:n", "OU:m"), en(name, class, "ou:n", "ou:n"), en(name, class, "ou:n|N"), en(name, class, "ou:m|n|m  "), en(name, class, "description:d|e| D ", "ou:n")},
		api.BadSyntax:     {en(name, "ou:n|", "dc:n", class), en(name, class, "ou:n|"), en(name, class, "ou:n| "), en(name, class, "ou:n|"+long), en("cn=n"+up, "objectclass:groupofnames", "cn:n", "member:n"), en("uid=n"+up, "objectclass:person|posix", "cn:n", "sn:n", "uid:n", "uidnumber:01")},
		api.BadClass:      {en(name), en(name, "ou:n"), en(name, "objectclass:none", "ou:n"), en(name, "objectclass:top", "ou:n"), en(name, "objectclass:organizationalunit|person", "ou:n"), en(name, "objectclass:organizationalunit", "ou:n", "sn:n"), en("cn=n"+up, "objectclass:person", "cn:n")},
		api.BadName:       {en(name, class, "ou:m"), en("o=n"+up, class, "ou:n"), en("dc=n"+up, class, "ou:n"), en("cn=n"+up, "objectclass:person", "cn:m", "sn:n")},
	}
}

// TestAddCheck: 9.1, each code that Check may say is told, and counts ahead of all others.
func TestAddCheck(t *testing.T) {
	full := many(t, api.MaxEntries)
	taken := treeOf(t, org("x"), unit("n", "o=x"), person("n", "o=x"), en("uid=n,o=x", "objectclass:person|posix", "cn:n", "sn:n", "uid:n", "uidnumber:1"))
	for up, l := range map[string][]api.Entry{"": nil, ",o=x": company(t), ",O=X": taken, ",o=none": company(t), ",o=1000": full, ",o=nowhere": full} {
		all := wrongs(up)
		if len(all) != 7 {
			t.Error("the test's own: codes", len(all))
		}
		for code, entries := range all {
			for i, e := range entries {
				if schema.Check(e) != code {
					t.Errorf("the test's own: Check of %d at %d %q", code, i, e)
				}
				if got := told(change.Add(l, e)); got != refused(code) {
					t.Errorf("9.1: Add of %d at %d below %q: %s", code, i, up, got)
				}
			}
		}
	}
}

// TestAdd: 9.1, what may come, below what is there, and below nothing.
func TestAdd(t *testing.T) {
	deep := []api.Entry{org("x")}
	name := "o=x"
	for range api.MaxRdns - 2 {
		deep = append(deep, unit("u", name))
		name = "ou=u," + name
	}
	marked := treeOf(t, en(`o=a\,b`, `o:a,b`, "objectclass:organization"), en(`o=A  B`, "o:a b", "objectclass:organization"))
	for i, c := range []struct {
		l       []api.Entry
		e, want api.Entry
	}{
		{nil, org("x"), org("x")},
		{[]api.Entry{}, org("X"), org("X")},
		{company(t), org("z"), org("z")},
		{company(t), unit("c", "o=y"), unit("c", "o=y")},
		{company(t), unit("B", "ou=b,o=x"), unit("B", "ou=b,o=x")},
		{company(t), person("Ann", "o=x"), person("Ann", "o=x")},
		{company(t), person("Cy", "OU=A,O=X"), person("Cy", "OU=A,O=X")},
		{company(t), person("Cy", `ou=\41,o=\58`), person("Cy", "ou=A,o=X")},
		{marked, unit("c", `o=a\,b`), unit("c", `o=a\,b`)},
		{marked, unit("c", `o=A\2Cb`), unit("c", `o=A\,b`)},
		{marked, unit("c", `o=a   B\20`), unit("c", `o=a   B\ `)},
		{treeOf(t, deep...), unit("u", name), unit("u", name)},
		// Not Norm of itself.
		{company(t), en(`Cn=\43y,o=x`, "SN:S|T", "objectClass:Person", "Cn:CY|x"), en("Cn=Cy,o=x", "cn:CY|x", "objectclass:Person", "sn:S|T")},
		{company(t), en("uid=7,ou=b,o=x", "uidNumber:-7", "USERPASSWORD:P|p", "uid:7", "sn:S", "objectclass:inetOrgPerson|posix", "mail:m@x", "cn:C", "description:z|a"), en("uid=7,ou=b,o=x", "cn:C", "description:z|a", "mail:m@x", "objectclass:inetOrgPerson|posix", "sn:S", "uid:7", "uidnumber:-7", "userpassword:P|p")},
		{company(t), en("cn=g,o=x", "objectclass:groupofnames", "member:cn=no one|o=x", "cn:G"), en("cn=g,o=x", "cn:G", "member:cn=no one|o=x", "objectclass:groupofnames")},
		{many(t, api.MaxEntries-1), org("z"), org("z")},
		{many(t, api.MaxEntries-1), unit("z", "o=1000"), unit("z", "o=1000")},
	} {
		was := text(c.l)
		d, code := change.Add(c.l, c.e)
		if got := told(d, code); got != added(c.want) {
			t.Errorf("9.1: Add %d: %s", i, got)
			continue
		}
		next := behind(t, c.l, d)
		if len(next) != len(c.l)+1 || text(c.l) != was {
			t.Errorf("9.1: Add %d: from %q to %q", i, keys(c.l), keys(next))
		}
		// Now it is there.
		if got := told(change.Add(next, c.e)); got != refused(api.EntryExists) {
			t.Errorf("9.1: Add %d again: %s", i, got)
		}
	}
}

// TestAddRefused: 9.1, EntryExists, NoObject and Unwilling, and which counts first.
func TestAddRefused(t *testing.T) {
	l, full := company(t), many(t, api.MaxEntries)
	for i, c := range []struct {
		l    []api.Entry
		e    api.Entry
		code int
	}{
		{l, org("x"), api.EntryExists}, {l, org("X"), api.EntryExists}, {l, en(`O=\58`, "o:x|more", "objectclass:organization"), api.EntryExists}, {l, person("ANN", "OU=A,o=X"), api.EntryExists}, {l, person("eve", "o=x"), api.EntryExists}, {l, en(`cn=\20Eve\20,o=x`, "cn:eve", "objectclass:person", "sn:other"), api.EntryExists}, {l, unit("IN", "ou=a,o=x"), api.EntryExists},
		{l, unit("a", "o=z"), api.NoObject}, {nil, unit("a", "o=x"), api.NoObject}, {l, person("Ann", "ou=c,o=x"), api.NoObject}, {l, person("Ann", "ou=a"), api.NoObject}, {l, person("Ann", "ou=a,o=y"), api.NoObject}, {l, unit("a", "cn=eve"), api.NoObject}, {l, person("Ann", "ou=in,ou=b,o=x"), api.NoObject}, {l, unit("c", `o=x\,o=x`), api.NoObject}, {l, unit("c", "ou=x"), api.NoObject},
		// Not the one above the one that is missing, be it there or not.
		{l, person("Ann", "ou=c,ou=a,o=x"), api.NoObject}, {l, person("Ann", "o=x,o=z"), api.NoObject},
		{full, org("1000"), api.EntryExists}, {full, org("1199"), api.EntryExists}, {full, unit("a", "o=no"), api.NoObject}, {full, unit("a", "o=1000"), api.Unwilling}, {full, org("1200"), api.Unwilling}, {full, org("a"), api.Unwilling},
	} {
		was := text(c.l)
		if got := told(change.Add(c.l, c.e)); got != refused(c.code) || text(c.l) != was {
			t.Errorf("9.1: Add %d: %s", i, got)
		}
	}
	// Each of the company, in its own letters and in others.
	for _, e := range l {
		upper := e
		upper.Dn = strings.ToUpper(e.Dn)
		for _, x := range []api.Entry{e, upper} {
			if got := told(change.Add(l, x)); got != refused(api.EntryExists) {
				t.Errorf("9.1: Add of %q again: %s", x.Dn, got)
			}
		}
		// Where it is not there, and nothing is below it, it may come.
		left := tree.Del(l, tree.Key(e))
		if tree.May(left) {
			if got := told(change.Add(left, upper)); got != added(entry.Norm(upper)) {
				t.Errorf("9.1: Add of %q that was gone: %s", upper.Dn, got)
			}
		}
	}
}

// noNames are texts that are no names, and the empty one.
var noNames = []string{"", " ", "x", "o", "o=", "=x", "o=x,", ",o=x", "o=x, cn=a", "o= x", "o=x ", `o=\20`, `cn=a,o=\20`, `o=\`, "o=\xff", "1=x", "o x=y", "o=" + strings.Repeat("x", api.MaxVal+1), strings.Repeat("o=x,", api.MaxRdns) + "o=x"}

// absent are names of nothing in the company.
var absent = []string{"o=z", "ou=a", "ou=a,o=y", "cn=Ann", "cn=Ann,o=x", "cn=Ann,ou=b,o=x", `o=x\,o=x`, "dc=x", "o=xx", "ou=c,ou=a,o=x", "cn=Eve,o=x,o=x", strings.Repeat("o=x,", api.MaxRdns-1) + "o=x"}

// TestDelete: 9.1, BadDn, NoObject, NotLeaf, and the Key of what goes.
func TestDelete(t *testing.T) {
	l := company(t)
	was := text(l)
	for name, want := range map[string]string{
		"o=x": "", "O=X": "", "ou=a,o=x": "", `OU=\41,O=X`: "", "ou=in,ou=a,o=x": "",
		"o=y": "o=y", "O=Y": "o=y", `o=\20y\20`: "o=y", "ou=b,o=x": "ou=b,o=x", "OU=B,O=X": "ou=b,o=x", "cn=Ann,ou=a,o=x": "cn=ann,ou=a,o=x", "CN=BOB,ou=a,o=x": "cn=bob,ou=a,o=x", "cn=dan,ou=In,ou=a,o=x": "cn=dan,ou=in,ou=a,o=x", `cn=\45ve,o=x`: "cn=eve,o=x",
	} {
		d, code := change.Delete(l, name)
		if want == "" {
			if got := told(d, code); got != refused(api.NotLeaf) {
				t.Errorf("9.1: Delete of %q: %s", name, got)
			}
			continue
		}
		if got := told(d, code); got != told(api.Delta{Gone: want}, api.Success) {
			t.Errorf("9.1: Delete of %q: %s", name, got)
			continue
		}
		next := behind(t, l, d)
		if len(next) != len(l)-1 || tree.Find(next, want) != -1 {
			t.Errorf("9.1: Delete of %q: %q", name, keys(next))
		}
		if got := told(change.Delete(next, name)); got != refused(api.NoObject) {
			t.Errorf("9.1: Delete of %q again: %s", name, got)
		}
	}
	for _, l := range [][]api.Entry{l, nil, {}} {
		for _, name := range noNames {
			if got := told(change.Delete(l, name)); got != refused(api.BadDn) {
				t.Errorf("9.1: Delete of %.40q: %s", name, got)
			}
		}
		for _, name := range absent {
			if got := told(change.Delete(l, name)); got != refused(api.NoObject) {
				t.Errorf("9.1: Delete of %.40q: %s", name, got)
			}
		}
	}
	if got := told(change.Delete(nil, "o=x")); got != refused(api.NoObject) || text(l) != was {
		t.Errorf("9.1: Delete from nothing: %s", got)
	}
}

// TestDeleteKids: 9.1, whose kids they are tell the names' parts, not their bytes.
func TestDeleteKids(t *testing.T) {
	l := treeOf(t, org("x"), en(`o=a\,o=x`, "o:a,o=x", "objectclass:organization"), org("z"), unit("o", "o=z"), unit("o=x", "o=z"))
	for name, code := range map[string]int{"o=x": api.Success, `o=a\,o=x`: api.Success, "o=z": api.NotLeaf, "ou=o,o=z": api.Success, `ou=o\=x,o=z`: api.Success} {
		d, got := change.Delete(l, name)
		if got != code {
			t.Errorf("9.1: Delete of %q: %d", name, got)
		}
		if got == api.Success {
			behind(t, l, d)
		}
	}
}

// TestDeleteAll: 9.1, 9.4, from the leaves up a tree goes to nothing.
func TestDeleteAll(t *testing.T) {
	l := company(t)
	for len(l) > 0 {
		leaves := 0
		for _, e := range slices.Clone(l) {
			d, code := change.Delete(l, e.Dn)
			if code != api.Success {
				if got := told(d, code); got != refused(api.NotLeaf) {
					t.Fatalf("9.1: Delete of %q: %s", e.Dn, got)
				}
				continue
			}
			l = behind(t, l, d)
			leaves++
		}
		if leaves == 0 {
			t.Fatal("9.1: no leaf in", keys(l))
		}
	}
}
