package tree_test

import (
	"fmt"
	"slices"
	"strings"
	"testing"

	"brook/api"
	"brook/dn"
	"brook/tree"
)

// many makes n entries that have none above them, whose keys rise.
func many(n int) []api.Entry {
	var l []api.Entry
	for i := range n {
		l = append(l, org(fmt.Sprint(1000000+i)))
	}
	return l
}

// TestMay: 8.1, trees that may be.
func TestMay(t *testing.T) {
	for i, l := range [][]api.Entry{
		nil, {}, make([]api.Entry, 0, 9),
		list(org("x")), list(org("X")), list(org("a"), org("B"), org("c")), list(org("x"), unit("a", "o=x")), list(org("x"), unit("a", "O=X")), list(org("x  Y"), unit("a", "o=X y")),
		list(org("a b"), org("a.b"), org("ab")), list(en(`o=\,`, "o:,", "objectclass:organization"), org("x"), unit("a", `o=\,`)),
		list(en("o=x", "description:d", "o:x", "objectclass:top|organization")), list(en("o=x", "o:y|X", "objectclass:Organization")),
		company(), company()[:0], tree.Del(company(), "ou=b,o=x"), many(1), many(api.MaxEntries - 1), many(api.MaxEntries),
	} {
		if !tree.May(l) {
			t.Errorf("8.1: May %d: %s", i, keys(l))
		}
	}
}

// TestMayNot: 8.1, each thing for which a list may not be, alone, with others ahead of it, and behind it.
func TestMayNot(t *testing.T) {
	long := strings.Repeat("v", api.MaxVal+1)
	// Each stands by its key ahead of, between or behind a and z, where nothing else is wrong.
	for i, e := range []api.Entry{
		{}, en("", "o:x", "objectclass:organization"), en("no name", "o:x", "objectclass:organization"), en("o=", "o:x", "objectclass:organization"), en("o=x, o=a", "o:x", "objectclass:organization"), en(`o=\20`, "o:x", "objectclass:organization"),
		// Not its own norm.
		en(`o=\78`, "o:x", "objectclass:organization"), en(`o=x\2C`, "o:x,", "objectclass:organization"), en("o=x", "O:x", "objectclass:organization"), en("o=x", "o:x", "objectClass:organization"), en("o=x", "objectclass:organization", "o:x"), en("o=x", "o:x", "objectclass:organization", "description:d"), en("o=x", "o:x", "description:d", "objectclass:organization"),
		// Check says something else than Success.
		en("o=x"), en("o=x", "o:x"), en("o=x", "objectclass:organization"), en("o=x", "o:x", "objectclass"), en("o=x", "o", "objectclass:organization"), en("o=x", "o:x", "objectclass:top"), en("o=x", "o:x", "objectclass:none"), en("o=x", "o:y", "objectclass:organization"), en("o=x", "cn:c", "o:x", "objectclass:organization"), en("o=x", "o:x|X", "objectclass:organization"), en("o=x", "o:x", "o:y", "objectclass:organization"), en("o=x", "o:x|"+long, "objectclass:organization"), en("o=x", "o:x| ", "objectclass:organization"), en("o=x", "dc:x", "o:x", "objectclass:organization"), en("ou=x", "o:x", "objectclass:organization"), en("dc=x", "o:x", "objectclass:organization"),
		// What stands above is not there.
		unit("x", "o=x"), unit("x", "o=aa"), unit("x", "ou=x,o=a"), unit("x", "ou=x"), unit("x", "ou=x,o=z"), person("x", "cn=x"), en("o=x,o=x", "o:x", "objectclass:organization"),
	} {
		for _, l := range [][]api.Entry{list(e), list(org("a"), e), list(e, org("a")), list(org("a"), e, org("z")), list(e, org("a"), org("z")), list(org("a"), org("z"), e)} {
			if tree.May(l) {
				t.Errorf("8.1: May %d: %s", i, text(l))
			}
		}
	}
	if tree.May(many(api.MaxEntries+1)) || tree.May(many(1<<15)) || tree.May(make([]api.Entry, 1<<20)) {
		t.Error("8.1: May of very many")
	}
}

// TestMayOrder: 8.1, keys that do not rise, or stand twice, whatever the letters of the names.
func TestMayOrder(t *testing.T) {
	for i, l := range [][]api.Entry{
		list(org("b"), org("a")), list(org("b"), org("A")), list(org("a"), org("a")), list(org("a"), org("A")), list(org("A"), org("a")), list(org("a  b"), org("a b")), list(org("a"), org("c"), org("b")), list(org("b"), org("a"), org("c")), list(org("a"), org("b"), org("b")), list(org("a"), org("a"), org("b")), list(org("a"), org("b"), org("a")),
		// By bytes of the keys, not by parts, nor what stands above ahead.
		list(org("x"), person("Ann", "o=x")), list(org("ab"), org("a b")), list(org("10"), org("9"), org("100")),
	} {
		if tree.May(l) {
			t.Errorf("8.1: May %d: %s", i, keys(l))
		}
	}
	for _, places := range orders(4) {
		var l []api.Entry
		for _, i := range places {
			l = append(l, list(person("p", "o=x"), org("x"), org("y"), unit("a", "o=y"))[i])
		}
		if tree.May(l) != slices.IsSorted(places) {
			t.Errorf("8.1: May in another order: %s", keys(l))
		}
	}
	l := company()
	for i := range l {
		for j := range i {
			turned := company()
			turned[i], turned[j] = turned[j], turned[i]
			twice := company()
			twice[i] = twice[j]
			if tree.May(turned) || tree.May(twice) || tree.May(slices.Insert(company(), i, l[j])) {
				t.Error("8.1: May of turned ones", i, j)
			}
		}
		if tree.May(slices.Insert(company(), i, l[i])) {
			t.Error("8.1: May of one that stands twice", i)
		}
	}
}

// orders makes all orders of the numbers from 0 to n-1.
func orders(n int) [][]int {
	if n == 0 {
		return [][]int{nil}
	}
	var all [][]int
	for _, l := range orders(n - 1) {
		for at := range n {
			all = append(all, slices.Insert(slices.Clone(l), at, n-1))
		}
	}
	return all
}

// TestMayDeep: 8.1, what stands above what, for each of as many parts as there may be: with one of them missing nothing stands.
func TestMayDeep(t *testing.T) {
	var l []api.Entry
	name := "o=x"
	l = append(l, org("x"))
	for i := range api.MaxRdns - 1 {
		ou := fmt.Sprint("U", 9-i)
		l = tree.Put(l, unit(ou, name))
		name = "ou=" + ou + "," + name
	}
	if len(l) != api.MaxRdns || !tree.May(l) {
		t.Fatal("8.1: of many parts", keys(l))
	}
	for _, e := range l {
		key := tree.Key(e)
		left := tree.Del(l, key)
		if tree.May(left) != (key == dn.Fold(name)) {
			t.Error("8.2: without", key)
		}
		// One of another name in its place is not it.
		if other := tree.Put(left, org("w")); tree.May(other) != (key == dn.Fold(name)) {
			t.Error("8.2: with another one in the place of", key)
		}
	}
}

// TestKidsNeed: 8.2, a tree without an entry that has kids may not be; without one that has none it may.
func TestKidsNeed(t *testing.T) {
	d := dice(82)
	trees := [][]api.Entry{company(), list(org("x")), list(org("x"), unit("a", "o=x"))}
	for range 100 {
		trees = append(trees, d.tree())
	}
	with, without := 0, 0
	for _, l := range trees {
		for _, e := range l {
			key := tree.Key(e)
			kids := len(tree.Kids(l, key))
			if tree.May(tree.Del(l, key)) != (kids == 0) {
				t.Errorf("8.2: of %q without %q, of %d kids", keys(l), key, kids)
			}
			if kids == 0 {
				without++
			} else {
				with++
			}
		}
	}
	if with < 100 || without < 100 {
		t.Error("the test's own: too few", with, without)
	}
}
