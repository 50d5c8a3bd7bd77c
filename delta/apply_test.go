package delta_test

import (
	"slices"
	"strings"
	"testing"

	"brook/api"
	"brook/delta"
	"brook/tree"
)

// without is the company without those of some keys, and with others in the places that their keys say.
func without(gone string, there ...api.Entry) []api.Entry {
	l := slices.DeleteFunc(company(), func(e api.Entry) bool {
		return slices.Contains(strings.Fields(gone), tree.Key(e))
	})
	l = append(l, there...)
	slices.SortFunc(l, func(a, b api.Entry) int { return strings.Compare(tree.Key(a), tree.Key(b)) })
	return l
}

// described is an organization with a description.
func described(o, d string) api.Entry {
	return en("o="+o, "description:"+d, "o:"+o, "objectclass:organization")
}

// change is a delta, and what the company is behind it.
type change struct {
	d    api.Delta
	want []api.Entry
}

// changes are such of each kind.
func changes() []change {
	return []change{
		// A Gone alone: there, not there, first, last, with kids.
		{turn("ou=b,o=x", api.Entry{}), without("ou=b,o=x")},
		{turn("ou=b,o=x", api.Entry{Attrs: []api.Attr{}}), without("ou=b,o=x")},
		{turn("cn=ann,ou=a,o=x", api.Entry{}), without("cn=ann,ou=a,o=x")},
		{turn("o=y", api.Entry{}), without("o=y")},
		{turn("o=x", api.Entry{}), without("o=x")},
		{turn("ou=a,o=x", api.Entry{}), without("ou=a,o=x")},
		{turn("o=z", api.Entry{}), company()},
		{turn("ou=a", api.Entry{}), company()},
		{turn("cn=ann", api.Entry{}), company()},
		{turn("cn=ann,ou=a,o=y", api.Entry{}), company()},
		// An Entry alone: there, of another text, not there, what is above it not there.
		{turn("", org("y")), company()},
		{turn("", described("y", "d")), without("o=y", described("y", "d"))},
		{turn("", org("Y")), without("o=y", org("Y"))},
		{turn("", unit("A", "O=X")), without("ou=a,o=x", unit("A", "O=X"))},
		{turn("", org("a")), without("", org("a"))},
		{turn("", org("z")), without("", org("z"))},
		{turn("", unit("z", "o=x")), without("", unit("z", "o=x"))},
		{turn("", person("A", "o=y")), without("", person("A", "o=y"))},
		{turn("", person("A", "o=none")), without("", person("A", "o=none"))},
		{turn("", unit("u", "ou=v,ou=w")), without("", unit("u", "ou=v,ou=w"))},
		// Both, of one key.
		{turn("o=y", org("y")), company()},
		{turn("o=y", described("Y", "d")), without("o=y", described("Y", "d"))},
		{turn("o=z", org("Z")), without("", org("Z"))},
		{turn("ou=a,o=x", unit("A", "o=X")), without("ou=a,o=x", unit("A", "o=X"))},
		// Both, of two keys: each there, or not.
		{turn("o=y", org("z")), without("o=y", org("z"))},
		{turn("o=y", org("X")), without("o=y o=x", org("X"))},
		{turn("o=w", org("z")), without("", org("z"))},
		{turn("o=w", org("X")), without("o=x", org("X"))},
		{turn("ou=b,o=x", unit("b", "o=y")), without("ou=b,o=x", unit("b", "o=y"))},
		{turn("cn=ann,ou=a,o=x", person("Ann", "ou=b,o=x")), without("cn=ann,ou=a,o=x", person("Ann", "ou=b,o=x"))},
		{turn("o=x", unit("c", "o=x")), without("o=x", unit("c", "o=x"))},
		{turn("o=x", org("x2")), without("o=x", org("x2"))},
	}
}

// TestApply: 13.1, Del of Gone, if it is not empty; then Put of Entry, if it is not zero.
func TestApply(t *testing.T) {
	for i, c := range changes() {
		if !delta.May(c.d) {
			t.Errorf("the test's own, change %d", i)
		}
		if got := delta.Apply(company(), c.d); text(got) != text(c.want) {
			t.Errorf("13.1: Apply %d: %s, not %s", i, keys(got), keys(c.want))
		}
		if got := delta.Fold(company(), c.d); text(got) != text(c.want) {
			t.Errorf("13.1: Fold of one, %d: %s, not %s", i, keys(got), keys(c.want))
		}
	}
}

// TestApplyNumber: 13.1, what is told does not hang on the Csn.
func TestApplyNumber(t *testing.T) {
	for i, c := range changes() {
		for _, n := range []api.Csn{{N: 1}, {Epoch: 9, N: 1}, {Epoch: api.MaxCsn, N: api.MaxCsn}, {}} {
			c.d.Csn = n
			if got := delta.Apply(company(), c.d); text(got) != text(c.want) {
				t.Errorf("13.1: Apply %d of %v: %s", i, n, keys(got))
			}
		}
	}
}

// TestApplyEmpty: 13.1, to an empty tree.
func TestApplyEmpty(t *testing.T) {
	for _, l := range [][]api.Entry{nil, {}, company()[:0]} {
		for i, c := range changes() {
			want := 1
			if c.d.Entry.Dn == "" {
				want = 0
			}
			got := delta.Apply(l, c.d)
			if len(got) != want || want == 1 && text(got) != text(list(c.d.Entry)) {
				t.Errorf("13.1: Apply %d to an empty tree: %s", i, keys(got))
			}
		}
		if len(delta.Apply(l, api.Delta{})) != 0 || len(delta.Fold(l)) != 0 {
			t.Error("13.1: of an empty tree and no change")
		}
	}
}

// TestApplyAbove: 13.1, the tree may be but for what stands above what.
func TestApplyAbove(t *testing.T) {
	l := list(person("Ann", "ou=a,o=x"), unit("in", "ou=out,o=x"))
	for i, c := range []change{
		{turn("", org("x")), list(l[0], org("x"), l[1])},
		{turn("ou=out,o=x", api.Entry{}), l},
		{turn("ou=in,ou=out,o=x", unit("a", "o=x")), list(l[0], unit("a", "o=x"))},
		{turn("cn=ann,ou=a,o=x", api.Entry{}), list(l[1])},
	} {
		if got := delta.Apply(l, c.d); text(got) != text(c.want) {
			t.Errorf("13.1: Apply %d: %s", i, keys(got))
		}
	}
}

// TestApplyNone: 13.1, of a delta that says nothing, or whose Gone is no entry's key, the tree is told.
func TestApplyNone(t *testing.T) {
	for _, l := range [][]api.Entry{company(), company()[:1], company()[6:]} {
		for _, gone := range []string{"", "none", "O=Y", "o=y ", " o=y", "o=y,", ",", " ", "\xff", `o=\79`, "ou=a, o=x", strings.Repeat("o=y,", 9) + "o=y"} {
			for _, e := range []api.Entry{{}, {Attrs: []api.Attr{}}} {
				if got := delta.Apply(l, api.Delta{Gone: gone, Entry: e}); text(got) != text(l) {
					t.Errorf("13.1: Apply of a Gone %.40q: %s", gone, keys(got))
				}
			}
		}
	}
}

// TestFold: 13.1, Apply of each, one behind the other: of one entry the last one counts.
func TestFold(t *testing.T) {
	if got := delta.Fold(company()); text(got) != text(company()) {
		t.Error("13, examples: Fold of none:", keys(got))
	}
	if got := delta.Fold(company(), []api.Delta{}...); text(got) != text(company()) {
		t.Error("13, examples: Fold of none:", keys(got))
	}
	out := func(key string) api.Delta { return turn(key, api.Entry{}) }
	in := func(e api.Entry) api.Delta { return turn("", e) }
	for i, c := range []struct {
		d    []api.Delta
		want []api.Entry
	}{
		{[]api.Delta{in(org("z")), in(org("w"))}, without("", org("w"), org("z"))},
		{[]api.Delta{in(org("w")), in(org("z"))}, without("", org("w"), org("z"))},
		{[]api.Delta{in(org("Z")), in(org("z"))}, without("", org("z"))},
		{[]api.Delta{in(org("z")), in(org("Z"))}, without("", org("Z"))},
		{[]api.Delta{in(described("y", "1")), in(described("y", "2"))}, without("o=y", described("y", "2"))},
		{[]api.Delta{in(described("y", "2")), in(described("y", "1"))}, without("o=y", described("y", "1"))},
		{[]api.Delta{in(org("z")), out("o=z")}, company()},
		{[]api.Delta{out("o=z"), in(org("z"))}, without("", org("z"))},
		{[]api.Delta{out("o=y"), in(org("Y"))}, without("o=y", org("Y"))},
		{[]api.Delta{in(org("Y")), out("o=y")}, without("o=y")},
		{[]api.Delta{out("o=y"), out("ou=b,o=x")}, without("o=y ou=b,o=x")},
		{[]api.Delta{out("ou=b,o=x"), out("o=y")}, without("o=y ou=b,o=x")},
		{[]api.Delta{out("o=y"), out("o=y")}, without("o=y")},
		{[]api.Delta{turn("o=y", org("z")), turn("o=z", org("w"))}, without("o=y", org("w"))},
		{[]api.Delta{turn("o=z", org("w")), turn("o=y", org("z"))}, without("o=y", org("w"), org("z"))},
		{[]api.Delta{turn("o=y", org("z")), turn("o=z", org("y"))}, company()},
		{[]api.Delta{turn("o=x", org("z")), in(unit("c", "o=z")), turn("o=y", org("x")), out("ou=c,o=z")}, without("o=x o=y", org("x"), org("z"))},
		{[]api.Delta{out("none"), in(org("z")), {}, out("")}, without("", org("z"))},
	} {
		got := delta.Fold(company(), c.d...)
		if text(got) != text(c.want) {
			t.Errorf("13.1: Fold %d: %s, not %s", i, keys(got), keys(c.want))
		}
		each := company()
		for _, d := range c.d {
			each = delta.Apply(each, d)
		}
		if text(got) != text(each) {
			t.Errorf("13.1: Fold %d: %s, of each %s", i, keys(got), keys(each))
		}
	}
}

// TestFoldAll: 13.1, many of them: all of the company comes, and goes.
func TestFoldAll(t *testing.T) {
	var come, leave []api.Delta
	for i, e := range company() {
		come = append(come, api.Delta{Csn: api.Csn{N: i + 1}, Entry: e})
		leave = append(leave, api.Delta{Csn: api.Csn{N: i + 8}, Gone: tree.Key(e)})
	}
	for range 3 {
		if got := delta.Fold(nil, come...); text(got) != text(company()) {
			t.Error("13.1: Fold of those that come:", keys(got))
		}
		if got := delta.Fold(company(), leave...); len(got) != 0 {
			t.Error("13.1: Fold of those that go:", keys(got))
		}
		if got := delta.Fold(nil, slices.Concat(come, leave, come)...); text(got) != text(company()) {
			t.Error("13.1: Fold of all:", keys(got))
		}
		slices.Reverse(come)
		slices.Reverse(leave)
	}
	for i := range come {
		if got := delta.Fold(nil, come[:i]...); len(got) != i {
			t.Error("13.1: Fold of the first ones:", i, keys(got))
		}
		if got := delta.Fold(company(), leave[i:]...); len(got) != i {
			t.Error("13.1: Fold of the last ones:", i, keys(got))
		}
	}
}

// TestTwice: 13.2, applied twice a delta is applied.
func TestTwice(t *testing.T) {
	trees := [][]api.Entry{nil, company(), company()[2:], list(org("z")), list(unit("b", "o=none"))}
	for _, l := range trees {
		for i, c := range changes() {
			once := delta.Apply(l, c.d)
			if got := delta.Apply(once, c.d); !tree.Same(got, once) || text(got) != text(once) {
				t.Errorf("13.2: change %d: %s, then %s", i, keys(once), keys(got))
			}
			if got := delta.Fold(l, c.d, c.d); text(got) != text(once) {
				t.Errorf("13.2: change %d, folded: %s, then %s", i, keys(once), keys(got))
			}
			if got := delta.Fold(l, slices.Repeat([]api.Delta{c.d}, 9)...); text(got) != text(once) {
				t.Errorf("13.2: change %d, again and again: %s, then %s", i, keys(once), keys(got))
			}
		}
	}
}
