package delta_test

import (
	"fmt"
	"math"
	"strings"
	"testing"

	"brook/api"
	"brook/delta"
	"brook/tree"
)

// en makes an entry of texts: a type, `:`, and values with `|` between; without `:` it has none.
func en(name string, s ...string) api.Entry {
	e := api.Entry{Dn: name}
	for _, x := range s {
		typ, vals, some := strings.Cut(x, ":")
		a := api.Attr{Type: typ}
		if some {
			a.Vals = strings.Split(vals, "|")
		}
		e.Attrs = append(e.Attrs, a)
	}
	return e
}

func org(o string) api.Entry { return en("o="+o, "o:"+o, "objectclass:organization") }

func unit(ou, up string) api.Entry {
	return en("ou="+ou+","+up, "objectclass:organizationalunit", "ou:"+ou)
}

func person(cn, up string) api.Entry {
	return en("cn="+cn+","+up, "cn:"+cn, "objectclass:person", "sn:S")
}

// turn makes a delta of a number that may be.
func turn(gone string, e api.Entry) api.Delta {
	return api.Delta{Csn: api.Csn{Epoch: 2, N: 7}, Gone: gone, Entry: e}
}

func list(l ...api.Entry) []api.Entry { return l }

// text tells all of a list; nil lists and empty ones are one.
func text(l []api.Entry) string { return fmt.Sprintf("%q", l) }

func keys(l []api.Entry) string {
	var all []string
	for _, e := range l {
		all = append(all, tree.Key(e))
	}
	return strings.Join(all, " ")
}

// company is a tree of two that have none above them, units and people below one of them.
func company() []api.Entry {
	return list(
		person("Ann", "ou=a,o=x"),
		person("Bob", "ou=A,O=x"),
		person("Eve", "o=x"),
		org("x"),
		org("y"),
		unit("a", "o=x"),
		unit("b", "o=x"),
	)
}

// companyKeys are the keys of company, in their order.
const companyKeys = "cn=ann,ou=a,o=x cn=bob,ou=a,o=x cn=eve,o=x o=x o=y ou=a,o=x ou=b,o=x"

// TestCompany: the tests' own tree may be, and has these keys.
func TestCompany(t *testing.T) {
	if l := company(); !tree.May(l) || keys(l) != companyKeys {
		t.Fatal("the test's own", keys(l))
	}
}

// TestMayCsn: 13.1, the Csn may be, its N is above 0; whatever the delta says.
func TestMayCsn(t *testing.T) {
	edges := []int{math.MinInt, math.MinInt + 1, -api.MaxCsn - 1, -api.MaxCsn, -2, -1, 0, 1, 2, 99, 1 << 31, 1 << 32, api.MaxCsn - 1, api.MaxCsn, api.MaxCsn + 1, 2 * api.MaxCsn, 1 << 60, math.MaxInt - 1, math.MaxInt}
	for _, d := range []api.Delta{turn("o=x", api.Entry{}), turn("", org("x")), turn("o=x", org("y"))} {
		for _, epoch := range edges {
			for _, n := range edges {
				d.Csn = api.Csn{Epoch: epoch, N: n}
				want := 0 <= epoch && epoch <= 1<<52 && 1 <= n && n <= 1<<52
				if delta.May(d) != want {
					t.Errorf("13.1: May of %v", d)
				}
			}
		}
	}
	if delta.May(api.Delta{}) || delta.May(api.Delta{Csn: api.Csn{Epoch: 1, N: 1}}) {
		t.Error("13.1: May of none")
	}
}

// TestMayGone: 13.1, Gone is a name that is its own key; with an Entry beside it, too.
func TestMayGone(t *testing.T) {
	most := strings.Repeat("cn=ann,", api.MaxRdns-1) + "cn=ann"
	typ := strings.Repeat("t", api.MaxType)
	val := strings.Repeat("v", api.MaxVal)
	yes := []string{"o=x", "cn=ann lee,o=x", "dc=x", "a=b", "t-1=x", `o=\,`, `o=\#x`, `o=x#`, `o=x=y`, `o=\"\+\;\<\>\\`, `o=\00`, `o=\e9`, "o=x'", "cn=ann,ou=none,o=none", most, typ + "=x", "o=" + val, "o=1"}
	no := []string{" ", ",", "no name", "o", "o=", "=x", "o=x,", ",o=x", "o=x,,o=y", "O=x", "o=X", "o=x ", " o=x", "o= x", "o=a  b", `o=\ x`, `o=x\ `, "o=x, cn=a", "o=x;cn=a", `o=\20`, `o=\20,o=x`, `o=\78`, `o=\2c`, `o=\2C`, `o=\E9`, `o=\ax`, `o=\=`, `o=x\#`, `o=\a`, "o=\u00e9", "o=x\x00", "o=\xff", "1=x", "-=x", "o =x", most + ",o=x", typ + "t=x", "o=" + val + "v", "o=" + strings.Repeat("x", 1<<16), "o=x\n"}
	for i, l := range [][]string{yes, no} {
		for _, gone := range l {
			for _, e := range []api.Entry{{}, {Attrs: []api.Attr{}}, org("x"), unit("a", "o=none")} {
				if delta.May(turn(gone, e)) != (i == 0) {
					t.Errorf("13.1: May of one with a Gone %.60q, an Entry %q", gone, e)
				}
			}
		}
	}
	// The empty key is a name's own, too, but it says that nothing is gone.
	if delta.May(turn("", api.Entry{})) || !delta.May(turn("", org("x"))) {
		t.Error("13.1: May of one with an empty Gone")
	}
}

// TestMayEntry: 13.1, the Entry is its own norm, and Check says Success; with a Gone beside it, too.
func TestMayEntry(t *testing.T) {
	long := strings.Repeat("v", api.MaxVal+1)
	values := func(n int) string {
		s := "description:0"
		for i := 1; i < n; i++ {
			s += fmt.Sprint("|", i)
		}
		return s
	}
	yes := []api.Entry{
		org("x"), org("X"), org("a b"), unit("a", "o=x"), unit("a", "O=X"), unit("a", "o=none"), person("Ann", "o=x"), person("Ann", "cn=Ann"),
		en(`o=\,`, "o:,", "objectclass:organization"), en("O=x", "o:X|y", "objectclass:TOP|Organization"), en("o=x", "description:d|e", "o:x", "objectclass:organization"), en("o=x", values(api.MaxVals), "o:x", "objectclass:organization"),
		en("uid=u,o=x", "cn:u", "objectclass:posix|person", "sn:s", "uid:u", "uidnumber:7"),
	}
	no := []api.Entry{
		// No name, or nothing but one of both.
		{Attrs: org("x").Attrs}, en("", "o:x"), en("", ""), en("o=x"), en("no name"), en(" "), en("no name", "o:x", "objectclass:organization"), en("o=", "o:x", "objectclass:organization"), en("o=x, o=a", "o:x", "objectclass:organization"), en(`o=\20`, "o:x", "objectclass:organization"),
		// Not its own norm.
		en(`o=\78`, "o:x", "objectclass:organization"), en(`o=x\2C`, "o:x,", "objectclass:organization"), en("o=x", "O:x", "objectclass:organization"), en("o=x", "o:x", "objectClass:organization"), en("o=x", "objectclass:organization", "o:x"), en("o=x", "o:x", "objectclass:organization", "description:d"), en("o=x", "o:x", "description:d", "objectclass:organization"),
		// Check says something else than Success.
		en("o=x", "o:x"), en("o=x", "objectclass:organization"), en("o=x", "o:x", "objectclass"), en("o=x", "o", "objectclass:organization"), en("o=x", "o:x", "objectclass:top"), en("o=x", "o:x", "objectclass:none"), en("o=x", "o:y", "objectclass:organization"), en("o=x", "cn:c", "o:x", "objectclass:organization"), en("o=x", "o:x|X", "objectclass:organization"), en("o=x", "o:x", "o:y", "objectclass:organization"), en("o=x", "o:x|"+long, "objectclass:organization", "o:y"), en("o=x", "o:x| ", "objectclass:organization"), en("o=x", "dc:x", "o:x", "objectclass:organization"), en("ou=x", "o:x", "objectclass:organization"), en("o=x", values(api.MaxVals+1), "o:x", "objectclass:organization"), en("o=x,"+strings.Repeat("o=x,", api.MaxRdns-1)+"o=x", "o:x", "objectclass:organization"),
	}
	for i, l := range [][]api.Entry{yes, no} {
		for k, e := range l {
			for _, gone := range []string{"", "o=x", "ou=a,o=x", "cn=none"} {
				if delta.May(turn(gone, e)) != (i == 0) {
					t.Errorf("13.1: May of one with a Gone %q, Entry %d of %d: %q", gone, k, i, e)
				}
			}
		}
	}
}

// TestMayBoth: 13.1, Gone and Entry, each as it may be, as it may not be, and not there; of one key and of two.
func TestMayBoth(t *testing.T) {
	type part struct {
		gone string
		e    api.Entry
		may  bool
	}
	gones := []part{{gone: "", may: true}, {gone: "o=x", may: true}, {gone: "ou=a,o=x", may: true}, {gone: "O=x"}, {gone: "none"}}
	entries := []part{{may: true}, {e: api.Entry{Attrs: []api.Attr{}}, may: true}, {e: org("x"), may: true}, {e: org("X"), may: true}, {e: unit("a", "o=x"), may: true}, {e: en("o=x")}, {e: en("", "o:x")}, {e: en("o=x", "o:x", "objectClass:organization")}, {e: en("o=x", "o:y", "objectclass:organization")}}
	for _, g := range gones {
		for i, e := range entries {
			want := g.may && e.may && (g.gone != "" || i > 1)
			if delta.May(turn(g.gone, e.e)) != want {
				t.Errorf("13.1: May of a Gone %q, an Entry %q", g.gone, e.e)
			}
			for _, c := range []api.Csn{{}, {Epoch: 1}, {Epoch: -1, N: 1}, {N: -1}, {N: api.MaxCsn + 1}, {Epoch: api.MaxCsn + 1, N: 1}} {
				if delta.May(api.Delta{Csn: c, Gone: g.gone, Entry: e.e}) {
					t.Errorf("13.1: May of %v, a Gone %q, an Entry %q", c, g.gone, e.e)
				}
			}
		}
	}
}

// TestMayAbove: 13.1, what stands above is not asked.
func TestMayAbove(t *testing.T) {
	deep := strings.Repeat("ou=u,", api.MaxRdns-2) + "o=none"
	for _, d := range []api.Delta{turn("", unit("a", deep)), turn("ou=a,"+deep, api.Entry{}), turn("o=x", unit("a", "o=x")), turn("ou=a,o=x", unit("b", "ou=a,o=x")), turn("ou=a,o=x", unit("a", "ou=a,o=x"))} {
		if !delta.May(d) {
			t.Errorf("13.1: May of %+v", d)
		}
	}
}

// TestSame: 13.1, alike in all: of deltas that differ in one thing alone each is but itself.
func TestSame(t *testing.T) {
	made := func() []api.Delta {
		var l []api.Delta
		turned := func(do func(d *api.Delta)) {
			d := turn("o=x", en("cn=Ann,o=y", "cn:Ann|B", "objectclass:person", "sn:S"))
			do(&d)
			l = append(l, d)
		}
		turned(func(*api.Delta) {})
		turned(func(d *api.Delta) { d.Csn.Epoch = 3 })
		turned(func(d *api.Delta) { d.Csn.Epoch = 0 })
		turned(func(d *api.Delta) { d.Csn.N = 8 })
		turned(func(d *api.Delta) { d.Csn.N = -7 })
		turned(func(d *api.Delta) { d.Csn = api.Csn{Epoch: 7, N: 2} })
		turned(func(d *api.Delta) { d.Csn = api.Csn{} })
		turned(func(d *api.Delta) { d.Gone = "" })
		turned(func(d *api.Delta) { d.Gone = "O=x" })
		turned(func(d *api.Delta) { d.Gone = "o=x " })
		turned(func(d *api.Delta) { d.Gone = "none" })
		turned(func(d *api.Delta) { d.Entry = api.Entry{} })
		turned(func(d *api.Delta) { d.Entry.Dn = "" })
		turned(func(d *api.Delta) { d.Entry.Dn = "cn=ann,o=y" })
		turned(func(d *api.Delta) { d.Entry.Dn = "Cn=Ann,o=y" })
		turned(func(d *api.Delta) { d.Gone, d.Entry.Dn = d.Entry.Dn, d.Gone })
		turned(func(d *api.Delta) { d.Entry.Attrs = nil })
		turned(func(d *api.Delta) { d.Entry.Attrs = d.Entry.Attrs[:2] })
		turned(func(d *api.Delta) { d.Entry.Attrs = d.Entry.Attrs[1:] })
		turned(func(d *api.Delta) { d.Entry.Attrs = append(d.Entry.Attrs, api.Attr{}) })
		turned(func(d *api.Delta) { d.Entry.Attrs = append(d.Entry.Attrs, d.Entry.Attrs[2]) })
		turned(func(d *api.Delta) { l := d.Entry.Attrs; l[0], l[1] = l[1], l[0] })
		turned(func(d *api.Delta) { d.Entry.Attrs[0].Type = "CN" })
		turned(func(d *api.Delta) { d.Entry.Attrs[2].Type = "" })
		turned(func(d *api.Delta) { d.Entry.Attrs[0].Vals = nil })
		turned(func(d *api.Delta) { d.Entry.Attrs[0].Vals = d.Entry.Attrs[0].Vals[:1] })
		turned(func(d *api.Delta) { d.Entry.Attrs[0].Vals = append(d.Entry.Attrs[0].Vals, "") })
		turned(func(d *api.Delta) { d.Entry.Attrs[0].Vals[1] = "b" })
		turned(func(d *api.Delta) { l := d.Entry.Attrs[0].Vals; l[0], l[1] = l[1], l[0] })
		turned(func(d *api.Delta) { d.Entry.Attrs[2].Vals[0] = "S " })
		return append(l, api.Delta{}, turn("", api.Entry{}), turn("o=x", api.Entry{Dn: "o=x"}))
	}
	for i, a := range made() {
		for j, b := range made() {
			if delta.Same(a, b) != (i == j) {
				t.Errorf("13.1: Same of %+v, %+v", a, b)
			}
		}
	}
}

// TestSameEmpty: 13.1, R3, a nil list and an empty one are one.
func TestSameEmpty(t *testing.T) {
	for _, l := range [][]api.Delta{
		{turn("o=x", api.Entry{}), turn("o=x", api.Entry{Attrs: []api.Attr{}}), turn("o=x", api.Entry{Attrs: org("x").Attrs[:0]})},
		{turn("", en("o=x", "o")), turn("", api.Entry{Dn: "o=x", Attrs: []api.Attr{{Type: "o", Vals: []string{}}}}), turn("", api.Entry{Dn: "o=x", Attrs: []api.Attr{{Type: "o", Vals: []string{"x"}[:0]}}})},
	} {
		for _, a := range l {
			for _, b := range l {
				if !delta.Same(a, b) {
					t.Errorf("13.1: Same of %#v, %#v", a, b)
				}
			}
		}
	}
	none, empty := turn("", en("o=x", "o")), turn("", en("o=x", "o:"))
	if delta.Same(none, empty) || delta.Same(none, turn("", en("o=x"))) {
		t.Error("13.1: Same of no value and an empty one, of no values and no attribute")
	}
}
