package entry_test

import (
	"fmt"
	"slices"
	"strings"
	"testing"

	"brook/api"
	"brook/entry"
	"brook/match"
)

// en makes an entry of texts: a type, `:`, and values with `|` between; without `:` it has none.
func en(name string, s ...string) api.Entry {
	e := api.Entry{Dn: name}
	for _, x := range s {
		typ, vals, some := strings.Cut(x, ":")
		a := api.Attr{Type: typ}
		if some {
			a.Vals = strings.Split(vals, "|")
		}
		e.Attrs = append(e.Attrs, a)
	}
	return e
}

// parts parts a text of attributes; of the empty one there are none.
func parts(s string) []string {
	if s == "" {
		return nil
	}
	return strings.Split(s, "; ")
}

// text tells all of an entry; nil lists and empty ones are one.
func text(e api.Entry) string { return fmt.Sprintf("%q", e) }

func small(s string) string {
	return strings.Map(func(r rune) rune {
		if r >= 'A' && r <= 'Z' {
			r += 'a' - 'A'
		}
		return r
	}, s)
}

// dice is a small generator: the same numbers in each run.
type dice uint32

func (d *dice) below(n int) int {
	*d = *d*1664525 + 1013904223
	return int(*d>>8) % n
}

func (d *dice) of(l ...string) string { return l[d.below(len(l))] }

func (d *dice) typ() string {
	return d.of("cn", "CN", "Cn", "sn", "SN", "o", "ou", "uidNumber", "uidnumber", "Member", "userPassword", "dc", "DC", "Zz", "", "c", "cnn")
}

func (d *dice) vals() []string {
	var l []string
	for range d.below(4) {
		l = append(l, d.of("", "a", "A", " a", "b  c", "B C", "7", "07", "o=x", "O=X", "\x00", "é"))
	}
	return l
}

func (d *dice) entry() api.Entry {
	e := api.Entry{Dn: d.of("", "cn=a", `CN=\41`, `o=\2c,OU=\ x`, "no name", `cn=\20`, `cn=\41,`)}
	for range d.below(7) {
		e.Attrs = append(e.Attrs, api.Attr{Type: d.typ(), Vals: d.vals()})
	}
	return e
}

// TestVals: 5.1, the values of the first attribute of a type, in letters of whatever case.
func TestVals(t *testing.T) {
	e := en("cn=a", "cn:Ann|b", "SN:x", "sn:y|z", "Mail", "mail:m", "dc:q||q", "uidnumber:07|7", "DC:r", "O:", "[:1", "{:2", "a@:3", "a`:4", "k:5", "s t:6", "É:7", "\x00:8", "u\u0130d:9")
	was := text(e)
	for typ, want := range map[string]string{
		"cn": "Ann|b", "CN": "Ann|b", "cN": "Ann|b", "sn": "x", "SN": "x", "Sn": "x", "dc": "q||q", "DC": "q||q", "dC": "q||q", "uidNumber": "07|7", "UIDNUMBER": "07|7", "o": "", "O": "",
		// Others than letters A to Z are as they are.
		"[": "1", "{": "2", "a@": "3", "A@": "3", "a`": "4", "A`": "4", "k": "5", "K": "5", "s t": "6", "S T": "6", "É": "7", "\x00": "8", "u\u0130d": "9", "U\u0130D": "9",
	} {
		if l := entry.Vals(e, typ); !slices.Equal(l, strings.Split(want, "|")) {
			t.Errorf("5.1: Vals of %q: %q", typ, l)
		}
	}
	for _, typ := range []string{
		// The first of them has none.
		"mail", "MAIL", "Mail",
		// There is none.
		"", "ou", "c", "cnn", "cn ", " cn", "c n", "person", "member", "*", "\u212a", "\u017f t", "é", "\x20", "uid", "u\u0131d", "i", "@", "`", "cn\x00", "Ann", "cn=a", strings.Repeat("cn", 1<<20),
	} {
		if l := entry.Vals(e, typ); len(l) != 0 {
			t.Errorf("5.1: Vals of %.60q: %q", typ, l)
		}
	}
	if text(e) != was {
		t.Error("R3: what was handed in:", text(e))
	}
	if len(entry.Vals(api.Entry{}, "")) != 0 || len(entry.Vals(api.Entry{}, "cn")) != 0 || len(entry.Vals(en("cn=a", "cn"), "cn")) != 0 {
		t.Error("5.1: Vals of none")
	}
	if l := entry.Vals(en("", ":a", ":b"), ""); !slices.Equal(l, []string{"a"}) {
		t.Error("5.1: Vals of the empty type", l)
	}
}

// TestValsEach: 5.1, of all bytes only A to Z and a to z are like another one.
func TestValsEach(t *testing.T) {
	for a := range 256 {
		for b := range 256 {
			x, y := string([]byte{byte(a)}), string([]byte{byte(b)})
			alike := a == b || a^b == 0x20 && (a >= 'A' && a <= 'Z' || a >= 'a' && a <= 'z')
			e := api.Entry{Attrs: []api.Attr{{Type: "t" + x + "t", Vals: []string{"v"}}}}
			if l := entry.Vals(e, "T"+y+"T"); (len(l) == 1) != alike {
				t.Errorf("5.1: Vals of %q in %q: %q", y, x, l)
			}
			if s := entry.Set(e, "t"+y+"t"); (len(s.Attrs) == 0) != alike {
				t.Errorf("5.1: Set of %q in %q: %s", y, x, text(s))
			}
		}
	}
}

// TestHas: 5.1, values that are alike by their type's rule.
func TestHas(t *testing.T) {
	x := strings.Repeat("x", api.MaxVal)
	e := en("cn=a", "CN:Ann  Lee||"+x+"|b", "sn:x", "SN:y", "dc:q", "uidNumber:07|7|-5", "member:cn=a,O=X|none|", `userpassword:Pw| `, "mail", "Mail:m", "o:|  |"+x+"x", "DESCRIPTION:é|\x00")
	was := text(e)
	for _, c := range []struct {
		typ, val string
		want     bool
	}{
		{"cn", "Ann Lee", true}, {"CN", " ANN   LEE ", true}, {"cN", "ann lee", true}, {"cn", "b", true}, {"cn", "B ", true}, {"cn", x, true}, {"cn", strings.ToUpper(x), true}, {"description", "é", true}, {"description", "\x00 ", true},
		{"cn", "AnnLee", false}, {"cn", "Ann", false}, {"cn", "", false}, {"cn", " ", false}, {"cn", x + "x", false}, {"cn", x[1:], false}, {"cn", "ann\tlee", false}, {"cn", "x", false}, {"description", "É", false}, {"cn ", "b", false}, {"", "b", false},
		// Only the first attribute of a type counts.
		{"sn", "X", true}, {"SN", "x", true}, {"sn", "y", false}, {"SN", "y", false}, {"mail", "m", false},
		{"dc", "q", false}, {"DC", "q", false}, {"dc", "", false}, {"ou", "x", false}, {"ou", "", false}, {"uid", "x", false},
		{"uidnumber", "7", true}, {"UIDNUMBER", "-5", true}, {"uidnumber", "07", false}, {"uidnumber", " 7", false}, {"uidnumber", "5", false}, {"uidnumber", "", false},
		{"member", "CN=A,o=x", true}, {"Member", `cn=\41,o=\ X`, true}, {"member", "cn=a", false}, {"member", "none", false}, {"member", "", false}, {"member", "cn=a, O=X", false},
		{"userPassword", "Pw", true}, {"userpassword", " ", true}, {"userpassword", "pw", false}, {"userpassword", "Pw ", false}, {"userpassword", "", false},
		// Values without a Norm are like nothing.
		{"o", "", false}, {"o", " ", false}, {"o", "  ", false}, {"o", x + "x", false},
	} {
		if entry.Has(e, c.typ, c.val) != c.want {
			t.Errorf("5.1: Has of %s, %.30q: %v", c.typ, c.val, !c.want)
		}
		if entry.Has(api.Entry{}, c.typ, c.val) {
			t.Errorf("5.1: nothing has %s, %.30q", c.typ, c.val)
		}
	}
	if text(e) != was {
		t.Error("R3: what was handed in:", text(e))
	}
}

// TestSet: 5.1, a type that is there once, several times, not at all; to some values and to none.
func TestSet(t *testing.T) {
	for i, c := range []struct{ in, typ, vals, want string }{
		// Once.
		{"cn:1", "cn", "z", "cn:z"}, {"CN:1", "cn", "z", "cn:z"}, {"cn:1", "CN", "z", "cn:z"}, {"cn:1; dc:2; sn:3", "cn", "z", "cn:z; dc:2; sn:3"}, {"cn:1; dc:2; sn:3", "SN", "z", "cn:1; dc:2; sn:z"}, {"cn:1; mail:2; sn:3", "Mail", "a|b", "cn:1; mail:a|b; sn:3"},
		{"cn:1", "cn", "-", ""}, {"CN:1; dc:2", "cn", "-", "dc:2"}, {"cn:1; DC:2; sn:3", "dc", "-", "cn:1; sn:3"}, {"cn:1; dc:2; sn", "SN", "-", "cn:1; dc:2"}, {"cn", "cn", "z", "cn:z"}, {"cn", "cn", "-", ""},
		// Several times.
		{"cn:1; dc:2; CN:3; cn; Cn:5", "cN", "z", "cn:z; dc:2"}, {"cn:1; dc:2; SN:3; sn:4", "Sn", "1", "cn:1; dc:2; sn:1"}, {"sn:1; SN:2; sn:1", "sn", "-", ""}, {"sn:1; cn:2; SN:3", "sn", "-", "cn:2"}, {"DC:1; dc:2; dC:3", "Dc", "z", "Dc:z"}, {"DC:1; cn:9; dc:2; dC:3", "dc", "-", "cn:9"}, {"DC:1; cn:9; dc:2", "dc", "z", "cn:9; dc:z"},
		// Not at all.
		{"", "cn", "z", "cn:z"}, {"", "CN", "z", "cn:z"}, {"", "DC", "z", "DC:z"}, {"", "cn", "-", ""}, {"", "", "z", ":z"}, {"", "", "-", ""}, {"cn:1; sn:2", "o", "-", "cn:1; sn:2"}, {"cn:1; sn:2", "dc", "-", "cn:1; sn:2"}, {"cn:1; sn:2", "O", "z", "cn:1; o:z; sn:2"}, {"dc:1; sn:2", "cn", "z", "cn:z; dc:1; sn:2"}, {"cn:1; dc:2", "uid", "z", "cn:1; dc:2; uid:z"}, {"o:1", "ou", "z", "o:1; ou:z"}, {"ou:1", "o", "z", "o:z; ou:1"},
		// Where it stands is asked of Canon of the type, or of the type, where it is none; the others stay where they are.
		{"cn:1; dc:2; SN:3; sn:4", "MAIL", "z", "cn:1; dc:2; SN:3; mail:z; sn:4"}, {"cn:1; dc:2; SN:3; sn:4", "DC", "1", "DC:1; cn:1; SN:3; sn:4"}, {"cn:1; dc:2; SN:3; sn:4", "zz", "1", "cn:1; dc:2; SN:3; sn:4; zz:1"}, {"sn:1; cn:2; ou:3", "mail", "z", "mail:z; sn:1; cn:2; ou:3"}, {"cn:1; sn:2; o:3; uid:4", "ou", "z", "cn:1; ou:z; sn:2; o:3; uid:4"}, {"sn:1; cn:2", "sn", "z", "cn:2; sn:z"}, {"SN:1; CN:2", "mail", "z", "SN:1; CN:2; mail:z"}, {"sn:1; cn:2", "SN ", "z", "SN :z; sn:1; cn:2"}, {"cn:1", "", "z", ":z; cn:1"}, {":1; cn:2; :3", "", "z", ":z; cn:2"}, {"cn:1; \xff:2", "\x80", "z", "cn:1; \x80:z; \xff:2"}, {"u\u0130d:1", "UID", "z", "uid:z; u\u0130d:1"}, {"uid:1", "U\u0130D", "z", "U\u0130D:z; uid:1"}, {"cn:1; cn :2", "CN", "z", "cn:z; cn :2"},
		// Values are as they are, alike ones and such as have no Norm, too.
		{"cn:1", "cn", "z|z", "cn:z|z"}, {"cn:1", "cn", "b|A| a|", "cn:b|A| a|"}, {"cn:1", "cn", "", "cn:"}, {"cn:1", "uidNumber", "07|x", "cn:1; uidnumber:07|x"}, {"cn:1|2", "cn", "2|1", "cn:2|1"}, {"mail", "cn", "1", "cn:1; mail"}, {"dc:b|a|a; cn", "sn", "1", "dc:b|a|a; cn; sn:1"},
	} {
		for _, name := range []string{"cn=a", "", "no name", `CN=\41`} {
			e := en(name, parts(c.in)...)
			was := text(e)
			var vals []string
			if c.vals != "-" {
				vals = strings.Split(c.vals, "|")
			}
			s := entry.Set(e, c.typ, vals...)
			if text(s) != text(en(name, parts(c.want)...)) {
				t.Errorf("5.1: Set %d of %s to %q, %q: %s", i, was, c.typ, vals, text(s))
			}
			if told := entry.Vals(s, c.typ); !slices.Equal(told, vals) {
				t.Errorf("5.2: Set %d of %s to %q, %q: %q", i, was, c.typ, vals, told)
			}
			if text(e) != was {
				t.Errorf("R3: what was handed in: %s", text(e))
			}
		}
	}
	if s := entry.Set(en("x", "cn:1"), "cn", []string{}...); len(s.Attrs) != 0 {
		t.Error("5.1: Set to an empty list", text(s))
	}
}

// wantedSet is Set by the words of 5.1: the types that stay, and the first of them that is above.
func wantedSet(e api.Entry, typ string, vals []string) api.Entry {
	name, ok := match.Canon(typ)
	if !ok {
		name = typ
	}
	a, s, stands := api.Attr{Type: name, Vals: vals}, api.Entry{Dn: e.Dn}, len(vals) == 0
	for _, b := range e.Attrs {
		if small(b.Type) == small(typ) {
			continue
		}
		if !stands && b.Type > name {
			s.Attrs, stands = append(s.Attrs, a), true
		}
		s.Attrs = append(s.Attrs, b)
	}
	if !stands {
		s.Attrs = append(s.Attrs, a)
	}
	return s
}

// TestThrown: 5.1 and 5.2, of entries that are thrown.
func TestThrown(t *testing.T) {
	d := dice(51)
	for range 50000 {
		e, typ, vals, val := d.entry(), d.typ(), d.vals(), d.of("", "a", "B c", "7", "o=x")
		was, wasVals := text(e), fmt.Sprintf("%q", vals)
		s := entry.Set(e, typ, vals...)
		if text(s) != text(wantedSet(e, typ, vals)) {
			t.Fatalf("5.1: Set of %s to %q, %q: %s", was, typ, vals, text(s))
		}
		if told := entry.Vals(s, typ); !slices.Equal(told, vals) || !slices.Equal(entry.Vals(s, strings.ToUpper(typ)), vals) {
			t.Fatalf("5.2: Set of %s to %q, %q: %q", was, typ, vals, told)
		}
		var told []string
		for _, a := range slices.Backward(e.Attrs) {
			if small(a.Type) == small(typ) {
				told = a.Vals
			}
		}
		if l := entry.Vals(e, typ); !slices.Equal(l, told) {
			t.Fatalf("5.1: Vals of %s, %q: %q", was, typ, l)
		}
		like := slices.ContainsFunc(told, func(v string) bool { return match.Same(typ, v, val) })
		if entry.Has(e, typ, val) != like {
			t.Fatalf("5.1: Has of %s, %q, %q: %v", was, typ, val, !like)
		}
		if entry.Same(e, s) != (text(s) == was) || !entry.Same(s, wantedSet(e, typ, vals)) {
			t.Fatalf("5.1: Same of %s, %s", was, text(s))
		}
		if text(e) != was || fmt.Sprintf("%q", vals) != wasVals {
			t.Fatalf("R3: what was handed in: %s, %s", text(e), vals)
		}
	}
}

// TestSame: 5.1, entries that differ in one thing alone are not the same.
func TestSame(t *testing.T) {
	all := []api.Entry{
		{}, en("cn=a"), en("CN=a"), en("cn=A"), en(`cn=\41`), en("cn=a "), en("", "cn"), en("", "cn:"), en("", ""), en("", ":"), en("", "", ""),
		en("cn=a", "cn:a|b", "sn:c"), en("cn=b", "cn:a|b", "sn:c"), en("", "cn:a|b", "sn:c"),
		en("cn=a", "CN:a|b", "sn:c"), en("cn=a", "cn:a|b", "Sn:c"), en("cn=a", "o:a|b", "sn:c"), en("cn=a", ":a|b", "sn:c"), en("cn=a", "cn :a|b", "sn:c"),
		en("cn=a", "cn:A|b", "sn:c"), en("cn=a", "cn:a|b ", "sn:c"), en("cn=a", "cn:a|", "sn:c"), en("cn=a", "cn:a|b", "sn:C"), en("cn=a", "cn:a|b", "sn:"),
		en("cn=a", "cn:b|a", "sn:c"), en("cn=a", "cn:a", "sn:c"), en("cn=a", "cn:b", "sn:c"), en("cn=a", "cn:ab", "sn:c"), en("cn=a", "cn:a|b|b", "sn:c"), en("cn=a", "cn:a|b|", "sn:c"), en("cn=a", "cn:a|b|c", "sn"), en("cn=a", "cn", "sn:a|b|c"),
		en("cn=a", "sn:c", "cn:a|b"), en("cn=a", "cn:a|b"), en("cn=a", "sn:c"), en("cn=a", "cn:a", "cn:b", "sn:c"), en("cn=a", "cn:a|b", "sn:c", "sn:c"), en("cn=a", "cn:a|b", "sn:c", "sn"), en("cn=a", "cn:a|b", "sn:c", ""), en("cn=a", "cn:a|b", "cn:a|b", "sn:c"), en("cn=a", "cn:a|b", "sn"), en("cn=a", "cn", "sn:c"), en("cn=a", "cn", "sn"),
		en("o=x", "uidnumber:7"), en("o=x", "uidnumber:07"), en("o=x", "member:o=x"), en("o=x", "member:O=x"),
	}
	was := fmt.Sprintf("%q", all)
	for i, a := range all {
		for j, b := range all {
			if entry.Same(a, b) != (i == j) {
				t.Errorf("5.1: Same of %s, %s: %v", text(a), text(b), i != j)
			}
		}
		// All made anew; nil lists and empty ones are one.
		b := api.Entry{Dn: a.Dn, Attrs: append([]api.Attr{}, a.Attrs...)}
		for k, x := range b.Attrs {
			b.Attrs[k].Vals = append(make([]string, 0, 9), x.Vals...)
		}
		if !entry.Same(a, b) || !entry.Same(b, a) {
			t.Errorf("5.1: Same of %s made anew", text(a))
		}
	}
	if fmt.Sprintf("%q", all) != was {
		t.Error("R3: what was handed in")
	}
}
