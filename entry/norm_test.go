package entry_test

import (
	"slices"
	"strconv"
	"strings"
	"testing"

	"brook/api"
	"brook/dn"
	"brook/entry"
	"brook/match"
)

// TestNormName: 5.1, Dn is Text of Parse, and stays where it is no name.
func TestNormName(t *testing.T) {
	most := strings.Repeat("cn=Ann,", api.MaxRdns-1) + "cn=Ann"
	long := "cn=" + strings.Repeat("x", api.MaxVal)
	for name, want := range map[string]string{
		"cn=Ann": "cn=Ann", "CN=Ann  Lee,O=x": "CN=Ann  Lee,O=x", `cn=\41nn`: "cn=Ann", `CN=\41\2c,O=x`: `CN=A\,,O=x`, `cn=A\2CB`: `cn=A\,B`, `cn=\C4\aF`: `cn=\c4\af`, `cn=\ A\ `: `cn=\ A\ `, `cn=\20A\20`: `cn=\ A\ `, `cn=A\ B`: "cn=A B", `cn=\=\#`: `cn==#`, `cn=\#\#`: `cn=\##`, `cn=\00`: `cn=\00`, `dc=\7e`: "dc=~",
		// Parse is true of these, though they have no Key.
		"": "", `cn=\ `: `cn=\ `, `cn=\20`: `cn=\ `, `cn=\20\20\20,o=\41`: `cn=\  \ ,o=A`,
		most: most, strings.ReplaceAll(most, "A", `\41`): most, long: long, strings.ReplaceAll(long, "x", `\78`): long,
		// These are none.
		"no name": "no name", " ": " ", "cn": "cn", "cn=": "cn=", `cn=\41,`: `cn=\41,`, `cn=\41, o=x`: `cn=\41, o=x`, `cn= \41`: `cn= \41`, `cn=\4`: `cn=\4`, `cn=\41+sn=x`: `cn=\41+sn=x`, `c_n=\41`: `c_n=\41`, "CN=é": "CN=é", `cn=\\41,=`: `cn=\\41,=`, "\x00\xff": "\x00\xff",
		`cn=\41,` + most: `cn=\41,` + most, long + `\78`: long + `\78`,
	} {
		e := en(name, "SN:s", "cn:a")
		n := entry.Norm(e)
		if n.Dn != want || text(n) != text(en(want, "cn:a", "sn:s")) {
			t.Errorf("5.1: Norm of the name %.60q: %.60q", name, n.Dn)
		}
		if text(e) != text(en(name, "SN:s", "cn:a")) {
			t.Errorf("R3: what was handed in: %.60q", name)
		}
	}
}

// TestNormTypes: 5.1, each type is Canon, if it is one; others stay; they rise, those that are alike in their order; values stay.
func TestNormTypes(t *testing.T) {
	for _, c := range []struct{ in, want string }{
		{"", ""},
		{"cn:a", "cn:a"}, {"CN:a", "cn:a"}, {"objectClass:Person|TOP", "objectclass:Person|TOP"}, {"uidNumber:07|x", "uidnumber:07|x"}, {"userPassword: Pw ", "userpassword: Pw "}, {"MEMBER:O=X|none", "member:O=X|none"},
		{"cn", "cn"}, {"CN", "cn"}, {"cn:", "cn:"}, {"SN; cn", "cn; sn"}, {"cn:||", "cn:||"}, {"dc", "dc"},
		{"dc:a", "dc:a"}, {"DC:a", "DC:a"}, {"Zz:1; a:2", "Zz:1; a:2"}, {"a:2; Zz:1", "Zz:1; a:2"}, {"cn:a; CNN:b", "CNN:b; cn:a"}, {":x; cn:a", ":x; cn:a"}, {"cn:a; :x", ":x; cn:a"}, {"CN :a; cn:b", "CN :a; cn:b"}, {"cn:b; CN :a", "CN :a; cn:b"},
		{"u\u0130d:x; UID:y", "uid:y; u\u0130d:x"}, {"\u017fn:x; SN:y", "sn:y; \u017fn:x"}, {"ma\u0131l:x; MAIL:y", "mail:y; ma\u0131l:x"}, {"\xff:x; cn:y; \x00:z", "\x00:z; cn:y; \xff:x"},
		{"sn:s; cn:a", "cn:a; sn:s"}, {"SN:s; cN:Ann; dc:q; Cn:Bob; objectClass:Person", "cn:Ann; cn:Bob; dc:q; objectclass:Person; sn:s"}, {"o:1; ou:2; O:3; OU:4", "o:1; o:3; ou:2; ou:4"}, {"ou:1; o:2", "o:2; ou:1"}, {"uidnumber:1; uid:2", "uid:2; uidnumber:1"},
		{"cn:3; CN:1; Cn:2; cn:1", "cn:3; cn:1; cn:2; cn:1"}, {"sn:1; cn:9; SN:2; cn:8; sn:3; cn:7", "cn:9; cn:8; cn:7; sn:1; sn:2; sn:3"}, {"DC:2; dc:1; DC:1; dc:2", "DC:2; DC:1; dc:1; dc:2"}, {"cn; cn:b; CN; cn:a", "cn; cn:b; cn; cn:a"},
		{"cn: Ann  LEE |b|B| b ", "cn: Ann  LEE |b|B| b "}, {"cn:a|a|a", "cn:a|a|a"}, {"dc:b|a", "dc:b|a"}, {"sn:c|b|a; cn:c|b|a", "cn:c|b|a; sn:c|b|a"},
	} {
		for _, name := range []string{"cn=a", "", "no name"} {
			n := entry.Norm(en(name, parts(c.in)...))
			if text(n) != text(en(name, parts(c.want)...)) {
				t.Errorf("5.1: Norm of %q: %s", c.in, text(n))
			}
		}
	}
}

// TestNormEach: 5.1, each type there is, in letters of either case, and each byte more or another one.
func TestNormEach(t *testing.T) {
	for _, typ := range []string{"objectclass", "cn", "sn", "o", "ou", "uid", "mail", "description", "uidnumber", "member", "userpassword"} {
		for _, s := range []string{typ, strings.ToUpper(typ), strings.ToUpper(typ[:1]) + typ[1:]} {
			if n := entry.Norm(en("x", s+":V")); text(n) != text(en("x", typ+":V")) {
				t.Errorf("5.1: Norm of the type %q: %s", s, text(n))
			}
			for c := range 256 {
				b := string([]byte{byte(c)})
				for _, other := range []string{s + b, b + s, s[:len(s)-1] + b, b + s[1:]} {
					want := other
					if name, ok := match.Canon(other); ok {
						want = name
					}
					if n := entry.Norm(api.Entry{Attrs: []api.Attr{{Type: other}}}); n.Attrs[0].Type != want {
						t.Errorf("5.1: Norm of the type %q: %q", other, n.Attrs[0].Type)
					}
				}
			}
		}
	}
}

// TestNormMany: 5.1, Norm asks no more of an entry than what it says: more attributes, values and bytes than may be stay.
func TestNormMany(t *testing.T) {
	for _, n := range []int{api.MaxAttrs, api.MaxAttrs + 1, 100, 5000} {
		var in, cn, sn []api.Attr
		for i := range n {
			v := api.Attr{Type: []string{"SN", "cn", "Sn", "CN"}[i%4], Vals: []string{strconv.Itoa(i)}}
			in = append(in, v)
			if v.Type = small(v.Type); v.Type == "cn" {
				cn = append(cn, v)
			} else {
				sn = append(sn, v)
			}
		}
		if got := entry.Norm(api.Entry{Attrs: in}); text(got) != text(api.Entry{Attrs: slices.Concat(cn, sn)}) {
			t.Errorf("5.1: Norm of %d attributes", n)
		}
	}
	vals := slices.Repeat([]string{strings.Repeat("X ", api.MaxVal), "", "a"}, api.MaxVals)
	long := strings.Repeat("Cn", api.MaxType)
	got := entry.Norm(api.Entry{Attrs: []api.Attr{{Type: "MAIL", Vals: vals}, {Type: long, Vals: vals}}})
	if text(got) != text(api.Entry{Attrs: []api.Attr{{Type: long, Vals: vals}, {Type: "mail", Vals: vals}}}) {
		t.Error("5.1: Norm of many values")
	}
}

// wantedNorm is Norm by the words of 5.1: the attributes are taken one by one, each time the first of those of the least type.
func wantedNorm(e api.Entry) api.Entry {
	n := api.Entry{Dn: e.Dn}
	if l, ok := dn.Parse(e.Dn); ok {
		n.Dn = dn.Text(l)
	}
	var left []api.Attr
	for _, a := range e.Attrs {
		if name, ok := match.Canon(a.Type); ok {
			a.Type = name
		}
		left = append(left, a)
	}
	for len(left) > 0 {
		least := 0
		for i, a := range left {
			if a.Type < left[least].Type {
				least = i
			}
		}
		n.Attrs = append(n.Attrs, left[least])
		left = slices.Delete(left, least, least+1)
	}
	return n
}

// TestNormThrown: 5.1, of entries that are thrown; Norm of Norm is that.
func TestNormThrown(t *testing.T) {
	d := dice(5)
	for range 20000 {
		e := d.entry()
		was := text(e)
		n := entry.Norm(e)
		if text(n) != text(wantedNorm(e)) || text(e) != was {
			t.Fatalf("5.1: Norm of %s: %s", was, text(n))
		}
		if again := entry.Norm(n); text(again) != text(n) || !entry.Same(again, n) || entry.Same(n, e) != (text(n) == was) {
			t.Fatalf("5.1: Norm of the norm of %s: %s", was, text(again))
		}
	}
}
