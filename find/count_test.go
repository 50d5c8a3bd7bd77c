package find

import (
	"testing"

	"brook/api"
	"brook/filter"
)

func person(cn string) api.Entry {
	return api.Entry{Dn: "cn=" + cn, Attrs: []api.Attr{{Type: "cn", Vals: []string{cn}}, {Type: "sn", Vals: []string{"s"}}}}
}

// TestCount: the ways of chapter 11, the count of entries looked at goes by one with each of them, from 0 on in each search, whether it is found or not.
func TestCount(t *testing.T) {
	for range 2 {
		s := &sight{views: []api.Entry{person("a"), person("b"), person("c"), person("b"), person("d")}}
		if s.looked.Load() != 0 || !s.more() {
			t.Error("11: looked at ahead of the first", s.looked.Load())
		}
		is, _ := filter.Parse("(cn=b)")
		for _, want := range []struct {
			looked int64
			ok     bool
		}{{2, true}, {4, true}, {5, false}, {5, false}} {
			v, ok := s.next(is)
			if ok != want.ok || ok != (v.Dn == "cn=b") || !ok && v.Attrs != nil || s.looked.Load() != want.looked || s.more() != (want.looked < 5) {
				t.Error("11: looked at", s.looked.Load(), v.Dn, ok)
			}
		}
	}
	none := &sight{}
	if v, ok := none.next(api.Filter{Kind: api.FAnd}); ok || v.Dn != "" || none.more() || none.looked.Load() != 0 {
		t.Error("11: looked at of none", none.looked.Load())
	}
}

// TestUnreadNotLookedAt: 11.3, what is looked at is what may be read alone, of the entries in the scope.
func TestUnreadNotLookedAt(t *testing.T) {
	l := []api.Entry{person("a"), person("b"), {Dn: "cn=c,cn=b", Attrs: person("c").Attrs}, {Dn: "cn=d,cn=b", Attrs: person("d").Attrs[:1]}}
	rules := []api.Rule{{Who: api.WAny, Target: "cn=a", Right: api.No}, {Who: api.WAny, Deep: true, Types: []string{"sn"}, Right: api.Read}, {Who: api.WSelf, Deep: true, Right: api.Write}}
	for _, c := range []struct {
		who, base string
		scope     int
		want      string
	}{
		{"", "", api.Sub, "cn=b: sn; cn=c,cn=b: sn; "}, {"", "", api.One, "cn=b: sn; "}, {"", "", api.Base, ""}, {"", "cn=b", api.One, "cn=c,cn=b: sn; "}, {"", "cn=b", api.Base, "cn=b: sn; "}, {"", "cn=a", api.Base, ""}, {"cn=a", "cn=a", api.Sub, ""}, {"cn=d,cn=b", "cn=b", api.Sub, "cn=b: sn; cn=c,cn=b: sn; cn=d,cn=b: cn; "}, {"cn=c,cn=b", "cn=b", api.One, "cn=c,cn=b: cn sn; "},
	} {
		got := ""
		for _, v := range views(l, rules, c.who, c.scope, c.base) {
			got += v.Dn + ":"
			for _, a := range v.Attrs {
				got += " " + a.Type
			}
			got += "; "
		}
		if got != c.want {
			t.Errorf("11.3: views of %q in %d of %q: %q", c.who, c.scope, c.base, got)
		}
	}
}

// TestWithin: 11.1, the scopes of keys; the empty key is not right below itself, and a key not below another that ends like it.
func TestWithin(t *testing.T) {
	for _, c := range []struct {
		key, base      string
		same, one, sub bool
	}{
		{"o=x", "o=x", true, false, true}, {"ou=a,o=x", "o=x", false, true, true}, {"cn=b,ou=a,o=x", "o=x", false, false, true}, {"o=x", "ou=a,o=x", false, false, false}, {"o=y", "o=x", false, false, false}, {"o=xo=x", "o=x", false, false, false}, {`cn=a\,o=x`, "o=x", false, false, false}, {`cn=a\,,o=x`, "o=x", false, true, true}, {"o=x,o=x", "o=x", false, true, true},
		{"o=x", "", false, true, true}, {"ou=a,o=x", "", false, false, true}, {"", "", true, false, true}, {"", "o=x", false, false, false},
	} {
		if same, one, sub := within(api.Base, c.key, c.base), within(api.One, c.key, c.base), within(api.Sub, c.key, c.base); same != c.same || one != c.one || sub != c.sub {
			t.Errorf("11.1: %q of %q: %v, %v, %v", c.key, c.base, same, one, sub)
		}
	}
}

// TestLowered: 11.1, of all bytes A to Z alone are turned.
func TestLowered(t *testing.T) {
	for c := range 256 {
		want := c
		if c >= 'A' && c <= 'Z' {
			want += 'a' - 'A'
		}
		if got := lowered(string([]byte{'x', byte(c), 'X'})); got != string([]byte{'x', byte(want), 'x'}) {
			t.Errorf("11.1: the letter %d: %q", c, got)
		}
	}
}
