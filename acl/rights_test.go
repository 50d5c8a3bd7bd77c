package acl

import (
	"testing"

	"brook/api"
)

// TestRefusals: the ways of chapter 10, the count of refusals goes by one with each type that is asked for in vain, from 0 on in each call.
func TestRefusals(t *testing.T) {
	rules := []api.Rule{{Who: api.WAny, Deep: true, Types: []string{"cn"}, Right: api.Write}, {Who: api.WAny, Deep: true, Types: []string{"sn"}, Right: api.Read}}
	for range 2 {
		r := rightsOf(rules, "", api.Entry{Dn: "o=x"})
		for i, c := range []struct {
			typ      string
			least    int
			want     bool
			refusals int64
		}{
			{"cn", api.Write, true, 0}, {"SN", api.Read, true, 0}, {"sn", api.Write, false, 1}, {"cn", api.Read, true, 1}, {"o", api.Read, false, 2}, {"sn", api.Write, false, 3}, {"dc", api.No, true, 3}, {"", api.Write, false, 4}, {"cn", api.Write, true, 4},
		} {
			if got := r.allow(c.typ, c.least); got != c.want || r.refusals.Load() != c.refusals {
				t.Error("10.2: refusals", i, got, r.refusals.Load())
			}
			// To tell a right is to refuse nothing.
			if r.of(c.typ); r.refusals.Load() != c.refusals {
				t.Error("10.2: refusals behind a right that is told", i, r.refusals.Load())
			}
		}
	}
}

// TestNamed: 10.3, rules behind one that speaks of all types are not taken up, nor what they say of types that were named.
func TestNamed(t *testing.T) {
	rules := []api.Rule{
		{Who: api.WAny, Deep: true, Types: []string{"cn", "sn", "cn"}, Right: api.Read},
		{Who: api.WUser, Deep: true, Types: []string{"o"}, Right: api.Read},
		{Who: api.WAny, Deep: true, Types: []string{"sn", "mail"}, Right: api.Write},
		{Who: api.WAny, Deep: true, Right: api.Read},
		{Who: api.WAny, Deep: true, Types: []string{"uid"}, Right: api.Write},
		{Who: api.WAny, Deep: true, Right: api.Write},
	}
	r := rightsOf(rules, "", api.Entry{})
	if len(r.named) != 3 || r.named["cn"] != api.Read || r.named["sn"] != api.Read || r.named["mail"] != api.Write || r.rest != api.Read {
		t.Error("10.3: what is taken up", r.named, r.rest)
	}
	if r := rightsOf(nil, "cn=a", api.Entry{}); len(r.named) != 0 || r.rest != api.No || r.refusals.Load() != 0 {
		t.Error("10.2: what no rules say", r.named, r.rest)
	}
}
