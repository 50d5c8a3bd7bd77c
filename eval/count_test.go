package eval

import (
	"testing"

	"brook/api"
)

// TestCount: the ways of chapter 7, the counts of True, False, Undefined go by one with each of Kids, from 0 on in each filter that holds others; of Kids of Kids none is counted.
func TestCount(t *testing.T) {
	e := api.Entry{Attrs: []api.Attr{{Type: "cn", Vals: []string{"a"}}}}
	yes, no, unknown := api.Filter{Kind: api.FHas, Type: "cn"}, api.Filter{Kind: api.FHas, Type: "o"}, api.Filter{Kind: api.FHas, Type: "dc"}
	for _, c := range []struct {
		kids               []api.Filter
		no, yes, undefined int64
	}{
		{nil, 0, 0, 0},
		{[]api.Filter{yes}, 0, 1, 0},
		{[]api.Filter{no}, 1, 0, 0},
		{[]api.Filter{unknown}, 0, 0, 1},
		{[]api.Filter{no, yes, no, unknown, yes, no}, 3, 2, 1},
		{[]api.Filter{unknown, unknown, no, no}, 2, 0, 2},
		{[]api.Filter{{Kind: api.FAnd, Kids: []api.Filter{no, yes}}, {Kind: api.FOr, Kids: []api.Filter{no, unknown, yes}}, {Kind: api.FNot, Kids: []api.Filter{unknown}}}, 1, 1, 1},
	} {
		for range 2 {
			got := tallied(c.kids, e)
			if f, y, u := got[api.False].Load(), got[api.True].Load(), got[api.Undefined].Load(); f != c.no || y != c.yes || u != c.undefined {
				t.Error("7.1: counts of", c.kids, f, y, u)
			}
		}
	}
}
