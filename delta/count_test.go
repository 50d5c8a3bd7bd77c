package delta

import (
	"testing"

	"brook/api"
	"brook/tree"
)

// TestApplied: the ways of chapter 13, the count of deltas applied goes by one with each delta, from 0 on in each call, whatever the delta says.
func TestApplied(t *testing.T) {
	x := api.Entry{Dn: "o=x", Attrs: []api.Attr{{Type: "o", Vals: []string{"x"}}, {Type: "objectclass", Vals: []string{"organization"}}}}
	deltas := []api.Delta{{Entry: x}, {}, {Gone: "none"}, {Gone: "o=x", Entry: x}, {Gone: "o=x"}}
	for range 2 {
		f := newFold(nil, deltas)
		for i, want := range []int{1, 1, 1, 1, 0} {
			if applied := f.applied.Load(); applied != int64(i) || !f.more() {
				t.Error("13: deltas applied ahead of the one at", i, applied)
			}
			if f.apply(); len(f.tree) != want {
				t.Error("13.1: the tree behind the one at", i, f.tree)
			}
		}
		if f.applied.Load() != 5 || f.more() {
			t.Error("13: deltas applied in all", f.applied.Load())
		}
	}
	if f := newFold([]api.Entry{x}, nil); f.more() || f.applied.Load() != 0 || !tree.Same(f.tree, []api.Entry{x}) {
		t.Error("13.1: of no deltas there is one more")
	}
}
