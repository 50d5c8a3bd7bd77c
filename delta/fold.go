package delta

import (
	"sync/atomic"

	"brook/api"
	"brook/tree"
)

// fold goes through deltas; applied counts those that stand in its tree, and so tells which one is next. It is one call's own: a count for all calls would be kept.
type fold struct {
	tree    []api.Entry
	deltas  []api.Delta
	applied atomic.Int64
}

// newFold makes one that has applied none. Its tree is of new memory, as it is what is told where no delta turns it: no entry has the empty key.
func newFold(l []api.Entry, deltas []api.Delta) *fold {
	return &fold{tree: tree.Del(l, ""), deltas: deltas}
}

func (f *fold) more() bool {
	return int(f.applied.Load()) < len(f.deltas)
}

// apply applies one more, of which the caller knows that it is there.
func (f *fold) apply() {
	d := f.deltas[f.applied.Add(1)-1]
	if d.Gone != "" {
		f.tree = tree.Del(f.tree, d.Gone)
	}
	if !isZero(d.Entry) {
		f.tree = tree.Put(f.tree, d.Entry)
	}
}
