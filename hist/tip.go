package hist

import (
	"sync/atomic"

	"brook/api"
	"brook/csn"
	"brook/delta"
)

// tip keeps the head of a history beside it.
type tip struct {
	// head is the number of the last change, whole. It is one call's own: one for all calls would be kept.
	head atomic.Pointer[api.Csn]
}

// tipOf makes the tip of a history, whether that may be or not.
func tipOf(base api.Csn, l []api.Delta) *tip {
	t := &tip{}
	t.turn(base)
	if n := len(l); n > 0 {
		t.turn(l[n-1].Csn)
	}
	return t
}

// turn makes c the head.
func (t *tip) turn(c api.Csn) {
	t.head.Store(&c)
}

// last tells the head.
func (t *tip) last() api.Csn {
	return *t.head.Load()
}

// take puts d behind all, and tells whether it may stand there; where it may not, the head stays.
func (t *tip) take(d api.Delta) bool {
	head := t.last()
	if d.Csn != csn.Next(head, d.Csn.Epoch) || d.Csn.Epoch < head.Epoch || !delta.May(d) {
		return false
	}
	t.turn(d.Csn)
	return true
}
