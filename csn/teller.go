package csn

import (
	"sync/atomic"

	"brook/api"
)

// teller tells numbers of changes, one behind the other.
type teller struct {
	// last is the N of the last one told. It is one call's own: one for all calls would be kept.
	last atomic.Int64
}

// behind makes a teller whose last one told is head.
func behind(head api.Csn) *teller {
	t := &teller{}
	t.last.Store(int64(head.N))
	return t
}

// next tells the one behind the last one told.
func (t *teller) next(epoch int) api.Csn {
	return api.Csn{Epoch: epoch, N: int(t.last.Add(1))}
}
