package kept

import (
	"brook/api"
	"brook/csn"
	"brook/delta"
	"brook/tree"
)

const (
	nobody     = -1 // the Parent of who follows none
	lastServer = 7
	lastHour   = 24
	mostDeltas = 400 // of a KFull
)

// mayOwn tells whether what a record's kind has may be.
func mayOwn(r api.Record) bool {
	switch r.Kind {
	case api.KDelta:
		return delta.May(r.Delta)
	case api.KMeta:
		return within(r.Epoch, 0, api.MaxCsn) && within(r.Parent, nobody, lastServer) && within(r.From, 0, lastHour) && within(r.To, 0, lastHour)
	case api.KFull:
		return csn.May(r.Csn) && len(r.Deltas) <= mostDeltas && follow(r.Csn, r.Deltas) && tree.May(r.Tree)
	case api.KPurge:
		return within(r.N, 0, api.MaxCsn)
	}
	return false
}

// besides makes r without its kind, and what that has.
func besides(r api.Record) api.Record {
	switch r.Kind {
	case api.KDelta:
		r.Delta = api.Delta{}
	case api.KMeta:
		r.Epoch, r.Lead, r.Parent, r.Reload, r.From, r.To = 0, false, 0, false, 0, 0
	case api.KFull:
		r.Csn, r.Deltas, r.Tree = api.Csn{}, nil, nil
	case api.KPurge:
		r.N = 0
	}
	r.Kind = 0
	return r
}

// follow tells whether deltas may stand behind a change, one behind the other.
func follow(last api.Csn, l []api.Delta) bool {
	for _, d := range l {
		if !delta.May(d) || d.Csn.N != last.N+1 || d.Csn.Epoch < last.Epoch {
			return false
		}
		last = d.Csn
	}
	return true
}

func within(n, least, most int) bool {
	return least <= n && n <= most
}
