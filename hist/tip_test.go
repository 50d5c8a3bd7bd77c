package hist

import (
	"testing"

	"brook/api"
)

func gone(epoch, n int) api.Delta {
	return api.Delta{Csn: api.Csn{Epoch: epoch, N: n}, Gone: "o=x"}
}

// TestTip: the ways of chapter 15, the head kept beside begins at base, or at the last one's Csn, goes on with each that may stand behind it, and stays with each that may not, in each call anew.
func TestTip(t *testing.T) {
	for range 2 {
		p := tipOf(api.Csn{Epoch: 1, N: 3}, nil)
		if *p.head.Load() != (api.Csn{Epoch: 1, N: 3}) {
			t.Error("15: the head ahead of all", *p.head.Load())
		}
		for i, c := range []struct {
			d     api.Delta
			takes bool
			head  api.Csn
		}{
			{gone(1, 3), false, api.Csn{Epoch: 1, N: 3}}, {gone(0, 4), false, api.Csn{Epoch: 1, N: 3}}, {gone(1, 5), false, api.Csn{Epoch: 1, N: 3}}, {api.Delta{Csn: api.Csn{Epoch: 1, N: 4}}, false, api.Csn{Epoch: 1, N: 3}},
			{gone(1, 4), true, api.Csn{Epoch: 1, N: 4}}, {gone(1, 4), false, api.Csn{Epoch: 1, N: 4}}, {gone(3, 5), true, api.Csn{Epoch: 3, N: 5}}, {gone(2, 6), false, api.Csn{Epoch: 3, N: 5}}, {gone(3, 6), true, api.Csn{Epoch: 3, N: 6}},
		} {
			if p.take(c.d) != c.takes || *p.head.Load() != c.head || p.last() != c.head {
				t.Error("15: the head behind the one at", i, p.last())
			}
		}
	}
}

// TestTipOf: the ways of chapter 15, the tip of a history is its own: what another one takes does not turn it, nor what was handed in.
func TestTipOf(t *testing.T) {
	base, l := api.Csn{Epoch: 1, N: 3}, []api.Delta{gone(1, 4), gone(2, 5)}
	first, second, none := tipOf(base, l), tipOf(base, l), tipOf(base, l[:0])
	if first.last() != l[1].Csn || Head(base, l) != first.last() || none.last() != base || Head(base, nil) != base {
		t.Error("15.1: the tip of a history", first.last(), none.last())
	}
	d := gone(2, 6)
	if !first.take(d) || second.last() != l[1].Csn || none.last() != base {
		t.Error("15: another tip", second.last(), none.last())
	}
	l[1].Csn, d.Csn.N = api.Csn{Epoch: 9, N: 9}, 9
	if first.last() != (api.Csn{Epoch: 2, N: 6}) || second.last() != (api.Csn{Epoch: 2, N: 5}) {
		t.Error("R3: what was handed in is kept", first.last(), second.last())
	}
	first.turn(base)
	if first.last() != base || base != (api.Csn{Epoch: 1, N: 3}) {
		t.Error("15: turned", first.last())
	}
}
