package csn_test

import (
	"math"
	"testing"

	"brook/api"
	"brook/csn"
)

// TestNext: 12.1, epoch, head's N and 1, whether these may be or not.
func TestNext(t *testing.T) {
	const most = 1 << 52
	for _, c := range []struct {
		head  api.Csn
		epoch int
		want  api.Csn
		may   bool
	}{
		{api.Csn{}, 0, api.Csn{N: 1}, true},
		{api.Csn{}, 7, api.Csn{Epoch: 7, N: 1}, true},
		{api.Csn{}, -1, api.Csn{Epoch: -1, N: 1}, false},
		{api.Csn{Epoch: 2, N: 7}, 1, api.Csn{Epoch: 1, N: 8}, true},
		{api.Csn{Epoch: 2, N: 7}, 2, api.Csn{Epoch: 2, N: 8}, true},
		{api.Csn{Epoch: 2, N: 7}, 3, api.Csn{Epoch: 3, N: 8}, true},
		{api.Csn{Epoch: 2, N: 7}, most, api.Csn{Epoch: most, N: 8}, true},
		{api.Csn{Epoch: 2, N: 7}, most + 1, api.Csn{Epoch: most + 1, N: 8}, false},
		{api.Csn{Epoch: 2, N: 99}, 2, api.Csn{Epoch: 2, N: 100}, true},
		{api.Csn{Epoch: most, N: most - 1}, most, api.Csn{Epoch: most, N: most}, true},
		{api.Csn{Epoch: 2, N: most}, 1, api.Csn{Epoch: 1, N: most + 1}, false},
		{api.Csn{Epoch: 2, N: most}, 2, api.Csn{Epoch: 2, N: most + 1}, false},
		{api.Csn{Epoch: 2, N: most}, 3, api.Csn{Epoch: 3, N: most + 1}, false},
		{api.Csn{Epoch: most, N: most}, most, api.Csn{Epoch: most, N: most + 1}, false},
		{api.Csn{N: -1}, 0, api.Csn{}, true},
		{api.Csn{N: -5}, 0, api.Csn{N: -4}, false},
		{api.Csn{Epoch: -3, N: 4}, math.MinInt, api.Csn{Epoch: math.MinInt, N: 5}, false},
		{api.Csn{Epoch: 3, N: math.MinInt}, math.MaxInt, api.Csn{Epoch: math.MaxInt, N: math.MinInt + 1}, false},
	} {
		if got := csn.Next(c.head, c.epoch); got != c.want || csn.May(got) != c.may {
			t.Errorf("12.1: Next of %v, %d: %v", c.head, c.epoch, got)
		}
	}
}

// TestNextAbove: 12.2, Next is above if the epoch is not below, else it is below; of the greatest int, behind which there is none, it ends.
func TestNextAbove(t *testing.T) {
	pairs(func(head api.Csn, _, _ edge) {
		for _, e := range edges() {
			got := csn.Next(head, e.n)
			if head.N == math.MaxInt {
				continue
			}
			want := 1
			if e.n < head.Epoch {
				want = -1
			}
			if got.Epoch != e.n || got.N-head.N != 1 || csn.Cmp(got, head) != want || csn.Cmp(head, got) != -want {
				t.Errorf("12.2: Next of %v, %d: %v", head, e.n, got)
			}
		}
	})
}

// TestNextRises: 12.2, one behind the other they rise, as long as their epochs do not fall, and each may be.
func TestNextRises(t *testing.T) {
	for d, i := dice(4), 0; i < 100; i++ {
		head := d.csn()
		begin := head.N
		for k := 1; k <= 30 && head.Epoch < 1<<51 && head.N < 1<<52; k++ {
			next := csn.Next(head, head.Epoch+d.below(2)*d.below(1000))
			if csn.Cmp(next, head) != 1 || next.N != begin+k || !csn.May(next) {
				t.Fatalf("12.2: behind %v: %v", head, next)
			}
			head = next
		}
	}
}
