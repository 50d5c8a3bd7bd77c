package csn

import (
	"testing"

	"brook/api"
)

// TestLast: the ways of chapter 12, the last one told begins at the head, and goes by one with each that is told, in each call anew.
func TestLast(t *testing.T) {
	for range 2 {
		for _, n := range []int{0, 7, -3, api.MaxCsn} {
			l := behind(api.Csn{Epoch: 2, N: n})
			if l.last.Load() != int64(n) {
				t.Error("12: the last one told ahead of the first", l.last.Load())
			}
			for k, epoch := range []int{2, 5, 1, 1} {
				c := l.next(epoch)
				if want := (api.Csn{Epoch: epoch, N: n + k + 1}); c != want || l.last.Load() != int64(want.N) {
					t.Error("12: the last one told", l.last.Load(), c, want)
				}
			}
		}
	}
}

// TestNextTold: the ways of chapter 12, Next tells the one behind the head as a teller does.
func TestNextTold(t *testing.T) {
	head := api.Csn{Epoch: 3, N: 17}
	if got, want := Next(head, 4), behind(head).next(4); got != want || got != (api.Csn{Epoch: 4, N: 18}) {
		t.Error("12.1: Next", got, want)
	}
}
