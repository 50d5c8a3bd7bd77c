package strip

import (
	"testing"

	"brook/api"
)

const text = "0123456789abcdef0123456789ABCDEF"

// TestChanges: the ways of chapter 16, the count of changes belongs to the strip: it counts Writes and Syncs without an error, and Tear and Fall take it back to nought.
func TestChanges(t *testing.T) {
	s, other := New(api.Plan{Blocks: 2, Crash: 9}), New(api.Plan{Blocks: 2})
	for i, c := range []struct {
		call  func()
		count int64
	}{
		{func() {}, 0}, {func() { s.Write(0, text) }, 1}, {func() { s.Write(2, text) }, 1}, {func() { s.Write(1, "") }, 1}, {func() { s.Sync() }, 2}, {func() { s.Sync() }, 3}, {func() { s.Read(0) }, 3}, {func() { s.Loose() }, 3},
		{func() { other.Write(0, text) }, 3}, {func() { other.Tear(3) }, 3}, {func() { s.Write(1, text) }, 4}, {func() { s.Tear(5) }, 0}, {func() { s.Sync() }, 1}, {func() { s.Fall(api.Plan{Crash: 2}) }, 0}, {func() { s.Write(0, text) }, 1},
	} {
		c.call()
		if s.changes.Load() != c.count {
			t.Error("16: the count of changes behind call", i, s.changes.Load())
		}
	}
	if other.changes.Load() != 0 || s.down || other.down {
		t.Error("16: the count of another one", other.changes.Load())
	}
}

// TestChangesAsked: the ways of chapter 16, which one is not done is told by that count.
func TestChangesAsked(t *testing.T) {
	for _, ahead := range []int64{0, 6, 1 << 31, 1<<32 - 1, 1 << 40} {
		s := New(api.Plan{Blocks: 1, Crash: int(ahead) + 2})
		s.changes.Store(ahead)
		if s.Write(0, text) != api.OK || s.Down() || s.Sync() != api.ErrDown || !s.Down() {
			t.Error("16.1: the one of the number Crash, behind", ahead)
		}
	}
}

// TestKept: R8, what is synced, or fell, is kept no more as a change.
func TestKept(t *testing.T) {
	s := New(api.Plan{Blocks: 2})
	for _, end := range []func(){func() { s.Sync() }, func() { s.Fall(api.Plan{Keep: 3}) }} {
		for range 5 {
			s.Write(1, text)
		}
		end()
		if s.Loose() != 0 || cap(s.loose) != 0 {
			t.Error("16.1: what is loose behind the end", s.Loose(), cap(s.loose))
		}
	}
}
