package entry

import (
	"testing"

	"brook/api"
)

// TestCount: the ways of chapter 5, the count of norms made goes by one with each norm, from 0 on in each call.
func TestCount(t *testing.T) {
	attrs := []api.Attr{{Type: "SN"}, {Type: "dc", Vals: []string{"x"}}, {Type: "Cn"}}
	for range 2 {
		m := &maker{attrs: attrs}
		for i, want := range []string{"sn", "dc", "cn"} {
			if made := m.made.Load(); made != int64(i) || !m.more() {
				t.Error("5: norms made ahead of the one at", i, made)
			}
			if a := m.next(); a.Type != want {
				t.Error("5.1: the one at", i, a)
			}
		}
		if m.made.Load() != 3 || m.more() {
			t.Error("5: norms made in all", m.made.Load())
		}
	}
	if m := (&maker{}); m.more() {
		t.Error("5.1: of no attributes there is one more")
	}
}
