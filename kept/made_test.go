package kept

import (
	"strconv"
	"strings"
	"testing"

	"brook/api"
	"brook/ber"
)

// contents tells how many bytes stand in the leaves of a tlv.
func contents(t api.Tlv) int {
	n := len(t.S)
	for _, x := range t.L {
		n += contents(x)
	}
	return n
}

// wideEntry is one of some bytes; more than one may have.
func wideEntry(name string, n int) api.Entry {
	return api.Entry{Dn: name, Attrs: []api.Attr{{Type: "o", Vals: []string{name, strings.Repeat("v", n)}}, {Type: "q"}}}
}

// TestMade: the ways of chapter 14, the count of bytes made goes by those of each text, number and flag, from 0 on in each call.
func TestMade(t *testing.T) {
	e := wideEntry("o=x", 300)
	d := api.Delta{Csn: api.Csn{Epoch: 1, N: 1 << 20}, Gone: "o=w", Entry: e}
	for _, r := range []api.Record{{Kind: api.KPurge, N: 5}, {Kind: api.KPurge, N: 1 << 40}, {Kind: api.KMeta, Epoch: 300, Lead: true}, {Kind: api.KDelta, Delta: d}, {Kind: api.KFull, Deltas: []api.Delta{d, d}, Tree: []api.Entry{e, e, {}}}} {
		m := new(maker)
		if m.made.Load() != 0 || m.full() {
			t.Error("14: bytes made ahead of the first", m.made.Load())
		}
		x := m.record(r)
		if n := contents(x); m.made.Load() != int64(n) || m.full() {
			t.Error("14: bytes made", m.made.Load(), n)
		}
		was := m.made.Load()
		if m.record(r); m.made.Load() != 2*was {
			t.Error("14: bytes made of both", m.made.Load(), was)
		}
	}
	m := new(maker)
	for _, c := range []struct {
		do   func() api.Tlv
		more int64
	}{{func() api.Tlv { return m.num(0) }, 1}, {func() api.Tlv { return m.num(-129) }, 2}, {func() api.Tlv { return m.text("") }, 0}, {func() api.Tlv { return m.text("abc") }, 3}, {func() api.Tlv { return m.flag(true) }, 1}, {func() api.Tlv { return m.flag(false) }, 1}} {
		was := m.made.Load()
		if x := c.do(); m.made.Load() != was+c.more || len(x.S) != int(c.more) {
			t.Error("14: bytes made of one", m.made.Load()-was, x)
		}
	}
}

// TestFull: 1.1, what is full is too large for a record, and no more is made of its lists; what is not stays whole.
func TestFull(t *testing.T) {
	m := new(maker)
	m.text(strings.Repeat("x", api.MaxSize))
	if m.full() {
		t.Error("14: full of as many bytes as there may be", m.made.Load())
	}
	if m.num(0); !m.full() {
		t.Error("14: not full of more", m.made.Load())
	}
	var l []api.Entry
	var deltas []api.Delta
	for i := range 100 {
		l = append(l, wideEntry("o="+strconv.Itoa(i), 20000))
		deltas = append(deltas, api.Delta{Entry: l[i]})
	}
	for _, n := range []int{1, 52, 53, 100} {
		tree := new(maker).record(api.Record{Kind: api.KFull, Tree: l[:n]}).L[4].L
		told := new(maker).record(api.Record{Kind: api.KFull, Deltas: deltas[:n]}).L[3].L
		// 52 times 20000 and a few are below 2^20, 53 times are above.
		if want := min(n, 53); len(tree) != want || len(told) != want {
			t.Error("14: made of a list of", n, len(tree), len(told))
		}
		x := new(maker).record(api.Record{Kind: api.KFull, Tree: l[:n]})
		if ber.May(x) != (n <= 52) {
			t.Error("14: a beginning that may be of", n)
		}
	}
	both := new(maker).record(api.Record{Kind: api.KFull, Deltas: deltas[:30], Tree: l[:30]})
	if len(both.L[3].L) != 30 || len(both.L[4].L) != 23 || ber.May(both) {
		t.Error("14: made of two lists", len(both.L[3].L), len(both.L[4].L))
	}
}

// TestEntryWhole: 14.1, an entry is made whole, however large it is.
func TestEntryWhole(t *testing.T) {
	e := wideEntry("o=x", 3*api.MaxSize)
	for range 30 {
		e.Attrs = append(e.Attrs, e.Attrs[0], e.Attrs[1])
	}
	if got, ok := ReadEntry(Entry(e)); !ok || len(got.Attrs) != 62 || len(got.Attrs[60].Vals) != 2 || got.Attrs[61].Type != "q" {
		t.Error("14.1: of a large entry")
	}
}
