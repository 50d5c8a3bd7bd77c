package kept_test

import (
	"fmt"
	"slices"
	"testing"

	"brook/api"
	"brook/kept"
)

func full(c api.Csn, tree []api.Entry, l ...api.Delta) api.Record {
	return api.Record{Kind: api.KFull, Csn: c, Deltas: l, Tree: tree}
}

// TestFullMany: 14.2, how many deltas there may be.
func TestFullMany(t *testing.T) {
	for _, n := range []int{0, 1, 2, 399, 400, 401, 402, 800, 1 << 16} {
		mayIs(t, full(at(3, 7), nil, row(3, 7, n)...), n <= 400)
		mayIs(t, full(at(0, 0), company(), row(5, 0, n)...), n <= 400)
		mayIs(t, full(at(1, 1<<52-n), nil, row(1, 1<<52-n, n)...), n <= 400)
		if n > 0 {
			mayIs(t, full(at(1, 1<<52-n+1), nil, row(1, 1<<52-n+1, n)...), false)
		}
	}
}

// TestFullNs: 14.2, Ns that go on by one, from Csn's on, and others.
func TestFullNs(t *testing.T) {
	for _, c := range []struct {
		first int
		ns    []int
		may   bool
	}{
		{0, []int{1}, true}, {4, []int{5, 6, 7}, true}, {1<<52 - 1, []int{1 << 52}, true},
		{0, []int{0}, false}, {0, []int{2}, false}, {4, []int{4}, false}, {4, []int{6}, false}, {4, []int{1}, false}, {4, []int{5, 5}, false}, {4, []int{5, 7}, false}, {4, []int{5, 4}, false}, {4, []int{5, 6, 6}, false}, {4, []int{5, 6, 8}, false}, {4, []int{4, 5, 6}, false}, {4, []int{6, 7}, false}, {4, []int{6, 5}, false}, {4, []int{5, 7, 7}, false}, {4, []int{5, 7, 6}, false}, {4, []int{3}, false}, {4, []int{-5}, false}, {0, []int{-1}, false}, {1 << 52, []int{1<<52 + 1}, false}, {1 << 52, []int{1 << 52}, false}, {4, []int{1<<32 + 5}, false}, {-1, []int{0}, false}, {-1, []int{0, 1}, false},
	} {
		var l []api.Delta
		for _, n := range c.ns {
			l = append(l, out(2, n, "o=x"))
		}
		mayIs(t, full(at(2, c.first), nil, l...), c.may)
		mayIs(t, full(at(1, c.first), list(org("x")), l...), c.may)
	}
}

// TestFullEpochs: 14.2, all rows of few epochs: they do not fall, nor below Csn's.
func TestFullEpochs(t *testing.T) {
	values := []int{-1, 0, 1, 2, 1 << 52, 1<<52 + 1}
	for _, first := range values {
		for _, a := range values {
			mayIs(t, full(at(first, 0), nil, out(a, 1, "o=x")), first >= 0 && a >= first && a <= 1<<52)
			for _, b := range values {
				for _, c := range values {
					want := first >= 0 && slices.IsSorted([]int{first, a, b, c}) && c <= 1<<52
					mayIs(t, full(at(first, 6), nil, out(a, 7, "o=x"), in(b, 8, org("x")), out(c, 9, "o=x")), want)
				}
			}
		}
	}
}

// TestFullDeltas: 14.2, one delta that may not be, at each place.
func TestFullDeltas(t *testing.T) {
	for i := range 5 {
		for _, d := range []api.Delta{{}, out(0, 0, ""), out(0, 0, "O=x"), out(0, 0, "none"), in(0, 0, en("o=x")), in(0, 0, en(`o=\78`, "o:x", "objectclass:organization")), moved(0, 0, "o=X", org("x")), moved(0, 0, "o=x", en("x"))} {
			l := row(2, 10, 5)
			d.Csn = l[i].Csn
			l[i] = d
			mayIs(t, full(at(2, 10), list(org("x")), l...), false)
		}
		l := row(2, 10, 5)
		// What is told need not be of the tree.
		l[i] = moved(2, 11+i, "ou=none", unit("a", "o=none"))
		mayIs(t, full(at(2, 10), list(org("x")), l...), true)
	}
}

// many makes n entries that have none above them, whose keys rise.
func many(n int) []api.Entry {
	var l []api.Entry
	for i := range n {
		l = append(l, org(fmt.Sprint(1000000+i)))
	}
	return l
}

// TestFullTree: 14.2, a tree that may be, and ones that may not.
func TestFullTree(t *testing.T) {
	for _, l := range [][]api.Entry{nil, {}, list(org("x")), company(), many(api.MaxEntries), list(org("x"), unit("a", "O=X"))} {
		mayIs(t, full(at(1, 4), l), true)
		mayIs(t, full(at(1, 4), l, row(1, 4, 2)...), true)
	}
	for _, l := range [][]api.Entry{list(api.Entry{}), list(unit("a", "o=x")), list(org("y"), org("x")), list(org("x"), org("X")), list(en("o=x")), list(org("x"), en(`o=\79`, "o:y", "objectclass:organization")), company()[:3], many(api.MaxEntries + 1), append(company(), api.Entry{})} {
		mayIs(t, full(at(1, 4), l), false)
		mayIs(t, full(at(1, 4), l, row(1, 4, 2)...), false)
	}
}

// wide makes a person with many values, of bytes in all.
func wide(name string, n int) api.Entry {
	e := en("cn="+name, "cn:"+name, "description:d", "mail:m", "objectclass:inetorgperson", "sn:s", "uid:u")
	for i := 0; n > 0; i++ {
		a := &e.Attrs[[]int{1, 2, 4, 5}[i%4]]
		a.Vals = append(a.Vals, fmt.Sprintf("%0*d", min(n, 100), i))
		n -= 100
	}
	return e
}

// large makes a KFull that may be, whose content has as many bytes as are asked for.
func large(t *testing.T, size int, deltas bool) api.Record {
	r := full(at(1, 0), nil)
	put := func(e api.Entry) int {
		if deltas {
			d := in(1, len(r.Deltas)+1, e)
			r.Deltas = append(r.Deltas, d)
			return len(deltaBytes(d))
		}
		r.Tree = append(r.Tree, e)
		return len(entryBytes(e))
	}
	// The two lists, and their heads.
	left := size - len(num(3)+num(1)+num(0)) - 5 - 2
	for i := 0; left > 20000; i++ {
		left -= put(wide(fmt.Sprint(1000+i), 14000))
	}
	left -= put(wide("2000", left-5000))
	begun := r
	// A value of 100 bytes has two more ahead of it, and the entry has some of its own.
	for n := left * 4 / 5; n < left; n++ {
		r = begun
		if put(wide("2001", n)) == left {
			return r
		}
	}
	t.Fatal("the test's own: no record of", size)
	return r
}

// TestFullSize: 14.3, 1.1: a record whose content has as many bytes as a tlv may have, and ones that have more: these have no bytes, though they may be.
func TestFullSize(t *testing.T) {
	for _, deltas := range []bool{false, true} {
		for _, size := range []int{api.MaxSize - 1, api.MaxSize, api.MaxSize + 1, api.MaxSize + 2, 2 * api.MaxSize} {
			r := large(t, size, deltas)
			if !wantedMay(r) || !kept.May(r) {
				t.Fatal("14.2: May of one of", size, short(r))
			}
			if n := len(inside(bytesOf(r))); n != size && size <= api.MaxSize {
				t.Fatal("the test's own: one of", n)
			}
			s := kept.Put(r)
			if size > api.MaxSize {
				if s != "" {
					t.Errorf("14.3: Put of one of %d: %d bytes", size, len(s))
				}
				if got, ok := kept.Get(bytesOf(r)); ok || got.Kind != 0 || len(got.Deltas)+len(got.Tree) != 0 {
					t.Error("14.3: Get of one of", size)
				}
				continue
			}
			if s != bytesOf(r) {
				t.Errorf("14.3: Put of one of %d: %d bytes", size, len(s))
			}
			if got, ok := kept.Get(s); !ok || whole(got) != whole(r) {
				t.Errorf("14.4: Get of one of %d: %v, %s", size, ok, short(got))
			}
		}
	}
}
