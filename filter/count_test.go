package filter

import (
	"strings"
	"testing"

	"brook/api"
)

// TestCount: the ways of chapter 6, the count of filters read goes by one with each filter, from 0 on in each of those that hold others.
func TestCount(t *testing.T) {
	for range 2 {
		r := &reader{rest: "(cn=*)(&(o=)(|(o=)))(!(o=a*))(o=**)", above: 1}
		for i, want := range []int{api.FHas, api.FAnd, api.FNot} {
			if n := r.count(); n != i {
				t.Error("6: filters read ahead of the one at", i, n)
			}
			if f, ok := r.next(); !ok || f.Kind != want {
				t.Error("6.2: the one at", i, f)
			}
		}
		if n := r.count(); n != 3 || r.rest != "(o=**)" {
			t.Error("6: filters read in all", n, r.rest)
		}
		// What is none is not counted.
		if f, ok := r.next(); ok || f.Kind != 0 || r.count() != 3 {
			t.Error("6: what is none", r.count())
		}
	}
}

// TestCountEnds: 6.1, with the count of one more than may be the reading ends.
func TestCountEnds(t *testing.T) {
	many := strings.Repeat("(o=)", 2*api.MaxVals) + ")"
	for kind, most := range map[int]int{api.FAnd: api.MaxVals, api.FOr: api.MaxVals, api.FNot: 1} {
		for n := range 2 * api.MaxVals {
			f, rest, ok := holder(kind, many[len(many)-1-4*n:]+"x", 0)
			want := n <= most && (kind != api.FNot || n == 1)
			if ok != want || ok && (len(f.Kids) != n || rest != "x") || !ok && (f.Kids != nil || rest != "") {
				t.Error("6.1: kind", kind, "of", n, ok, rest)
			}
		}
	}
}
