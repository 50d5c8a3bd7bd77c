package ber

import (
	"strings"
	"sync"
	"testing"

	"brook/api"
)

// TestCount: the ways of chapter 1, the count of what was read is one that many may raise at once.
func TestCount(t *testing.T) {
	const many, each = 8, 20000
	r := &reader{s: strings.Repeat("x", many*each)}
	var all sync.WaitGroup
	for range many {
		all.Go(func() {
			for range each {
				r.take(1)
			}
		})
	}
	all.Wait()
	if r.count() != many*each || r.left() != 0 {
		t.Error("1: counted", r.count(), "of", many*each)
	}
}

// TestGetAtOnce: R5, calls at one time do not touch one another.
func TestGetAtOnce(t *testing.T) {
	x := api.Tlv{Tag: 0x30}
	for i := range 200 {
		x.L = append(x.L, api.Tlv{Tag: 0x31, L: []api.Tlv{{Tag: 4, S: strings.Repeat("x", i)}}})
	}
	s := Put(x)
	right := make([]bool, 16)
	var all sync.WaitGroup
	for i := range right {
		all.Go(func() {
			y, next, e := Get(s, 0)
			right[i] = e == api.OK && next == len(s) && Same(x, y)
		})
	}
	all.Wait()
	for i, ok := range right {
		if !ok {
			t.Error("1.2: at once", i)
		}
	}
}
