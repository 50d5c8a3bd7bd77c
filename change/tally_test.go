package change

import (
	"strings"
	"testing"

	"brook/api"
)

// TestTally: the ways of chapter 9, the count of a code goes by one with each value of which it is said, from 0 on in each mod.
func TestTally(t *testing.T) {
	for range 2 {
		tl := &tally{}
		if tl.first(api.BadSyntax, api.ValueExists) != api.Success {
			t.Error("9: a code ahead of the first value")
		}
		for i, code := range []int{api.Success, api.ValueExists, api.Success, api.BadSyntax, api.ValueExists, api.Success} {
			tl.count(code)
			sum := int64(0)
			for j := range tl {
				sum += tl[j].Load()
			}
			if sum != int64(i+1) {
				t.Error("9: codes counted", sum, "behind", i+1)
			}
		}
		if tl[api.Success].Load() != 3 || tl[api.ValueExists].Load() != 2 || tl[api.BadSyntax].Load() != 1 || tl[api.NoAttribute].Load() != 0 {
			t.Error("9: counts", tl[api.Success].Load(), tl[api.ValueExists].Load(), tl[api.BadSyntax].Load())
		}
		for code, of := range map[int][]int{api.BadSyntax: {api.BadSyntax, api.ValueExists}, api.ValueExists: {api.NoAttribute, api.ValueExists, api.BadSyntax}, api.Success: {api.NoAttribute}} {
			if got := tl.first(of...); got != code {
				t.Error("9: the first of", of, got)
			}
		}
	}
}

// TestTallyCodes: each code has its count.
func TestTallyCodes(t *testing.T) {
	for code := range len(tally{}) {
		tl := &tally{}
		tl.count(code)
		if got := tl.first(code); got != code || tl.first() != api.Success {
			t.Error("9: the count of", code, got)
		}
	}
	if len(tally{}) <= api.Other {
		t.Error("9: counts", len(tally{}))
	}
}

// TestValues: what is put stays in its order, what is dropped is not found, and comes again behind the others.
func TestValues(t *testing.T) {
	v := newValues("sn", []string{"a", "b", "A", "", "c", ""})
	state := func(want string, there int) {
		t.Helper()
		if got := strings.Join(v.left(), "|"); got != want || v.there != there {
			t.Errorf("9.2: the values %q, %d", got, v.there)
		}
	}
	state("a|b|A||c|", 6)
	if !v.hasLike(" a") || v.hasLike("") || v.hasLike("d") {
		t.Error("9.2: what is like another")
	}
	v.drop("A")
	state("b||c|", 4)
	for range 2 {
		v.drop("a")
		v.drop("")
		v.drop("d")
		state("b||c|", 4)
	}
	if v.hasLike("a") || v.put("A") != api.Success || !v.hasLike("a") || v.put("a") != api.ValueExists || v.put("") != api.BadSyntax {
		t.Error("9.2: what comes again")
	}
	state("b||c||A|a|", 7)
	v.drop("b")
	v.drop("a")
	state("|c||", 4)
	if none := newValues("dc", []string{"a", "a"}); none.hasLike("a") || len(none.left()) != 2 || none.put("b") != api.BadSyntax {
		t.Error("9.2: of no type")
	}
}
