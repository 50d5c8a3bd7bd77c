package tree_test

import (
	"fmt"
	"slices"
	"strings"
	"sync"
	"testing"

	"brook/api"
	"brook/tree"
)

// roomy makes a tree, and an entry to put, whose lists have spare room, in which something stands; whole tells all of both.
func roomy() (l []api.Entry, e api.Entry, whole func() string) {
	spare := func(e api.Entry) api.Entry {
		for i, a := range e.Attrs {
			e.Attrs[i].Vals = append(a.Vals, "spare")[:len(a.Vals)]
		}
		e.Attrs = append(e.Attrs, api.Attr{Type: "spare", Vals: []string{"spare"}})[:len(e.Attrs)]
		return e
	}
	room := append(company(), org("spare"))
	for i := range room {
		room[i] = spare(room[i])
	}
	e = spare(org("xx"))
	return room[:9], e, func() string { return all(room) + all(list(e)) }
}

// all tells what stands in a list, in its spare room, too.
func all(l []api.Entry) string {
	s := ""
	for _, e := range l[:cap(l)] {
		s += fmt.Sprintf("%q %d;", e.Dn, len(e.Attrs))
		for _, a := range e.Attrs[:cap(e.Attrs)] {
			s += fmt.Sprintf(" %q %q %d;", a.Type, a.Vals[:cap(a.Vals)], len(a.Vals))
		}
	}
	return s
}

// TestHandedIn: R3, what is handed in stays, the room behind it, too.
func TestHandedIn(t *testing.T) {
	l, e, whole := roomy()
	was := whole()
	for range 3 {
		for _, key := range append(strings.Fields(companyKeys), "", "o=xx", "no name") {
			tree.Find(l, key)
			tree.Kids(l, key)
			tree.Del(l, key)
			tree.Del(l[:1], key)
		}
		for _, x := range append(slices.Clone(l), e, org("X"), org("zz"), unit("zz", "o=x"), api.Entry{}) {
			tree.Key(x)
			tree.Put(l, x)
			tree.Put(l[:1], x)
			tree.Put(nil, x)
		}
		if !tree.May(l) || !tree.Same(l, l) || tree.Same(l, l[:8]) || whole() != was {
			t.Fatal("R3: what was handed in", whole())
		}
	}
}

// TestNotKept: R1, R3, nothing of a list is remembered, the index of its keys neither: of the same memory with others in it the answers are theirs.
func TestNotKept(t *testing.T) {
	l, e, _ := roomy()
	if tree.Find(l, "o=y") != 5 || tree.Find(l, "o=xx") != -1 || len(tree.Kids(l, "")) != 2 || !tree.May(l) {
		t.Fatal("8.1: of one with room")
	}
	l[5] = e
	if tree.Find(l, "o=y") != -1 || tree.Find(l, "o=xx") != 5 || strings.Join(tree.Kids(l, ""), " ") != "o=x o=xx" || len(tree.Put(l, org("XX"))) != 9 || len(tree.Put(l, org("y"))) != 10 || len(tree.Del(l, "o=y")) != 9 || !tree.May(l) {
		t.Error("R1: of another entry in the same memory")
	}
	l[4].Dn = "o=zz"
	if tree.Find(l, "o=x") != -1 || tree.Find(l, "o=zz") != 4 || tree.May(l) {
		t.Error("R1: of another name in the same memory")
	}
	l[4].Dn = "o=x"
	l[4].Attrs[0].Vals[0] = "y"
	if tree.Find(l, "o=x") != 4 || tree.May(l) {
		t.Error("R1: of another value in the same memory")
	}
	l[4].Attrs[0].Vals[0] = "x"
	l[4].Attrs[0].Type = "O"
	if tree.May(l) {
		t.Error("R1: of another type in the same memory")
	}
	l[4].Attrs[0].Type = "o"
	if !tree.May(l) || tree.May(l[:4]) || tree.Find(l[:4], "o=x") != -1 || tree.Find(l[1:], "o=x") != 3 {
		t.Error("R1: of fewer in the same memory")
	}
}

// spoil writes into all of a list that was told, and into its spare room.
func spoil(l []api.Entry) {
	for _, e := range l {
		for _, a := range e.Attrs {
			for i := range a.Vals[:cap(a.Vals)] {
				a.Vals[:cap(a.Vals)][i] = "spoilt"
			}
		}
		for i := range e.Attrs[:cap(e.Attrs)] {
			e.Attrs[:cap(e.Attrs)][i] = api.Attr{Type: "spoilt", Vals: []string{"spoilt"}}
		}
	}
	for i := range l[:cap(l)] {
		l[:cap(l)][i] = en("spoilt", "spoilt:spoilt")
	}
}

// tellers are all calls that tell lists of entries, each branch of them.
func tellers(l []api.Entry, e api.Entry) []func() []api.Entry {
	same := l[4]
	return []func() []api.Entry{
		func() []api.Entry { return tree.Put(l, e) },
		func() []api.Entry { return tree.Put(l, same) },
		func() []api.Entry { return tree.Put(l, l[0]) },
		func() []api.Entry { return tree.Put(l[:8], l[8]) },
		func() []api.Entry { return tree.Put(l[1:], l[0]) },
		func() []api.Entry { return tree.Put(nil, e) },
		func() []api.Entry { return tree.Del(l, "o=x") },
		func() []api.Entry { return tree.Del(l, "cn=ann,ou=a,o=x") },
		func() []api.Entry { return tree.Del(l, "ou=in,ou=a,o=x") },
		func() []api.Entry { return tree.Del(l, "none") },
		func() []api.Entry { return tree.Del(tree.Put(l, e), "none") },
	}
}

// TestTold: R3, what is told is new memory: whoever writes into it changes nothing that was handed in, and nothing else that was told.
func TestTold(t *testing.T) {
	l, e, whole := roomy()
	was := whole()
	for i, call := range tellers(l, e) {
		first, second := call(), call()
		want := text(first)
		_ = append(first, en("more"), en("more"))
		spoil(first)
		if text(second) != want || text(call()) != want || whole() != was {
			t.Errorf("R3: call %d: %s, %s", i, want, text(second))
		}
	}
	// What is handed in may be written to behind the call.
	for i := range tellers(l, e) {
		l, e, _ := roomy()
		told := tellers(l, e)[i]()
		want := text(told)
		spoil(l)
		spoil(list(e))
		if text(told) != want {
			t.Errorf("R3: call %d: %s, then %s", i, want, text(told))
		}
	}
}

// TestToldKids: R3, of keys that are told likewise.
func TestToldKids(t *testing.T) {
	l, _, whole := roomy()
	was := whole()
	for _, key := range []string{"", "o=x", "ou=a,o=x", "o=y"} {
		first, second := tree.Kids(l, key), tree.Kids(l, key)
		want := slices.Clone(first)
		_ = append(first, "more", "and", "more")
		for i := range first[:cap(first)] {
			first[:cap(first)][i] = "spoilt"
		}
		if !slices.Equal(second, want) || !slices.Equal(tree.Kids(l, key), want) || whole() != was {
			t.Errorf("R3: Kids of %q: %q", key, second)
		}
	}
}

// TestLists: R3, no two lists of one answer share memory, spare room too, even where those that were handed in do.
func TestLists(t *testing.T) {
	vals := []string{"x", "z", "spare"}
	attrs := []api.Attr{{Type: "cn", Vals: vals[:2]}, {Type: "description", Vals: vals[:1]}, {Type: "objectclass", Vals: []string{"person"}}, {Type: "sn", Vals: vals[1:2]}}
	var twins []api.Entry
	for _, name := range []string{"cn=x", "cn=x,cn=x", "cn=z"} {
		twins = append(twins, api.Entry{Dn: name, Attrs: attrs})
	}
	if !tree.May(twins) {
		t.Fatal("the test's own", text(twins))
	}
	last := api.Entry{Dn: "cn=z,cn=x", Attrs: attrs}
	for i, told := range [][]api.Entry{tree.Put(twins, last), tree.Put(twins, twins[1]), tree.Del(twins, "none"), tree.Del(twins, "cn=z"), tree.Put(nil, last)} {
		for j, e := range told {
			was := text(told[:j]) + text(told[j+1:])
			_ = append(e.Attrs, api.Attr{Type: "more"}, api.Attr{Type: "more"})
			for k, a := range e.Attrs {
				others := text([]api.Entry{{Attrs: e.Attrs[:k]}, {Attrs: e.Attrs[k+1:]}})
				_ = append(a.Vals, "more", "and", "more")
				for n := range a.Vals[:cap(a.Vals)] {
					a.Vals[:cap(a.Vals)][n] = fmt.Sprint("spoilt", j, k)
				}
				if text([]api.Entry{{Attrs: e.Attrs[:k]}, {Attrs: e.Attrs[k+1:]}}) != others {
					t.Errorf("R3: answer %d, entry %d, list %d", i, j, k)
				}
			}
			spoil(told[j : j+1 : j+1])
			if text(told[:j])+text(told[j+1:]) != was {
				t.Errorf("R3: answer %d, entry %d: %s", i, j, text(told))
			}
		}
	}
}

// TestAtOnce: R1, R5: what is told is the same, whoever asks ahead or at once.
func TestAtOnce(t *testing.T) {
	l, e, _ := roomy()
	put, del := text(tree.Put(l, e)), text(tree.Del(l, "o=x"))
	right := make([]bool, 16)
	var done sync.WaitGroup
	for i := range right {
		done.Go(func() {
			ok := true
			for n := range 50 {
				own := list(org(fmt.Sprint("a", i)), org(fmt.Sprint("b", n)), unit("u", fmt.Sprint("o=a", i)))
				ok = ok && tree.May(l) && text(tree.Put(l, e)) == put && text(tree.Del(l, "o=x")) == del && tree.Find(l, "o=y") == 5 && len(tree.Kids(l, "o=x")) == 3
				ok = ok && tree.May(own) && tree.Find(own, fmt.Sprint("o=b", n)) == 1 && tree.Find(own, "o=y") == -1 && len(tree.Kids(own, "")) == 2 && !tree.Same(own, l)
			}
			right[i] = ok
		})
	}
	done.Wait()
	for i, ok := range right {
		if !ok {
			t.Error("8.1: at once", i)
		}
	}
}

// TestEnds: R1, long texts and lists end in no long time.
func TestEnds(t *testing.T) {
	const n = 1 << 22
	for _, s := range []string{"a", " ", ",", "o=a,", `\`, `\,`, "\xff"} {
		long := strings.Repeat(s, n)
		for _, e := range []api.Entry{en(long), {Dn: "o=x", Attrs: []api.Attr{{Type: long}}}, {Dn: "o=x", Attrs: []api.Attr{{Type: "o", Vals: []string{"x", long}}, {Type: "objectclass", Vals: []string{"organization"}}}}} {
			l := list(e, org("x"))
			if tree.May(list(e)) || tree.May(l) || tree.Find(l, long) != -1 || len(tree.Kids(l, long)) != 0 || len(tree.Del(l, long)) != 2 || !tree.Same(l, l) {
				t.Errorf("8.1: of long %q", s)
			}
			if told := tree.Put(list(org("x")), e); len(told) > 1 {
				t.Errorf("8.1: Put of long %q", s)
			}
		}
	}
	l := many(1 << 17)
	wide := api.Entry{Dn: "o=x", Attrs: slices.Repeat([]api.Attr{{Type: "sn"}, {Type: "cn", Vals: []string{"x"}}}, 1<<18)}
	if tree.May(l) || tree.Find(l, "o=1000000") != 0 || tree.Find(l, "none") != -1 || len(tree.Kids(l, "")) != 1<<17 || len(tree.Put(l, org("zz"))) != 1<<17+1 || len(tree.Del(l, "o=1000000")) != 1<<17-1 || !tree.Same(l, l) {
		t.Error("8.1: of very many")
	}
	if tree.May(list(wide)) || len(tree.Put(nil, wide)) != 0 || tree.Find(list(wide), "o=x") != 0 || !tree.Same(list(wide), list(wide)) {
		t.Error("8.1: of very many attributes")
	}
}
