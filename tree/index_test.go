package tree

import (
	"slices"
	"strconv"
	"sync"
	"testing"

	"brook/api"
)

func listOf(names ...string) []api.Entry {
	var l []api.Entry
	for _, name := range names {
		l = append(l, api.Entry{Dn: name})
	}
	return l
}

// questions are all that an index is asked.
func questions() []func(x *index) {
	return []func(x *index){
		func(x *index) { x.all() },
		func(x *index) { x.place("o=a") },
		func(x *index) { x.place("none") },
		func(x *index) { x.above("") },
		func(x *index) { stands(x) },
	}
}

// TestIndexOnce: the ways of chapter 8, the index is made at the first question, whichever it is, by once, and is not made again.
func TestIndexOnce(t *testing.T) {
	for i, ask := range questions() {
		l := listOf("O=A", "no name", "o=b")
		x := &index{list: l}
		if x.keys != nil || x.places != nil {
			t.Error("8: an index ahead of question", i)
		}
		ask(x)
		if len(x.keys) != 3 || len(x.places) != 2 {
			t.Error("8: the index behind question", i, x.keys, x.places)
		}
		made := false
		x.made.Do(func() { made = true })
		if made {
			t.Error("8: the index was not made by once at question", i)
		}
		// Another name in the list: an index that was made again would tell.
		l[0].Dn = "o=c"
		for _, again := range questions() {
			again(x)
		}
		if !slices.Equal(x.all(), []string{"o=a", "", "o=b"}) || x.place("o=a") != 0 || x.place("o=c") != -1 {
			t.Error("8: the index was made again behind question", i, x.keys, x.places)
		}
	}
}

// TestIndexAlone: where its once is used up, nothing of the list is in the index, and all answers come of that alone.
func TestIndexAlone(t *testing.T) {
	x := &index{list: listOf("o=a", "o=b")}
	x.made.Do(func() {})
	if x.all() != nil || x.place("o=a") != -1 || x.above("") != 2 {
		t.Error("8: an answer beside the index")
	}
}

// TestIndexAgrees: 8.1, the index says of each key where it stands, of none and of the empty one that it does not.
func TestIndexAgrees(t *testing.T) {
	var names []string
	for i := range 300 {
		names = append(names, "O="+strconv.Itoa(1000+i))
	}
	x := &index{list: listOf(names...)}
	for i, key := range x.all() {
		if x.place(key) != i || x.above(key) != i+1 || x.above(key[:len(key)-1]) != i-i%10 || x.place(names[i]) != -1 {
			t.Error("8.1: of the key at", i, key)
		}
	}
	if x.place("") != -1 || x.above("") != 0 || x.above("z") != 300 {
		t.Error("8.1: of keys that do not stand there")
	}
	none := &index{}
	if none.place("") != -1 || none.place("o=a") != -1 || none.above("") != 0 || none.all() != nil || !stands(none) {
		t.Error("8.1: of an empty list")
	}
	nameless := &index{list: listOf("", "no name", "o=")}
	if nameless.place("") != -1 || len(nameless.all()) != 3 {
		t.Error("8.1: of a list of no names")
	}
}

// TestIndexAtOnce: the index is there for the first that asks, whoever it is.
func TestIndexAtOnce(t *testing.T) {
	x := &index{list: listOf("o=a", "o=b", "o=c")}
	right := make([]bool, 16)
	var all sync.WaitGroup
	for i := range right {
		all.Go(func() {
			right[i] = x.place("o=c") == 2 && len(x.all()) == 3 && x.above("o=a") == 1
		})
	}
	all.Wait()
	for i, ok := range right {
		if !ok {
			t.Error("8: at once", i)
		}
	}
}
