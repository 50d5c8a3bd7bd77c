package tree

import (
	"slices"
	"sync"

	"brook/api"
)

// index tells where in a list which key stands. It is one call's own: kept for the next one it might speak of a list that has been written into.
type index struct {
	list   []api.Entry
	made   sync.Once
	keys   []string
	places map[string]int
}

// fill makes the index; each question asks for it, by once, so that it is made at the first.
func (x *index) fill() {
	x.places = map[string]int{}
	for i, e := range x.list {
		key := Key(e)
		x.keys = append(x.keys, key)
		// Of alike keys, which no tree has, the first counts, as if the list were gone through.
		if _, there := x.places[key]; !there && key != "" {
			x.places[key] = i
		}
	}
}

// all tells the key of each entry, in the list's order; empty: it has none.
func (x *index) all() []string {
	x.made.Do(x.fill)
	return x.keys
}

// place tells where the entry of a key stands; -1: there is none.
func (x *index) place(key string) int {
	x.made.Do(x.fill)
	if i, there := x.places[key]; there {
		return i
	}
	return -1
}

// above tells where the first key above one stands; if there is none, the list's end.
func (x *index) above(key string) int {
	i := slices.IndexFunc(x.all(), func(k string) bool { return k > key })
	if i < 0 {
		return len(x.list)
	}
	return i
}
