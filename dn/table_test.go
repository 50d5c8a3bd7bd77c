package dn

import (
	"strings"
	"sync"
	"testing"

	"brook/api"
)

// TestTable: the ways of chapter 2, the table of special bytes is there for the first that asks, whoever it is, and is not made again.
func TestTable(t *testing.T) {
	right := make([]bool, 16)
	var all sync.WaitGroup
	for i := range right {
		all.Go(func() {
			key, ok := Key(`CN=\ #Ann\2c,O=x`)
			right[i] = ok && key == `cn=\#ann\,,o=x`
		})
	}
	all.Wait()
	for i, ok := range right {
		if !ok {
			t.Error("2.3: at once", i)
		}
	}
	made := false
	kindsOnce.Do(func() { made = true })
	if made {
		t.Error("2: the table was not made by once")
	}
}

// TestTableAgrees: what the table says of each byte that it holds is what the function says, and what the document does.
func TestTableAgrees(t *testing.T) {
	Text(nil)
	if len(kinds) != 127 {
		t.Error("2: the table holds", len(kinds))
	}
	for i, k := range kinds {
		c := byte(i)
		if k != kindOf(c) {
			t.Errorf("2: the table says %d of %q, the function %d", k, c, kindOf(c))
		}
		want := plain
		switch c {
		case ',', '+', '"', '\\', '<', '>', ';':
			want = always
		case '#':
			want = atHead
		case ' ':
			want = atEnds
		case '=':
			want = free
		}
		if c < 32 {
			want = coded
		}
		if k != want {
			t.Errorf("2.2: the table says %d of %q", k, c)
		}
	}
	for c := 127; c < 256; c++ {
		if kindOf(byte(c)) != coded {
			t.Errorf("2.2: the function says %d of %q", kindOf(byte(c)), byte(c))
		}
	}
}

// TestAnswersWithoutTable: an answer is not worked out of the table: it stays when the table says something else.
func TestAnswersWithoutTable(t *testing.T) {
	Text(nil)
	right := kinds
	defer func() { kinds = right }()
	for wrong := coded; wrong <= always+1; wrong++ {
		for i := range kinds {
			kinds[i] = wrong
		}
		key, ok := Key(`CN=\ #A  b\2c\09\=#,O==x`)
		if s := Text([]api.Rdn{{Type: "o", Val: " #a,=\x1f~\x7f "}}); !ok || key != `cn=\#a b\,\09=#,o==x` || s != `o=\ #a\,=\1f~\7f\ ` {
			t.Errorf("2.2: with a table of %d: %q, %q", wrong, key, s)
		}
		if _, is := Parse("o= x"); is || Fold(" A ") != "a" || !May([]api.Rdn{{Type: "o", Val: " "}}) || Up(`a=\,,b`) != "b" || !Under(`a=\,,b`, "b") {
			t.Errorf("2: with a table of %d", wrong)
		}
	}
}

// TestRoom: there is enough of it for each text, and not much more.
func TestRoom(t *testing.T) {
	for c := range 256 {
		s := string([]byte{byte(c)})
		for _, val := range []string{"", s, s + s, "x" + s + "y", strings.Repeat(s, 1000)} {
			l := []api.Rdn{{Type: "cn", Val: val}, {Type: "o", Val: val}}
			if n := len(Text(l)); room(l) < n || room(l) > 2*n {
				t.Errorf("room of %q: %d of %d", val, room(l), n)
			}
		}
	}
}
