package dn

import (
	"sync"
	"testing"

	"brook/api"
)

// unmade takes the table back to what it is ahead of the first call that makes it.
func unmade() {
	kinds, kindsOnce = [lastPlain + 1]kind{}, sync.Once{}
}

// TestTable: the ways of chapter 2, the table of special bytes is there for the first that asks, whoever it is, and is not made again.
func TestTable(t *testing.T) {
	unmade()
	right := make([]bool, 16)
	var all sync.WaitGroup
	for i := range right {
		all.Go(func() {
			key, ok := Key(`CN=\ #Ann\2c,O=x`)
			right[i] = ok && key == `cn=\#ann\,,o=x` && Special(',') && !Special('A')
		})
	}
	all.Wait()
	for i, ok := range right {
		if !ok {
			t.Error("2.3: at once", i)
		}
	}
	made := false
	kindsOnce.Do(func() { made = true })
	if made {
		t.Error("2: the table was not made by once")
	}
}

// TestTableAgrees: what the table says of each byte that it holds is what the function says, and what the document does.
func TestTableAgrees(t *testing.T) {
	unmade()
	Special(0)
	if len(kinds) != 127 {
		t.Error("2: the table holds", len(kinds))
	}
	for i, k := range kinds {
		c := byte(i)
		if k != kindOf(c) {
			t.Errorf("2: the table says %d of %q, the function %d", k, c, kindOf(c))
		}
		want := plain
		switch c {
		case ',', '+', '"', '\\', '<', '>', ';':
			want = always
		case '#':
			want = atHead
		case ' ':
			want = atEnds
		case '=':
			want = free
		}
		if c < 32 {
			want = coded
		}
		if k != want {
			t.Errorf("2.2: the table says %d of %q", k, c)
		}
	}
	for c := 127; c < 256; c++ {
		if kindOf(byte(c)) != coded {
			t.Errorf("2.2: the function says %d of %q", kindOf(byte(c)), byte(c))
		}
	}
}

// TestSpecial: a byte is special if, in a text of a value that has it first, within and last, it does not stand as it is.
func TestSpecial(t *testing.T) {
	for c := range 256 {
		s := string([]byte{byte(c)})
		val := s + "x" + s + "x" + s
		if Special(byte(c)) != (Text([]api.Rdn{{Type: "o", Val: val}}) != "o="+val) {
			t.Errorf("2.2: Special of %q", s)
		}
	}
}

// askAll makes the calls of chapter 2, and tells what is wrong of their answers.
func askAll() []string {
	var wrong []string
	sure := func(ok bool, call string) {
		if !ok {
			wrong = append(wrong, call)
		}
	}
	key, ok := Key(`CN=\ #A  b\2c\09\=#,O==x`)
	sure(ok && key == `cn=\#a b\,\09=#,o==x`, "Key "+key)
	text := Text([]api.Rdn{{Type: "o", Val: " #a,=\x1f~\x7f "}})
	sure(text == `o=\ #a\,=\1f~\7f\ `, "Text "+text)
	l, is := Parse(text)
	sure(is && len(l) == 1 && l[0].Val == " #a,=\x1f~\x7f ", "Parse")
	_, is = Parse("o= x")
	sure(!is, "Parse of none")
	sure(Fold(" A ") == "a", "Fold")
	sure(May([]api.Rdn{{Type: "o", Val: " "}}) && !May([]api.Rdn{{Type: "o"}}), "May")
	sure(Up(`a=\,,b`) == "b", "Up")
	sure(Under(`a=\,,b`, "b") && !Under(`a=\,,b`, ",b"), "Under")
	return wrong
}

// TestTableUntouched: no call of chapter 2 makes the table.
func TestTableUntouched(t *testing.T) {
	unmade()
	if wrong := askAll(); wrong != nil || kinds != [lastPlain + 1]kind{} {
		t.Error("2: without the table", wrong)
	}
	made := false
	kindsOnce.Do(func() { made = true })
	if !made {
		t.Error("2: a call came to the table's once")
	}
	unmade()
}

// TestAnswersWithoutTable: what chapter 2's calls answer stays when the table says something else.
func TestAnswersWithoutTable(t *testing.T) {
	Special(0)
	right := kinds
	defer func() { kinds = right }()
	for k := coded; k <= always+1; k++ {
		for i := range kinds {
			kinds[i] = k
		}
		if wrong := askAll(); wrong != nil {
			t.Errorf("2: with a table of %d: %q", k, wrong)
		}
	}
}
