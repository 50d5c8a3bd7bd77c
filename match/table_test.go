package match

import (
	"strings"
	"testing"
)

// TestTable: the ways of chapter 3, the table of types is made by once, by a call from outside, and says what the functions say.
func TestTable(t *testing.T) {
	Canon("cn")
	made := false
	typesOnce.Do(func() { made = true })
	if made {
		t.Error("3: the table was not made by once")
	}
	if types != allTypes() {
		t.Error("3: the table says something else than the function", types)
	}
	seen := map[string]int{}
	for _, k := range types {
		seen[k.name]++
		if name, ok := Canon(strings.ToUpper(k.name)); !ok || name != k.name || Rule(k.name) != k.rule || k.rule == 0 {
			t.Errorf("3.1: the table says %d of %q, Rule %d", k.rule, k.name, Rule(k.name))
		}
	}
	if len(seen) != len(types) {
		t.Error("3.1: types that stand twice", seen)
	}
}

// TestAnswersWithoutTable: an answer is not worked out of the table: it stays when the table says something else.
func TestAnswersWithoutTable(t *testing.T) {
	Canon("cn")
	right := types
	defer func() { types = right }()
	for _, wrong := range []kind{{}, {"dc", 3}, {"cn", 4}, {strings.Repeat("x", 1000), -1}} {
		for i := range types {
			types[i] = wrong
		}
		for _, k := range right {
			if name, ok := Canon(strings.ToUpper(k.name)); !ok || name != k.name || Rule(k.name) != k.rule {
				t.Errorf("3.1: with a table of %v: %q, %d", wrong, name, Rule(k.name))
			}
		}
		val, ok := Norm("cn", " A ")
		less, may := Less("uidnumber", "9", "10")
		if _, is := Canon("dc"); is || !ok || val != "a" || !less || !may || !Same("Member", "O=x", "o=X") {
			t.Errorf("3.2: with a table of %v", wrong)
		}
	}
}

// TestLongest: there is room for each type, and not more than one needs.
func TestLongest(t *testing.T) {
	if longest() != len("userpassword") {
		t.Error("longest:", longest())
	}
}
