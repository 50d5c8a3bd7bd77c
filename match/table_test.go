package match

import (
	"slices"
	"strings"
	"sync"
	"testing"

	"brook/api"
)

// unmade takes the table back to what it is ahead of the first call that makes it.
func unmade() {
	types, typesOnce = [11]kind{}, sync.Once{}
}

// TestTable: the ways of chapter 3, the table of types is made by once, by a call from outside, whoever asks first, and says what the functions say.
func TestTable(t *testing.T) {
	unmade()
	right := make([]bool, 16)
	var all sync.WaitGroup
	for i := range right {
		all.Go(func() {
			right[i] = slices.Equal(Types(api.RInt), []string{"uidnumber"})
		})
	}
	all.Wait()
	for i, ok := range right {
		if !ok {
			t.Error("3.1: at once", i)
		}
	}
	made := false
	typesOnce.Do(func() { made = true })
	if made {
		t.Error("3: the table was not made by once")
	}
	if types != allTypes() {
		t.Error("3: the table says something else than the function", types)
	}
	seen := map[string]int{}
	for _, k := range types {
		seen[k.name]++
		if name, ok := Canon(strings.ToUpper(k.name)); !ok || name != k.name || Rule(k.name) != k.rule || k.rule == 0 {
			t.Errorf("3.1: the table says %d of %q, Rule %d", k.rule, k.name, Rule(k.name))
		}
	}
	if len(seen) != len(types) {
		t.Error("3.1: types that stand twice", seen)
	}
}

// TestTypes: all types there are, by their rules.
func TestTypes(t *testing.T) {
	for rule, want := range map[int][]string{
		api.RText: {"objectclass", "cn", "sn", "o", "ou", "uid", "mail", "description"}, api.RInt: {"uidnumber"}, api.RDn: {"member"}, api.RBytes: {"userpassword"},
		0: nil, -1: nil, api.RBytes + 1: nil,
	} {
		for range 2 {
			l := Types(rule)
			if !slices.Equal(l, want) {
				t.Error("3.1: Types of", rule, l)
			}
			// Whoever writes into what is told changes nothing else.
			clear(append(l, "spare")[:cap(l)])
			clear(l)
		}
	}
}

// askAll makes the calls of chapter 3, and tells what is wrong of their answers.
func askAll() []string {
	var wrong []string
	sure := func(ok bool, call string) {
		if !ok {
			wrong = append(wrong, call)
		}
	}
	for _, k := range allTypes() {
		name, ok := Canon(strings.ToUpper(k.name))
		sure(ok && name == k.name && Rule(k.name) == k.rule, "Canon, Rule of "+k.name)
	}
	_, ok := Canon("dc")
	sure(!ok && Rule("dc") == 0, "Canon, Rule of none")
	val, ok := Norm("cn", " A ")
	sure(ok && val == "a", "Norm")
	_, ok = Norm("dc", "a")
	sure(!ok, "Norm of none")
	sure(Same("Member", "O=x", "o=X") && !Same("userpassword", "A", "a"), "Same")
	less, may := Less("uidnumber", "9", "10")
	sure(less && may, "Less")
	_, may = Less("member", "o=x", "o=y")
	sure(!may, "Less of names")
	return wrong
}

// TestTableUntouched: no call of chapter 3 makes the table.
func TestTableUntouched(t *testing.T) {
	unmade()
	if wrong := askAll(); wrong != nil || types != [11]kind{} {
		t.Error("3: without the table", wrong)
	}
	made := false
	typesOnce.Do(func() { made = true })
	if !made {
		t.Error("3: a call came to the table's once")
	}
	unmade()
}

// TestAnswersWithoutTable: what chapter 3's calls answer stays when the table says something else.
func TestAnswersWithoutTable(t *testing.T) {
	Types(0)
	right := types
	defer func() { types = right }()
	for _, k := range []kind{{}, {"dc", 3}, {"cn", 4}, {strings.Repeat("x", 1000), -1}} {
		for i := range types {
			types[i] = k
		}
		if wrong := askAll(); wrong != nil {
			t.Errorf("3: with a table of %v: %q", k, wrong)
		}
	}
}
