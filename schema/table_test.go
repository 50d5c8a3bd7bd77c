package schema

import (
	"reflect"
	"sync"
	"testing"

	"brook/api"
)

// unmade takes the table back to what it is ahead of the first call that makes it.
func unmade() {
	classes, classesOnce = [7]api.Class{}, sync.Once{}
}

// TestTable: the ways of chapter 4, the table of classes is made by once, by a call from outside, and says what the function says.
func TestTable(t *testing.T) {
	unmade()
	Classes()
	made := false
	classesOnce.Do(func() { made = true })
	if made {
		t.Error("4: the table was not made by once")
	}
	for i, r := range rows() {
		c, ok := find(r.name)
		if !ok || !reflect.DeepEqual(c, classes[i]) || c.Name != r.name {
			t.Errorf("4.1: the table says %v, the function %v", classes[i], c)
		}
		if len(r.name) > longest {
			t.Error("4.1: a name that is longer than the longest", r.name)
		}
	}
}

// askAll makes the calls of chapter 4, and tells what is wrong of their answers.
func askAll() []string {
	var wrong []string
	for _, name := range []string{"top", "ORGANIZATION", "organizationalUnit", "Person", "inetOrgPerson", "posix", "groupOfNames"} {
		if c, ok := Find(name); !ok || len(c.Must)+len(c.May) == 0 {
			wrong = append(wrong, "Find "+name)
		}
	}
	if _, ok := Find("dc"); ok {
		wrong = append(wrong, "Find of none")
	}
	e := api.Entry{Dn: "o=x", Attrs: []api.Attr{{Type: "objectclass", Vals: []string{"Organization", "top"}}, {Type: "o", Vals: []string{"x"}}}}
	if Check(e) != api.Success {
		wrong = append(wrong, "Check")
	}
	e.Attrs = append(e.Attrs, api.Attr{Type: "cn", Vals: []string{"x"}})
	if Check(e) != api.BadClass || Check(api.Entry{}) != api.BadDn {
		wrong = append(wrong, "Check of a wrong one")
	}
	return wrong
}

// TestTableUntouched: no call of chapter 4 makes the table.
func TestTableUntouched(t *testing.T) {
	unmade()
	if wrong := askAll(); wrong != nil || !reflect.DeepEqual(classes, [7]api.Class{}) {
		t.Error("4: without the table", wrong)
	}
	made := false
	classesOnce.Do(func() { made = true })
	if !made {
		t.Error("4: a call came to the table's once")
	}
	unmade()
}

// TestAnswersWithoutTable: what chapter 4's calls answer stays when the table says something else.
func TestAnswersWithoutTable(t *testing.T) {
	Classes()
	right := classes
	defer func() { classes = right }()
	for _, c := range []api.Class{{}, {Name: "dc", Structural: true}, {Name: "top", Sup: "top", May: []string{"cn"}}, {Name: "organization", Must: []string{"cn"}}} {
		for i := range classes {
			classes[i] = c
		}
		if wrong := askAll(); wrong != nil {
			t.Errorf("4: with a table of %v: %q", c, wrong)
		}
	}
}
