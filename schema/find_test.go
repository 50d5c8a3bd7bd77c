package schema_test

import (
	"slices"
	"strings"
	"sync"
	"testing"

	"brook/api"
	"brook/schema"
)

// doc tells the classes by 4.1.
func doc() []api.Class {
	return []api.Class{
		{Name: "top", Must: []string{"objectclass"}},
		{Name: "organization", Sup: "top", Structural: true, Must: []string{"o"}, May: []string{"description"}},
		{Name: "organizationalunit", Sup: "top", Structural: true, Must: []string{"ou"}, May: []string{"description"}},
		{Name: "person", Sup: "top", Structural: true, Must: []string{"cn", "sn"}, May: []string{"description", "userpassword"}},
		{Name: "inetorgperson", Sup: "person", Structural: true, May: []string{"uid", "mail"}},
		{Name: "posix", Sup: "top", Must: []string{"uid", "uidnumber"}},
		{Name: "groupofnames", Sup: "top", Structural: true, Must: []string{"cn", "member"}, May: []string{"description"}},
	}
}

func alike(a, b api.Class) bool {
	return a.Name == b.Name && a.Sup == b.Sup && a.Structural == b.Structural && slices.Equal(a.Must, b.Must) && slices.Equal(a.May, b.May)
}

// small makes A to Z small, and leaves all other bytes.
func small(s string) string {
	b := []byte(s)
	for i, c := range b {
		if c >= 'A' && c <= 'Z' {
			b[i] = c + 32
		}
	}
	return string(b)
}

// checkFind asks for a class, in its letters as they stand.
func checkFind(t *testing.T, name string) {
	t.Helper()
	var want api.Class
	is := false
	for _, c := range doc() {
		if c.Name == small(name) {
			want, is = c, true
		}
	}
	if c, ok := schema.Find(name); ok != is || !alike(c, want) {
		t.Errorf("4.1: Find of %.50q: %v, %v", name, c, ok)
	}
}

// TestFind: 4.1, each class there is, each of its letters small or not (of long names the first fourteen).
func TestFind(t *testing.T) {
	for _, c := range doc() {
		checkFind(t, c.Name)
		checkFind(t, strings.ToUpper(c.Name))
		for bits := range 1 << min(len(c.Name), 14) {
			b := []byte(c.Name)
			for i := range b {
				if bits>>i&1 == 1 {
					b[i] -= 32
				}
			}
			checkFind(t, string(b))
		}
		for i := range c.Name {
			checkFind(t, c.Name[:i]+strings.ToUpper(c.Name[i:]))
			checkFind(t, c.Name[:i]+strings.ToUpper(c.Name[i:i+1])+c.Name[i+1:])
		}
	}
}

// TestFindNone: 4.1, what is nearly a class.
func TestFindNone(t *testing.T) {
	for _, name := range []string{
		"", " ", "-", "t", "to", "tops", "persons", "cn", "o", "uid", "objectclass", "inetorg", "org", "group", "groupofname", "groupofuniquenames", "posixaccount", "organizational", "organizational unit", "inet org person", "group of names", "top,person", "top person",
		" top", "top ", " top ", "  person", "person  ", "\ttop", "top\n", "top\x00", "\x00top",
		// Letters elsewhere whose small ones, or whose likes, are a to z.
		"po\u017fix", "po\u017fIX", "per\u017fon", "pos\u0130x", "pos\u0131x", "organ\u0130zation", "\uff54\uff4f\uff50", "t\u043ep", "tóp", "to\u0301p",
		strings.Repeat("top", 1<<20), "top" + strings.Repeat(" ", 1<<22), strings.Repeat(" ", 1<<22) + "top", strings.Repeat("\xff", 1<<22),
	} {
		checkFind(t, name)
	}
	for _, c := range doc() {
		name := c.Name
		for i := range name {
			for b := range 256 {
				s := string([]byte{byte(b)})
				checkFind(t, name[:i]+s+name[i+1:])
				checkFind(t, name[:i]+s+name[i:])
				checkFind(t, name+s)
			}
			checkFind(t, name[:i])
			checkFind(t, name[i+1:])
		}
		checkFind(t, name+name)
	}
}

// TestFindMemory: R3, who writes into what is told, or behind it, changes nothing else.
func TestFindMemory(t *testing.T) {
	for _, want := range doc() {
		a, _ := schema.Find(want.Name)
		b, _ := schema.Find(want.Name)
		for _, l := range [][]string{a.Must, a.May} {
			more := append(l, "spare")
			for i := range more {
				more[i] = "spoilt"
			}
			l = l[:cap(l)]
			for i := range l {
				l[i] = "spoilt"
			}
		}
		if !alike(b, want) {
			t.Error("R3: told ahead", b)
		}
		checkFind(t, want.Name)
		checkFind(t, strings.ToUpper(want.Name))
		if l := schema.Classes(); !slices.EqualFunc(l, doc(), alike) {
			t.Error("R3: all", l)
		}
	}
	must, _ := schema.Find("person")
	copy(must.Must[:cap(must.Must)], []string{"x", "x", "x", "x"})
	if !slices.Equal(must.May, doc()[3].May) {
		t.Error("R3: two lists of one answer", must)
	}
}

// TestClasses: all classes, in new memory.
func TestClasses(t *testing.T) {
	for range 3 {
		l := schema.Classes()
		if !slices.EqualFunc(l, doc(), alike) {
			t.Fatal("4.1: Classes", l)
		}
		for i, c := range l {
			clear(c.Must[:cap(c.Must)])
			clear(c.May[:cap(c.May)])
			l[i].Name = "spoilt"
		}
		for _, c := range doc() {
			checkFind(t, c.Name)
		}
	}
}

// TestAtOnce: R1, what is told is the same, whoever asks ahead or at once.
func TestAtOnce(t *testing.T) {
	right := make([]bool, 16)
	var all sync.WaitGroup
	for i := range right {
		all.Go(func() {
			c, ok := schema.Find("Posix")
			right[i] = ok && alike(c, doc()[5]) && slices.EqualFunc(schema.Classes(), doc(), alike) && schema.Check(person()) == api.Success && schema.Check(api.Entry{}) == api.BadDn
		})
	}
	all.Wait()
	for i, ok := range right {
		if !ok {
			t.Error("4.1: at once", i)
		}
	}
}
