package schema

import (
	"slices"
	"strings"
	"sync"

	"brook/api"
)

// row of the document's list of classes; the types stand in one text, with blanks between.
type row struct {
	name       string
	sup        string
	structural bool
	must       string
	may        string
}

// longest tells how many bytes the longest name of a class has.
const longest = len("organizationalunit")

// classes is a table of what rows tells. Classes alone reads it: Find and Check ask rows.
var (
	classes     [7]api.Class
	classesOnce sync.Once
)

func rows() [7]row {
	return [...]row{
		{"top", "", false, "objectclass", ""},
		{"organization", "top", true, "o", "description"},
		{"organizationalunit", "top", true, "ou", "description"},
		{"person", "top", true, "cn sn", "description userpassword"},
		{"inetorgperson", "person", true, "", "uid mail"},
		{"posix", "top", false, "uid uidnumber", ""},
		{"groupofnames", "top", true, "cn member", "description"},
	}
}

// class makes it in new memory.
func (r row) class() api.Class {
	return api.Class{Name: r.name, Sup: r.sup, Structural: r.structural, Must: strings.Fields(r.must), May: strings.Fields(r.may)}
}

// find looks for a class by its name in small letters.
func find(name string) (api.Class, bool) {
	for _, r := range rows() {
		if r.name == name {
			return r.class(), true
		}
	}
	return api.Class{}, false
}

func fillClasses() {
	for i, r := range rows() {
		classes[i] = r.class()
	}
}

// Classes tells all classes there are, in the document's order.
func Classes() []api.Class {
	classesOnce.Do(fillClasses)
	l := slices.Clone(classes[:])
	for i, c := range l {
		l[i].Must, l[i].May = slices.Clone(c.Must), slices.Clone(c.May)
	}
	return l
}
