package match

import (
	"sync"

	"brook/api"
)

// kind of values: a type's name in small letters, and its rule.
type kind struct {
	name string
	rule int
}

// types is a table of what allTypes tells. Types alone reads it: the calls of chapter 3 ask allTypes.
var (
	types     [11]kind
	typesOnce sync.Once
)

func allTypes() [11]kind {
	return [...]kind{
		{"objectclass", api.RText},
		{"cn", api.RText},
		{"sn", api.RText},
		{"o", api.RText},
		{"ou", api.RText},
		{"uid", api.RText},
		{"mail", api.RText},
		{"description", api.RText},
		{"uidnumber", api.RInt},
		{"member", api.RDn},
		{"userpassword", api.RBytes},
	}
}

// find looks for a type, in letters of whatever case.
func find(typ string) (kind, bool) {
	// No type has that many bytes: a long text is not gone through.
	if len(typ) > api.MaxType {
		return kind{}, false
	}
	name := lowered(typ)
	for _, k := range allTypes() {
		if k.name == name {
			return k, true
		}
	}
	return kind{}, false
}

// lowered makes letters A to Z small. The library's ToLower turns some bytes that are no such letters into letters, too.
func lowered(s string) string {
	b := []byte(s)
	for i, c := range b {
		if c >= 'A' && c <= 'Z' {
			b[i] = c + 'a' - 'A'
		}
	}
	return string(b)
}

func fillTypes() {
	types = allTypes()
}

// Types tells the names of all types whose values are alike by a rule, in the document's order.
func Types(rule int) []string {
	typesOnce.Do(fillTypes)
	var names []string
	for _, k := range types {
		if k.rule == rule {
			names = append(names, k.name)
		}
	}
	return names
}
