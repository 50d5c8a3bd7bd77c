package match

import (
	"sync"

	"brook/api"
)

// kind of values: a type's name in small letters, and its rule.
type kind struct {
	name string
	rule int
}

// types is a table of what allTypes tells. Only longest asks it: no answer is worked out of it.
var (
	types     [11]kind
	typesOnce sync.Once
)

func allTypes() [11]kind {
	return [...]kind{
		{"objectclass", api.RText},
		{"cn", api.RText},
		{"sn", api.RText},
		{"o", api.RText},
		{"ou", api.RText},
		{"uid", api.RText},
		{"mail", api.RText},
		{"description", api.RText},
		{"uidnumber", api.RInt},
		{"member", api.RDn},
		{"userpassword", api.RBytes},
	}
}

// find looks for a type, in letters of whatever case.
func find(typ string) (kind, bool) {
	// No type has that many bytes: a long text is not gone through.
	if len(typ) > api.MaxType {
		return kind{}, false
	}
	name := lowered(typ)
	for _, k := range allTypes() {
		if k.name == name {
			return k, true
		}
	}
	return kind{}, false
}

// lowered makes letters A to Z small. The library's ToLower turns some bytes that are no such letters into letters, too.
func lowered(s string) string {
	b := make([]byte, 0, longest())
	for i := range len(s) {
		c := s[i]
		if c >= 'A' && c <= 'Z' {
			c += 'a' - 'A'
		}
		b = append(b, c)
	}
	return string(b)
}

// longest tells, by the table, how many bytes the longest type has: so much room is enough for each that there is.
func longest() int {
	typesOnce.Do(fillTypes)
	n := 0
	for i := range types {
		n = max(n, len(types[i].name))
	}
	return n
}

func fillTypes() {
	types = allTypes()
}
