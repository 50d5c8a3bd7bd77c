package acl

import (
	"sync/atomic"

	"brook/api"
	"brook/dn"
)

// rights are what rules give to one who asks for types of one entry.
type rights struct {
	named map[string]int // of types that rules name
	rest  int            // of all others
	// refusals counts the types that were asked for in vain. It is one call's own: a count for all calls would be kept.
	refusals atomic.Int64
}

// rightsOf gathers what the rules say that speak of who and of an entry.
func rightsOf(rules []api.Rule, who string, e api.Entry) *rights {
	// An entry without a key counts as one whose key is empty.
	key, _ := dn.Key(e.Dn)
	all := &rights{named: map[string]int{}, rest: api.No}
	for _, r := range rules {
		if !covers(r, key) || !means(r, who, key) {
			continue
		}
		if len(r.Types) == 0 {
			// It speaks of all types that are left: rules behind it say nothing more.
			all.rest = r.Right
			break
		}
		all.name(r)
	}
	return all
}

// name takes up what r says of types of which no rule ahead of it speaks.
func (all *rights) name(r api.Rule) {
	for _, typ := range r.Types {
		if _, said := all.named[typ]; !said {
			all.named[typ] = r.Right
		}
	}
}

// of tells the right to a type, in letters of whatever case.
func (all *rights) of(typ string) int {
	if right, said := all.named[lowered(typ)]; said {
		return right
	}
	return all.rest
}

// allow tells whether a type has at least a right; it counts what it refuses.
func (all *rights) allow(typ string, least int) bool {
	if all.of(typ) >= least {
		return true
	}
	all.refusals.Add(1)
	return false
}

// covers tells whether r speaks of the entry of a key.
func covers(r api.Rule, key string) bool {
	target, _ := dn.Key(r.Target)
	return key == target || r.Deep && dn.Under(key, target)
}

// means tells whether r speaks of who, where the entry's key is given.
func means(r api.Rule, who, key string) bool {
	switch r.Who {
	case api.WAny:
		return true
	case api.WUser:
		return who != ""
	case api.WSelf:
		return who == key
	case api.WDn:
		name, ok := dn.Key(r.Dn)
		return ok && who == name
	}
	return false
}

// lowered makes letters A to Z small. Blanks stay, so layer 2's Fold does not serve; the library's ToLower turns other letters, too.
func lowered(s string) string {
	b := []byte(s)
	for i, c := range b {
		if c >= 'A' && c <= 'Z' {
			b[i] = c + 'a' - 'A'
		}
	}
	return string(b)
}
