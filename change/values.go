package change

import (
	"brook/api"
	"brook/match"
)

// values of one type. What goes stays in the list, and of each norm it is known which are gone: so a mod takes no longer than its own values do, however many others there are.
type values struct {
	typ   string
	all   []value
	alike map[string]group // by norm
	there int              // how many of all are not gone
}

// value that has no norm is like none; in its place it has the empty text, which is no norm.
type value struct {
	text string
	norm string
}

// group of values that have one norm.
type group struct {
	from  int // those ahead of this place are gone
	there int // how many are not
}

func newValues(typ string, vals []string) *values {
	v := &values{typ: typ, alike: map[string]group{}}
	for _, val := range vals {
		v.put(val)
	}
	return v
}

// put takes a value behind the others, whatever it is; the code tells why MAdd may not have it.
func (v *values) put(val string) int {
	norm, ok := match.Norm(v.typ, val)
	v.all = append(v.all, value{text: val, norm: norm})
	v.there++
	if !ok {
		return api.BadSyntax
	}
	g := v.alike[norm]
	g.there++
	v.alike[norm] = g
	if g.there > 1 {
		return api.ValueExists
	}
	return api.Success
}

// hasLike tells whether a value is there that is like val.
func (v *values) hasLike(val string) bool {
	// Beside a false the norm is empty, and of that there is no group.
	norm, _ := match.Norm(v.typ, val)
	return v.alike[norm].there > 0
}

// drop takes away the values that are like val.
func (v *values) drop(val string) {
	if norm, ok := match.Norm(v.typ, val); ok {
		v.there -= v.alike[norm].there
		v.alike[norm] = group{from: len(v.all)}
	}
}

// left tells the values that are not gone.
func (v *values) left() []string {
	var l []string
	for at, x := range v.all {
		if at >= v.alike[x.norm].from {
			l = append(l, x.text)
		}
	}
	return l
}

// add is MAdd of vals. Of two of them that are alike the second comes to one that is there.
func (v *values) add(vals []string) int {
	if len(vals) == 0 {
		return api.Constraint
	}
	t := &tally{}
	for _, val := range vals {
		t.count(v.put(val))
	}
	return t.first(api.BadSyntax, api.ValueExists)
}

// del is MDel of vals. All of them are looked for ahead of the first that goes: two of them may be like one value.
func (v *values) del(vals []string) int {
	if v.there == 0 {
		return api.NoAttribute
	}
	if len(vals) == 0 {
		*v = *newValues(v.typ, nil)
		return api.Success
	}
	t := &tally{}
	for _, val := range vals {
		t.count(v.wanted(val))
	}
	for _, val := range vals {
		v.drop(val)
	}
	return t.first(api.NoAttribute)
}

// wanted tells why MDel may not have val; Success: something is like it.
func (v *values) wanted(val string) int {
	if !v.hasLike(val) {
		return api.NoAttribute
	}
	return api.Success
}
