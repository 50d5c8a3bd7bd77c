package change

import (
	"brook/api"
	"brook/dn"
	"brook/entry"
	"brook/match"
)

// draft is an entry that is being changed: of each type that was asked for it has the values so far.
type draft struct {
	from  api.Entry
	lists []*values
}

// of tells the values of a type, which may be none that there is.
func (d *draft) of(typ string) *values {
	if name, ok := match.Canon(typ); ok {
		typ = name
	}
	for _, v := range d.lists {
		if v.typ == typ {
			return v
		}
	}
	v := newValues(typ, entry.Vals(d.from, typ))
	d.lists = append(d.lists, v)
	return v
}

// entry makes what has come of the draft, in new memory. An entry of a tree is its own norm; so is what comes of it, if all of its types are some that there are.
func (d *draft) entry() api.Entry {
	e := entry.Norm(d.from)
	for _, v := range d.lists {
		e = entry.Set(e, v.typ, v.left()...)
	}
	return e
}

// modify does one mod. What is left of the draft beside a code is no more asked for.
func (d *draft) modify(m api.Mod) int {
	if _, ok := match.Canon(m.Type); !ok {
		return api.UndefinedType
	}
	v := d.of(m.Type)
	switch m.Kind {
	case api.MAdd:
		return v.add(m.Vals)
	case api.MDel:
		return v.del(m.Vals)
	case api.MRep:
		*v = *newValues(v.typ, m.Vals)
		return api.Success
	}
	return api.ProtocolError
}

// renamed makes of an entry that has a Key one whose name has another first part.
func renamed(e api.Entry, part api.Rdn, old bool) api.Entry {
	parts, _ := dn.Parse(e.Dn)
	was := parts[0]
	parts[0] = part
	d := &draft{from: api.Entry{Dn: dn.Text(parts), Attrs: e.Attrs}}
	if old && !sameParts(was, part) {
		d.of(was.Type).drop(was.Val)
	}
	if v := d.of(part.Type); !v.hasLike(part.Val) {
		v.put(part.Val)
	}
	return d.entry()
}

// sameParts tells whether the types are one, whatever their letters, and the values alike in it.
func sameParts(a, b api.Rdn) bool {
	typ, _ := match.Canon(a.Type)
	other, _ := match.Canon(b.Type)
	return typ == other && match.Same(typ, a.Val, b.Val)
}
