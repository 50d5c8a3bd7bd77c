package change_test

import (
	"slices"
	"strings"
	"testing"

	"brook/api"
	"brook/change"
	"brook/dn"
	"brook/entry"
	"brook/match"
	"brook/schema"
)

// The document's words, one behind another, each on an entry of its own, and trees gone through.

// placeOf is where the entry of a key stands; -1: there is none.
func placeOf(l []api.Entry, key string) int {
	return slices.IndexFunc(l, func(e api.Entry) bool { k, _ := dn.Key(e.Dn); return k == key })
}

func wantedAdd(l []api.Entry, e api.Entry) (api.Delta, int) {
	if code := schema.Check(e); code != api.Success {
		return api.Delta{}, code
	}
	key, _ := dn.Key(e.Dn)
	parts, _ := dn.Parse(key)
	switch {
	case placeOf(l, key) >= 0:
		return api.Delta{}, api.EntryExists
	case len(parts) > 1 && placeOf(l, dn.Text(parts[1:])) < 0:
		return api.Delta{}, api.NoObject
	case len(l) == api.MaxEntries:
		return api.Delta{}, api.Unwilling
	}
	return api.Delta{Entry: entry.Norm(e)}, api.Success
}

// wantedPlace is where the entry of a name stands, and its key, or a code: of those that have kids, too, if asked for.
func wantedPlace(l []api.Entry, name string, leaf bool) (int, string, int) {
	key, ok := dn.Key(name)
	if !ok || key == "" {
		return 0, "", api.BadDn
	}
	at := placeOf(l, key)
	if at < 0 {
		return 0, "", api.NoObject
	}
	for _, e := range l {
		if k, _ := dn.Key(e.Dn); leaf && k != key && dn.Under(k, key) {
			return 0, "", api.NotLeaf
		}
	}
	return at, key, api.Success
}

func wantedDelete(l []api.Entry, name string) (api.Delta, int) {
	_, key, code := wantedPlace(l, name, true)
	return api.Delta{Gone: key}, code
}

// likeIn tells whether one of values is like val.
func likeIn(typ string, vals []string, val string) bool {
	return slices.ContainsFunc(vals, func(v string) bool { return match.Same(typ, v, val) })
}

func wantedMod(e api.Entry, m api.Mod) (api.Entry, int) {
	if match.Rule(m.Type) == 0 {
		return e, api.UndefinedType
	}
	have := entry.Vals(e, m.Type)
	switch m.Kind {
	case api.MAdd:
		for _, val := range m.Vals {
			if _, ok := match.Norm(m.Type, val); !ok {
				return e, api.BadSyntax
			}
		}
		for i, val := range m.Vals {
			if entry.Has(e, m.Type, val) || likeIn(m.Type, m.Vals[:i], val) {
				return e, api.ValueExists
			}
		}
		if len(m.Vals) == 0 {
			return e, api.Constraint
		}
		return entry.Set(e, m.Type, slices.Concat(have, m.Vals)...), api.Success
	case api.MDel:
		if len(have) == 0 {
			return e, api.NoAttribute
		}
		for _, val := range m.Vals {
			if !likeIn(m.Type, have, val) {
				return e, api.NoAttribute
			}
		}
		left := slices.DeleteFunc(have, func(v string) bool { return len(m.Vals) == 0 || likeIn(m.Type, m.Vals, v) })
		return entry.Set(e, m.Type, left...), api.Success
	case api.MRep:
		return entry.Set(e, m.Type, m.Vals...), api.Success
	}
	return e, api.ProtocolError
}

func wantedModify(l []api.Entry, name string, mods ...api.Mod) (api.Delta, int) {
	at, _, code := wantedPlace(l, name, false)
	if code != api.Success {
		return api.Delta{}, code
	}
	e := l[at]
	for _, m := range mods {
		if e, code = wantedMod(e, m); code != api.Success {
			return api.Delta{}, code
		}
	}
	parts, _ := dn.Parse(e.Dn)
	if !likeIn(parts[0].Type, entry.Vals(e, parts[0].Type), parts[0].Val) {
		return api.Delta{}, api.NotOnRdn
	}
	return api.Delta{Entry: e}, schema.Check(e)
}

func wantedRename(l []api.Entry, name, rdn string, old bool) (api.Delta, int) {
	part, ok := dn.Parse(rdn)
	if !ok || len(part) != 1 {
		return api.Delta{}, api.BadDn
	}
	at, key, code := wantedPlace(l, name, true)
	if code != api.Success {
		return api.Delta{}, code
	}
	e := l[at]
	parts, _ := dn.Parse(e.Dn)
	was, is := parts[0], part[0]
	e.Dn = dn.Text(slices.Concat(part, parts[1:]))
	if old && !(strings.EqualFold(was.Type, is.Type) && match.Same(is.Type, was.Val, is.Val)) {
		left := slices.DeleteFunc(entry.Vals(e, was.Type), func(v string) bool { return match.Same(was.Type, v, was.Val) })
		e = entry.Set(e, was.Type, left...)
	}
	if !entry.Has(e, is.Type, is.Val) {
		e = entry.Set(e, is.Type, append(entry.Vals(e, is.Type), is.Val)...)
	}
	other, ok := dn.Key(e.Dn)
	if ok && other != key && placeOf(l, other) >= 0 {
		return api.Delta{}, api.EntryExists
	}
	return api.Delta{Gone: key, Entry: entry.Norm(e)}, schema.Check(e)
}

// dice is a small generator: the same numbers in each run.
type dice uint32

func (d *dice) below(n int) int {
	*d = *d*1664525 + 1013904223
	return int(*d>>8) % n
}

func (d *dice) of(l ...string) string { return l[d.below(len(l))] }

// typ throws one, in letters of whatever case; now and then one that is none.
func (d *dice) typ() string {
	return d.of("cn", "CN", "sn", "o", "O", "ou", "Ou", "description", "description", "Description", "uid", "uidNumber", "userPassword", "userpassword", "member", "mail", "objectclass", "objectClass", d.of("cn", "dc", ""))
}

// val throws one of few of a type, so that they are often alike, now and then one that has no norm.
func (d *dice) val(typ string) string {
	if d.below(30) == 0 {
		return d.of("", " ", "\x00", strings.Repeat("y", api.MaxVal+1))
	}
	switch strings.ToLower(typ) {
	case "objectclass":
		return d.of("person", "organization", "organizationalUnit", "inetOrgPerson", "posix", "top", "Top", "groupofnames")
	case "uidnumber":
		return d.of("1", "2", "-1", "01")
	case "member":
		return d.of("cn=a", "CN=A", "cn=a,o=b", "cn=B", "a")
	}
	return d.of("a", "A", "b", " b", "c", "a  b", "A b", ",", "é", "d")
}

// rdn throws a first part; now and then what is none.
func (d *dice) rdn() string {
	if d.below(20) == 0 {
		return d.of("", "a", "cn=", `cn=\20`, "cn=a,o=b", "dc=a", "o=a")
	}
	typ := d.of("cn", "cn", "Cn", "o", "ou", "OU", "uid", "sn", "description", "userpassword", "uidnumber")
	return dn.Text([]api.Rdn{{Type: typ, Val: d.val(typ)}})
}

// name throws one of a tree, in other letters, or one below it, or none.
func (d *dice) name(l []api.Entry) string {
	name := d.rdn()
	if len(l) > 0 && d.below(3) > 0 {
		name = l[d.below(len(l))].Dn
	}
	switch d.below(6) {
	case 0:
		return strings.ToUpper(name)
	case 1:
		return d.rdn() + "," + name
	}
	return name
}

// entry throws one that Check has often nothing against.
func (d *dice) entry(l []api.Entry) api.Entry {
	typ := d.of("cn", "sn", "o", "ou", "OU")
	val := d.val(typ)
	e := api.Entry{Dn: dn.Text([]api.Rdn{{Type: typ, Val: val}})}
	if up := d.name(l); d.below(3) > 0 {
		e.Dn += "," + up
	}
	add := func(typ string, vals ...string) {
		e.Attrs = slices.Insert(e.Attrs, d.below(len(e.Attrs)+1), api.Attr{Type: typ, Vals: vals})
	}
	add(typ, val)
	class := map[string]string{"o": "organization", "ou": "organizationalUnit", "OU": "organizationalUnit"}[typ]
	if class == "" {
		class = d.of("person", "inetorgperson")
		add(d.of("sn", "cn"), d.val("sn"))
	}
	if d.below(10) > 0 {
		add(d.of("objectclass", "objectClass"), class)
	}
	if d.below(4) == 0 {
		typ := d.typ()
		add(typ, d.val(typ), d.val(typ))
	}
	return e
}

// mods throws some that often leave an entry that may be.
func (d *dice) mods() []api.Mod {
	var l []api.Mod
	for range d.below(5) {
		m := api.Mod{Kind: d.below(3) + 1, Type: d.typ()}
		if d.below(2) == 0 {
			m.Type = "Description"
		}
		for range d.below(4) {
			m.Vals = append(m.Vals, d.val(m.Type))
		}
		if d.below(60) == 0 {
			m.Kind = d.below(7) - 3
		}
		l = append(l, m)
	}
	return l
}

// ask throws a call, tells what came of it and what is wanted, and which call it was.
func (d *dice) ask(l []api.Entry) (which string, got, want api.Delta, code, wantCode int) {
	old, name := d.below(2) == 0, d.name(l)
	switch n := d.below(10); {
	case n < 3:
		e := d.entry(l)
		got, code = change.Add(l, e)
		want, wantCode = wantedAdd(l, e)
		return "Add", got, want, code, wantCode
	case n < 4:
		got, code = change.Delete(l, name)
		want, wantCode = wantedDelete(l, name)
		return "Delete", got, want, code, wantCode
	case n < 8:
		mods := d.mods()
		got, code = change.Modify(l, name, mods...)
		want, wantCode = wantedModify(l, name, mods...)
		return "Modify", got, want, code, wantCode
	}
	rdn := d.rdn()
	got, code = change.Rename(l, name, rdn, old)
	want, wantCode = wantedRename(l, name, rdn, old)
	return "Rename", got, want, code, wantCode
}

// TestThrown: 9.1 to 9.4, of trees that grow out of nothing by changes that are thrown: what is told is what the document's words say, done by other means, and a tree that may be is one behind each change.
func TestThrown(t *testing.T) {
	d := dice(9)
	seen := map[string]map[int]int{"Add": {}, "Delete": {}, "Modify": {}, "Rename": {}}
	for range 150 {
		var l []api.Entry
		for step := range 200 {
			was := text(l)
			which, got, want, code, wantCode := d.ask(l)
			if wantCode != api.Success {
				want = api.Delta{}
			}
			if told(got, code) != told(want, wantCode) || text(l) != was {
				t.Fatalf("9: %s, step %d, of %s: %s; not %s", which, step, was, told(got, code), told(want, wantCode))
			}
			seen[which][code]++
			if code == api.Success {
				l = behind(t, l, got)
			}
		}
	}
	for which, codes := range map[string][]int{
		"Add":    {api.Success, api.BadDn, api.Constraint, api.UndefinedType, api.ValueExists, api.BadSyntax, api.BadClass, api.EntryExists, api.NoObject},
		"Delete": {api.Success, api.BadDn, api.NoObject, api.NotLeaf},
		"Modify": {api.Success, api.BadDn, api.NoObject, api.UndefinedType, api.BadSyntax, api.ValueExists, api.Constraint, api.NoAttribute, api.ProtocolError, api.NotOnRdn, api.BadClass},
		"Rename": {api.Success, api.BadDn, api.NoObject, api.NotLeaf, api.EntryExists, api.UndefinedType, api.BadSyntax, api.BadClass},
	} {
		for _, code := range codes {
			if seen[which][code] < 3 {
				t.Errorf("the test's own: %s: %d came %d times", which, code, seen[which][code])
			}
		}
	}
	if seen["Modify"][api.Success] < 500 || seen["Rename"][api.Success] < 200 {
		t.Error("the test's own: too few", seen)
	}
}
