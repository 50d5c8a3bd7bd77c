package entry

import (
	"slices"
	"strings"
	"sync/atomic"

	"brook/api"
	"brook/dn"
)

// Norm gives an entry's name and its types their one text, and its attributes their order.
func Norm(e api.Entry) api.Entry {
	m := &maker{attrs: e.Attrs}
	var l []api.Attr
	for m.more() {
		l = append(l, m.next())
	}
	slices.SortStableFunc(l, func(a, b api.Attr) int { return strings.Compare(a.Type, b.Type) })
	return api.Entry{Dn: nameText(e.Dn), Attrs: l}
}

// maker goes through attributes; made counts the norms of them that it has made, and so tells which one is next. It is one call's own: a count for all calls would be kept.
type maker struct {
	attrs []api.Attr
	made  atomic.Int64
}

func (m *maker) more() bool {
	return int(m.made.Load()) < len(m.attrs)
}

// next makes the norm of one more, of which the caller knows that it is there.
func (m *maker) next() api.Attr {
	a := m.attrs[m.made.Add(1)-1]
	return api.Attr{Type: typeName(a.Type), Vals: copyVals(a.Vals)}
}

// nameText makes the one text of the list that a name is; what is no name stays.
func nameText(s string) string {
	l, ok := dn.Parse(s)
	if !ok {
		return strings.Clone(s)
	}
	return dn.Text(l)
}
