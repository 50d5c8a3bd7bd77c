package kept

import (
	"strings"
	"sync/atomic"

	"brook/api"
	"brook/ber"
)

// maker makes tlvs; made counts the bytes of their texts and numbers, and so tells when there are more than one record can have. It is one call's own: a count for all calls would be kept.
type maker struct {
	made atomic.Int64
}

// full tells whether nothing more can stand beside what was made.
func (m *maker) full() bool {
	return m.made.Load() > api.MaxSize
}

// record makes the tlv of a record that may be. Of one that is too large it makes a beginning that is too large, too.
func (m *maker) record(r api.Record) api.Tlv {
	kind := m.num(r.Kind)
	switch r.Kind {
	case api.KDelta:
		return list(kind, m.delta(r.Delta))
	case api.KMeta:
		return list(kind, m.num(r.Epoch), m.num(r.Parent), m.num(r.From), m.num(r.To), m.flag(r.Lead), m.flag(r.Reload))
	case api.KFull:
		return list(kind, m.num(r.Csn.Epoch), m.num(r.Csn.N), listOf(m, r.Deltas, m.delta), listOf(m, r.Tree, m.entry))
	}
	return list(kind, m.num(r.N))
}

func (m *maker) delta(d api.Delta) api.Tlv {
	t := list(m.num(d.Csn.Epoch), m.num(d.Csn.N), m.text(d.Gone))
	if !isZero(d.Entry) {
		t.L = append(t.L, m.entry(d.Entry))
	}
	return t
}

func (m *maker) entry(e api.Entry) api.Tlv {
	attrs := api.Tlv{Tag: listTag}
	for _, a := range e.Attrs {
		attrs.L = append(attrs.L, m.attr(a))
	}
	return list(m.text(e.Dn), attrs)
}

func (m *maker) attr(a api.Attr) api.Tlv {
	vals := api.Tlv{Tag: setTag}
	for _, val := range a.Vals {
		vals.L = append(vals.L, m.text(val))
	}
	return list(m.text(a.Type), vals)
}

func (m *maker) num(n int) api.Tlv {
	return m.leaf(numTag, ber.Int(n))
}

func (m *maker) text(s string) api.Tlv {
	// A copy: else the answer would keep in memory all that s was cut from.
	return m.leaf(textTag, strings.Clone(s))
}

func (m *maker) flag(is bool) api.Tlv {
	if is {
		return m.leaf(flagTag, yes)
	}
	return m.leaf(flagTag, no)
}

func (m *maker) leaf(tag int, s string) api.Tlv {
	m.made.Add(int64(len(s)))
	return api.Tlv{Tag: tag, S: s}
}

// listOf makes a list of the tlvs of l, or, where they are too many bytes for any record, of those of its beginning.
func listOf[T any](m *maker, l []T, one func(T) api.Tlv) api.Tlv {
	t := api.Tlv{Tag: listTag}
	for _, x := range l {
		if m.full() {
			break
		}
		t.L = append(t.L, one(x))
	}
	return t
}

func list(l ...api.Tlv) api.Tlv {
	return api.Tlv{Tag: listTag, L: l}
}

// isZero tells whether e is none: a nil list and an empty one are one.
func isZero(e api.Entry) bool {
	return e.Dn == "" && len(e.Attrs) == 0
}
