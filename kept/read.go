package kept

import (
	"strings"

	"brook/api"
	"brook/ber"
)

// readRecord tells the record that t says. Of what says none it tells some record, whose bytes are others: who calls it asks that.
func readRecord(t api.Tlv) api.Record {
	p := &parts{left: t.L}
	r := api.Record{Kind: p.num()}
	switch r.Kind {
	case api.KDelta:
		r.Delta = readDelta(p.next())
	case api.KMeta:
		r.Epoch = p.num()
		r.Parent = p.num()
		r.From = p.num()
		r.To = p.num()
		r.Lead = p.flag()
		r.Reload = p.flag()
	case api.KFull:
		r.Csn = p.csn()
		r.Deltas = readAll(p.next(), readDelta)
		r.Tree = readAll(p.next(), readSome)
	case api.KPurge:
		r.N = p.num()
	}
	return r
}

func readDelta(t api.Tlv) api.Delta {
	p := &parts{left: t.L}
	d := api.Delta{Csn: p.csn()}
	d.Gone = p.next().S
	d.Entry = readSome(p.next())
	return d
}

// readSome tells the entry that t says, or the zero one.
func readSome(t api.Tlv) api.Entry {
	e, _ := ReadEntry(t)
	return e
}

func readAll[T any](t api.Tlv, one func(api.Tlv) T) []T {
	var l []T
	for _, x := range t.L {
		l = append(l, one(x))
	}
	return l
}

// parts are those of a list that are not read yet. What is not there, or is not of the kind asked for, is told as some value of that kind.
type parts struct {
	left []api.Tlv
}

func (p *parts) next() api.Tlv {
	if len(p.left) == 0 {
		return api.Tlv{}
	}
	t := p.left[0]
	p.left = p.left[1:]
	return t
}

func (p *parts) num() int {
	n, _ := ber.ReadInt(p.next().S)
	return n
}

func (p *parts) csn() api.Csn {
	c := api.Csn{Epoch: p.num()}
	c.N = p.num()
	return c
}

func (p *parts) flag() bool {
	return p.next().S == yes
}

// readAttr tells the attribute whose tlv t is; false: there is none.
func readAttr(t api.Tlv) (api.Attr, bool) {
	typ, l, ok := readNamed(t, setTag)
	if !ok {
		return api.Attr{}, false
	}
	var vals []string
	for _, x := range l {
		if !isText(x) {
			return api.Attr{}, false
		}
		vals = append(vals, strings.Clone(x.S))
	}
	return api.Attr{Type: typ, Vals: vals}, true
}

// readNamed tells the two parts of t: a text, and what stands in a list of a tag; false: it has others.
func readNamed(t api.Tlv, tag int) (name string, l []api.Tlv, ok bool) {
	if !isList(t, listTag) || len(t.L) != 2 || !isText(t.L[0]) || !isList(t.L[1], tag) {
		return "", nil, false
	}
	return strings.Clone(t.L[0].S), t.L[1].L, true
}

func isList(t api.Tlv, tag int) bool {
	return t.Tag == tag && t.S == ""
}

func isText(t api.Tlv) bool {
	return t.Tag == textTag && len(t.L) == 0
}
