package kept_test

import (
	"fmt"
	"strings"

	"brook/api"
)

// en makes an entry of texts: a type, `:`, and values with `|` between; without `:` it has none.
func en(name string, s ...string) api.Entry {
	e := api.Entry{Dn: name}
	for _, x := range s {
		typ, vals, some := strings.Cut(x, ":")
		a := api.Attr{Type: typ}
		if some {
			a.Vals = strings.Split(vals, "|")
		}
		e.Attrs = append(e.Attrs, a)
	}
	return e
}

func org(o string) api.Entry { return en("o="+o, "o:"+o, "objectclass:organization") }

func unit(ou, up string) api.Entry {
	return en("ou="+ou+","+up, "objectclass:organizationalunit", "ou:"+ou)
}

func person(cn, up string) api.Entry {
	return en("cn="+cn+","+up, "cn:"+cn, "objectclass:person", "sn:S")
}

func list(l ...api.Entry) []api.Entry { return l }

func changes(l ...api.Delta) []api.Delta { return l }

func at(epoch, n int) api.Csn { return api.Csn{Epoch: epoch, N: n} }

func in(epoch, n int, e api.Entry) api.Delta { return api.Delta{Csn: at(epoch, n), Entry: e} }

func out(epoch, n int, key string) api.Delta { return api.Delta{Csn: at(epoch, n), Gone: key} }

func moved(epoch, n int, key string, e api.Entry) api.Delta {
	return api.Delta{Csn: at(epoch, n), Gone: key, Entry: e}
}

// row makes n deltas behind a number, in one epoch.
func row(epoch, behind, n int) []api.Delta {
	var l []api.Delta
	for i := range n {
		l = append(l, out(epoch, behind+i+1, "o=x"))
	}
	return l
}

// company is a tree of two that have none above them, units and people below one of them.
func company() []api.Entry {
	return list(person("Ann", "ou=a,o=x"), person("Bob", "ou=A,O=x"), org("x"), org("y"), unit("a", "o=x"), unit("b", "o=x"))
}

// whole tells all of a record; nil lists and empty ones are one.
func whole(r api.Record) string {
	s := fmt.Sprint(r.Kind, r.Epoch, r.Lead, r.Parent, r.Reload, r.From, r.To, r.Csn, r.N)
	for _, l := range [][]api.Delta{{r.Delta}, r.Deltas} {
		s += fmt.Sprint(" ", len(l), " deltas")
		for _, d := range l {
			s += fmt.Sprintf(" %d %q %q;", d.Csn, d.Gone, d.Entry)
		}
	}
	return s + fmt.Sprintf(" %q", r.Tree)
}

// short is whole, but of what is long its beginning alone.
func short(r api.Record) string { return fmt.Sprintf("%.300s", whole(r)) }

// records are some that may be, of each kind.
func records() []api.Record {
	deltas := func(l ...api.Delta) []api.Record {
		var all []api.Record
		for _, d := range l {
			all = append(all, api.Record{Kind: api.KDelta, Delta: d})
		}
		return all
	}
	l := deltas(
		in(1, 5, org("x")), in(0, 1, unit("a", "o=none")), out(2, 7, "ou=a,o=x"), moved(300, 128, "o=w", org("x")), out(1<<52, 1<<52, `o=\,`),
		in(3, 127, en("o=x", "description:\x00|\xff|a,b", "o:x|y", "objectclass:TOP|Organization")), moved(127, 1<<31, "cn=ann lee,o=x", person("Ann  Lee", "o=x")),
		in(1, 1, en("o=x", "description:"+strings.Repeat("d", 100)+"|"+strings.Repeat("e", 30), "o:x", "objectclass:organization")),
	)
	for _, meta := range []api.Record{
		{}, {Epoch: 300, Lead: true, Parent: -1, From: 5, To: 24}, {Epoch: 1 << 52, Parent: 7, Reload: true}, {Epoch: 127, From: 24}, {Epoch: 128, Lead: true, Parent: 1, Reload: true, From: 1, To: 2}, {Parent: -1},
	} {
		meta.Kind = api.KMeta
		l = append(l, meta)
	}
	l = append(l,
		api.Record{Kind: api.KFull}, api.Record{Kind: api.KFull, Csn: at(3, 9), Tree: list(org("x"))}, api.Record{Kind: api.KFull, Csn: at(0, 256), Deltas: row(0, 256, 3)},
		api.Record{Kind: api.KFull, Csn: at(1, 4), Deltas: changes(in(1, 5, org("x")), moved(2, 6, "o=y", unit("a", "o=x")), out(2, 7, "ou=a,o=x")), Tree: list(org("x"))},
		api.Record{Kind: api.KFull, Csn: at(1<<52, 1<<52), Tree: company()},
	)
	for _, n := range []int{0, 1, 5, 127, 128, 255, 256, 32767, 32768, 1 << 31, 1<<52 - 1, 1 << 52} {
		l = append(l, api.Record{Kind: api.KPurge, N: n})
	}
	return l
}
