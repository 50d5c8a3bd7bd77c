package hist

import (
	"strings"

	"brook/api"
)

// copies makes a list whose changes share no memory with those of l. Texts are copied, too: else it would keep in memory all that they were cut from.
func copies(l []api.Delta) []api.Delta {
	var all []api.Delta
	for _, d := range l {
		all = append(all, api.Delta{Csn: d.Csn, Gone: strings.Clone(d.Gone), Entry: copyEntry(d.Entry)})
	}
	return all
}

func copyEntry(e api.Entry) api.Entry {
	var attrs []api.Attr
	for _, a := range e.Attrs {
		attrs = append(attrs, api.Attr{Type: strings.Clone(a.Type), Vals: copyTexts(a.Vals)})
	}
	return api.Entry{Dn: strings.Clone(e.Dn), Attrs: attrs}
}

func copyTexts(l []string) []string {
	var all []string
	for _, s := range l {
		all = append(all, strings.Clone(s))
	}
	return all
}
