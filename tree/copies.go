package tree

import (
	"strings"

	"brook/api"
)

// copies makes a list whose entries share no memory with those of l. Texts are copied, too: else it would keep in memory all that they were cut from.
func copies(l []api.Entry) []api.Entry {
	var all []api.Entry
	for _, e := range l {
		all = append(all, api.Entry{Dn: strings.Clone(e.Dn), Attrs: copyAttrs(e.Attrs)})
	}
	return all
}

func copyAttrs(l []api.Attr) []api.Attr {
	var all []api.Attr
	for _, a := range l {
		all = append(all, api.Attr{Type: strings.Clone(a.Type), Vals: copyTexts(a.Vals)})
	}
	return all
}

func copyTexts(l []string) []string {
	var all []string
	for _, s := range l {
		all = append(all, strings.Clone(s))
	}
	return all
}
