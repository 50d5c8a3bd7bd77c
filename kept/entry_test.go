package kept_test

import (
	"fmt"
	"regexp"
	"slices"
	"strings"
	"testing"

	"brook/api"
	"brook/ber"
	"brook/kept"
)

// entries are some, of which most may not stand in a tree.
func entries() []api.Entry {
	every := ""
	for i := range 256 {
		every += string([]byte{byte(i)})
	}
	return append(company(),
		api.Entry{}, en("x"), en("", ""), en("", ":"), en("", "::"), en("", ":|"), en("", "q"), en("", "q:"), en("", ":v"), en("o=x", "", "", ""), en("o=x", ":||", "", ":"), en("o=x", "o"), en("o=x", "o:", "o:x|x", "O:X"), en("no name", "b:1|2", "a:", "b"),
		en(every, every), api.Entry{Dn: every, Attrs: []api.Attr{{Type: every, Vals: []string{every, "", every}}, {Vals: []string{"\xff\xfe", "\x00", "0\x041"}}}},
		en(strings.Repeat("n", 127), strings.Repeat("t", 128)+":"+strings.Repeat("v", 65536)), en("o=x", strings.Repeat("|", 300)), en("o=x", slices.Repeat([]string{"o:x", "o"}, 200)...),
	)
}

func leaf(tag int, s string) api.Tlv { return api.Tlv{Tag: tag, S: s} }

func node(tag int, l ...api.Tlv) api.Tlv { return api.Tlv{Tag: tag, L: l} }

// entryTlv is Entry by the words of 14.1.
func entryTlv(e api.Entry) api.Tlv {
	attrs := node(0x30)
	for _, a := range e.Attrs {
		vals := node(0x31)
		for _, v := range a.Vals {
			vals.L = append(vals.L, leaf(4, v))
		}
		attrs.L = append(attrs.L, node(0x30, leaf(4, a.Type), vals))
	}
	return node(0x30, leaf(4, e.Dn), attrs)
}

// form tells all of a tlv; nil lists and empty ones are one.
func form(t api.Tlv) string {
	s := fmt.Sprintf("(%d:%x:", t.Tag, t.S)
	for _, x := range t.L {
		s += form(x)
	}
	return s + ")"
}

const (
	textForm = `\(4:[0-9a-f]*:\)`
	attrForm = `\(48::` + textForm + `\(49::(` + textForm + `)*\)\)`
)

var entryForm = regexp.MustCompile(`^\(48::` + textForm + `\(48::(` + attrForm + `)*\)\)$`)

// TestEntry: 14.1, the tlv of an entry, whatever it is, and the entry of that.
func TestEntry(t *testing.T) {
	for i, e := range entries() {
		was := fmt.Sprintf("%q", e)
		tlv := kept.Entry(e)
		if form(tlv) != form(entryTlv(e)) || !entryForm.MatchString(form(tlv)) {
			t.Errorf("14.1: Entry %d: %.200s", i, form(tlv))
		}
		for _, x := range []api.Tlv{tlv, entryTlv(e), roomy(tlv)} {
			got, ok := kept.ReadEntry(x)
			if !ok || fmt.Sprintf("%q", got) != was {
				t.Errorf("14.1: ReadEntry %d: %v, %.200q", i, ok, got)
			}
		}
	}
	want := "(48::(4:6f3d78:)(48::(48::(4:6f:)(49::(4:78:)(4::)))(48::(4:71:)(49::))))"
	if got := form(kept.Entry(en("o=x", "o:x|", "q"))); got != want {
		t.Error("14.1: Entry of o=x:", got)
	}
}

// roomy makes t anew with lists that are not nil, and have spare room.
func roomy(t api.Tlv) api.Tlv {
	l := make([]api.Tlv, 0, len(t.L)+3)
	for _, x := range t.L {
		l = append(l, roomy(x))
	}
	return api.Tlv{Tag: t.Tag, S: t.S, L: l}
}

// turned makes of t each tlv in which one part, or t itself, is another one.
func turned(t api.Tlv) []api.Tlv {
	all := []api.Tlv{{}, {Tag: t.Tag}, {Tag: t.Tag, S: t.S + "x", L: t.L}, {Tag: t.Tag, S: "\x00", L: t.L}, {Tag: t.Tag, S: t.S, L: append(slices.Clone(t.L), leaf(4, "x"))}, {Tag: t.Tag, S: t.S, L: append(slices.Clone(t.L), node(0x30))}, {Tag: t.Tag, S: t.S, L: append(slices.Clone(t.L), node(0x31))}, {Tag: t.Tag, S: t.S, L: append(slices.Clone(t.L), leaf(2, "\x01"))}, {Tag: t.Tag, S: t.S, L: append(slices.Clone(t.L), api.Tlv{})}}
	all = append(all, node(0x30, t), node(0x31, t), node(0x30, t, t), node(0x30, leaf(4, ""), t), node(0x30, t, node(0x30)), node(0x30, t, node(0x31)), leaf(4, t.S), leaf(4, ber.Put(t)))
	for _, tag := range []int{-1, 0, 1, 2, 3, 4, 5, 10, 0x24, 0x2f, 0x30, 0x31, 0x32, 0x70, 0xb0, 0x84, 256 + 4, 256 + 0x30} {
		all = append(all, api.Tlv{Tag: tag, S: t.S, L: t.L})
	}
	for i, x := range t.L {
		put := func(l ...api.Tlv) {
			all = append(all, api.Tlv{Tag: t.Tag, S: t.S, L: slices.Concat(t.L[:i], l, t.L[i+1:])})
		}
		put()
		put(x, x)
		put(leaf(4, "x"), x)
		put(node(0x30), x)
		put(x.L...)
		for _, y := range turned(x) {
			put(y)
		}
		for j := range i {
			l := slices.Clone(t.L)
			l[i], l[j] = l[j], l[i]
			all = append(all, api.Tlv{Tag: t.Tag, S: t.S, L: l})
		}
	}
	return all
}

// TestReadEntry: 14.1, tlvs in which one part is another one: of those that are no entry's there is none.
func TestReadEntry(t *testing.T) {
	seen := map[bool]int{}
	for _, e := range []api.Entry{{}, en("x"), en("", ""), en("o=x", "o:x"), en("o=x", "o:x|", "q"), en("", ":|", "", "t:v")} {
		for _, x := range turned(entryTlv(e)) {
			want := entryForm.MatchString(form(x))
			seen[want]++
			got, ok := kept.ReadEntry(x)
			if ok != want || ok && form(entryTlv(got)) != form(x) || !ok && (got.Dn != "" || got.Attrs != nil) {
				t.Errorf("14.1: ReadEntry of %s: %v, %q", form(x), ok, got)
			}
			if ok && !ber.Same(kept.Entry(got), x) {
				t.Errorf("14.1: Entry of ReadEntry of %s: %s", form(x), form(kept.Entry(got)))
			}
		}
	}
	if seen[true] < 50 || seen[false] < 1000 {
		t.Error("the test's own: too few", seen)
	}
}

// TestReadEntryTags: 14.1, each tag at each place.
func TestReadEntryTags(t *testing.T) {
	for place := range 6 {
		for tag := -300; tag <= 600; tag++ {
			x := entryTlv(en("o=x", "o:x"))
			attr := &x.L[1].L[0]
			*[]*int{&x.Tag, &x.L[0].Tag, &x.L[1].Tag, &attr.L[0].Tag, &attr.L[1].Tag, &attr.L[1].L[0].Tag}[place] = tag
			want := tag == []int{0x30, 4, 0x30, 4, 0x31, 4}[place]
			if e, ok := kept.ReadEntry(x); ok != want || !ok && (e.Dn != "" || e.Attrs != nil) {
				t.Errorf("14.1: ReadEntry of %s: %v, %q", form(x), ok, e)
			}
		}
	}
}
