package filter_test

import (
	"fmt"
	"slices"
	"strings"
	"sync"
	"testing"

	"brook/api"
	"brook/filter"
)

// roomy makes a filter whose lists have spare room, in which something stands.
func roomy() (f api.Filter, whole []api.Filter) {
	parts := []string{"a", "*", "b", "spare", "spare"}
	inner := []api.Filter{leaf(api.FEq, "o", `\(x)`), sub("o", parts[:3]...), leaf(api.FHas, "spare", "")}
	whole = []api.Filter{of(api.FNot, has), of(api.FOr, inner[:2]...), has, leaf(api.FGe, "spare", "x")}
	return of(api.FAnd, whole[:3]...), whole
}

// room tells what stands in a list of filters, in their spare room, too.
func room(l []api.Filter) string {
	s := ""
	for _, f := range l[:cap(l)] {
		s += fmt.Sprintf("%d %q %q %q %d (%s %d); ", f.Kind, f.Type, f.Val, f.Parts[:cap(f.Parts)], len(f.Parts), room(f.Kids), len(f.Kids))
	}
	return s
}

// TestHandedIn: R3, what is handed in stays, the room behind it, too.
func TestHandedIn(t *testing.T) {
	f, whole := roomy()
	other, _ := roomy()
	bad := of(api.FOr, append(slices.Clone(whole), leaf(api.FHas, "1", ""))...)
	was, wasBad := room(whole), room(bad.Kids)
	for range 3 {
		if !filter.May(f) || filter.Text(f) != `(&(!(cn=*))(|(o=\5c\28x\29)(o=a*\2a*b))(cn=*))` || !filter.Same(f, other) || !filter.Same(f, f) {
			t.Error("6.2: of one with room")
		}
		if filter.May(bad) || filter.Text(bad) != "" || filter.Same(f, bad) {
			t.Error("6.2: of one that may not be")
		}
	}
	if room(whole) != was || room(bad.Kids) != wasBad {
		t.Error("R3: what was handed in", room(whole))
	}
}

// spoil writes into all lists of a filter, and into their spare room.
func spoil(f api.Filter) {
	for _, kid := range f.Kids {
		spoil(kid)
	}
	for i := range f.Parts[:cap(f.Parts)] {
		f.Parts[:cap(f.Parts)][i] = "spoilt"
	}
	for i := range f.Kids[:cap(f.Kids)] {
		f.Kids[:cap(f.Kids)][i] = leaf(api.FHas, "spoilt", "")
	}
}

// TestTold: R3, what is told is new memory: whoever writes into it changes nothing else that was told, or is told later.
func TestTold(t *testing.T) {
	for _, c := range cases {
		first, _ := filter.Parse(c.want)
		second, _ := filter.Parse(c.want)
		spoil(first)
		third, ok := filter.Parse(c.want)
		if all(second) != all(c.f) || all(third) != all(c.f) || !ok || filter.Text(c.f) != c.want {
			t.Errorf("R3: of %.60q: %s, %s", c.want, all(second), all(third))
		}
	}
	// What is handed in may be written to behind the call.
	f, _ := roomy()
	s := filter.Text(f)
	was := strings.Clone(s)
	spoil(f)
	if s != was {
		t.Error("R3: a text", s)
	}
}

// placesOf tells where all that lists of f hold stands, in their spare room, too.
func placesOf(f *api.Filter) (parts []*string, kids []*api.Filter) {
	for i := range f.Parts[:cap(f.Parts)] {
		parts = append(parts, &f.Parts[:cap(f.Parts)][i])
	}
	for i := range f.Kids[:cap(f.Kids)] {
		kids = append(kids, &f.Kids[:cap(f.Kids)][i])
	}
	for i := range f.Kids {
		p, k := placesOf(&f.Kids[i])
		parts, kids = append(parts, p...), append(kids, k...)
	}
	return parts, kids
}

// TestLists: R3, no two lists of one answer share memory, spare room too, nor do those of two answers.
func TestLists(t *testing.T) {
	const s = "(&(o=a*b*c)(|(o=*b*)(!(o=a*b*c))(&(cn=*)(cn=x)(o=a*b*c)))(|(o=*b*)(o=*b*)(&)(|(cn=*)(cn=*)(cn=*)))(o=a*b*c))"
	parts, kids := map[*string]bool{}, map[*api.Filter]bool{}
	for range 2 {
		told, ok := filter.Parse(s)
		if !ok {
			t.Fatal("6.2: Parse of", s)
		}
		p, k := placesOf(&told)
		for _, at := range p {
			if parts[at] {
				t.Error("R3: a place of two lists of parts:", *at)
			}
			parts[at] = true
		}
		for _, at := range k {
			if kids[at] {
				t.Error("R3: a place of two lists of filters:", all(*at))
			}
			kids[at] = true
		}
	}
	if len(parts) < 42 || len(kids) < 36 {
		t.Error("R3: so many places:", len(parts), len(kids))
	}
}

// TestAtOnce: R1, R5: what is told is the same, whoever asks ahead or at once.
func TestAtOnce(t *testing.T) {
	f, _ := roomy()
	s := filter.Text(f)
	right := make([]bool, 16)
	var done sync.WaitGroup
	for i := range right {
		done.Go(func() {
			ok := true
			for n := range 300 {
				g, is := filter.Parse(s)
				other := fmt.Sprintf("(|(o=%d)(cn=%d*%d)%s)", n, i, n, strings.Repeat("(&)", n%api.MaxVals))
				h, may := filter.Parse(other)
				_, none := filter.Parse(other + ")")
				ok = ok && is && filter.Same(f, g) && filter.May(f) && filter.Text(f) == s && may == (n%api.MaxVals <= api.MaxVals-2) && (!may || filter.Text(h) == other) && !none
			}
			right[i] = ok
		})
	}
	done.Wait()
	for i, ok := range right {
		if !ok {
			t.Error("6.2: at once", i)
		}
	}
}

// TestEnds: R1, long texts and lists end in no long time.
func TestEnds(t *testing.T) {
	const n = 1 << 22
	for _, s := range []string{
		"(", ")", "(&", "(|", "(!", "()", "(&)", "(o=)", "(&(o=)", "(o", "(o=", "&", "*", `\`, "=", "o", "\x00", "(!(o=", "(&(&)", "(|(o=*)",
	} {
		long := strings.Repeat(s, n)
		for _, text := range []string{long, "(" + long, "(&" + long + ")", "(!" + long + ")", "(o=" + long + ")", "(o=a*" + long + ")", "(o>=" + long + ")", "(" + long + "=x)", "(&" + long + strings.Repeat(")", n), "(&(o=x)" + long} {
			if f, ok := filter.Parse(text); ok || all(f) != all(api.Filter{}) {
				t.Errorf("6.2: Parse of long %q", text[:8])
			}
		}
		for _, f := range []api.Filter{leaf(api.FEq, "o", long), leaf(api.FHas, long, ""), sub("o", long, long), sub("o", "", long, ""), of(api.FAnd, leaf(api.FGe, "o", long))} {
			if filter.May(f) || filter.Text(f) != "" || !filter.Same(f, f) {
				t.Errorf("6.1: of long %q", s)
			}
		}
	}
	many := of(api.FOr, times(1<<20, has)...)
	if filter.May(many) || filter.Text(many) != "" || filter.May(of(api.FNot, many)) || !filter.Same(many, of(api.FOr, times(1<<20, has)...)) {
		t.Error("6.1: of many")
	}
	holding := func(f api.Filter) api.Filter {
		return of(api.FAnd, times(api.MaxVals, of(api.FOr, times(api.MaxVals, of(api.FAnd, times(api.MaxVals, f)...))...))...)
	}
	if wide := holding(sub("o", "(", "", "*")); filter.May(wide) || filter.Text(wide) != "" {
		t.Error("6.1: of very many that may not be")
	}
	wide := holding(sub("o", "(", "x", "*"))
	s := filter.Text(wide)
	if f, ok := filter.Parse(s); !ok || !filter.Same(f, wide) || len(s) < 64000*len(`(o=\28*x*\2a)`) {
		t.Error("6.3: of very many", len(s))
	}
}
