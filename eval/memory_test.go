package eval_test

import (
	"fmt"
	"slices"
	"strings"
	"sync"
	"testing"

	"brook/api"
	"brook/eval"
)

// roomy makes a filter and an entry whose lists have spare room, in which something stands; whole tells all of both.
func roomy() (f api.Filter, e api.Entry, whole func() string) {
	parts := []string{"A", "N", "", "spare", "spare"}
	inner := []api.Filter{{Kind: api.FSub, Type: "CN", Parts: parts[:3]}, leaf(api.FEq, "Sn", " S "), leaf(api.FHas, "spare", "")}
	kids := []api.Filter{of(api.FNot, no), of(api.FOr, inner[:2]...), leaf(api.FGe, "CN", "AN"), leaf(api.FLe, "uidNumber", "9"), leaf(api.FHas, "spare", "x")}
	vals := []string{"Ann  Lee", " ", "B", "spare"}
	attrs := []api.Attr{{Type: "SN", Vals: []string{"s", "a"}}, {Type: "Cn", Vals: vals[:3]}, {Type: "uidNumber", Vals: []string{"x", "5"}}, {Type: "spare", Vals: []string{"spare"}}}
	whole = func() string { return fmt.Sprintf("%q %#v %#v %q %q", parts, inner, kids, vals, attrs) }
	return of(api.FAnd, kids[:4]...), api.Entry{Dn: "CN=Ann  Lee,O=x", Attrs: attrs[:3]}, whole
}

// TestHandedIn: R3, what is handed in stays, the room behind it, too; R1, nothing of it is remembered.
func TestHandedIn(t *testing.T) {
	f, e, whole := roomy()
	was := whole()
	bad := of(api.FOr, append(slices.Clone(f.Kids), leaf(api.FHas, "1", ""))...)
	for range 3 {
		if eval.Eval(f, e) != api.True || eval.Eval(of(api.FNot, f), e) != api.False || eval.Eval(bad, e) != api.Undefined || eval.Eval(f, api.Entry{}) != api.False {
			t.Error("7.1: of one with room")
		}
		if whole() != was {
			t.Fatal("R3: what was handed in", whole())
		}
	}
	// The same memory, with other values in it.
	e.Attrs[0].Vals[0], e.Attrs[1].Vals[0] = "t", "Cnn"
	if eval.Eval(f, e) != api.False {
		t.Error("R1: of another entry in the same memory")
	}
	f.Kids[1].Kids[1].Val = "T"
	if eval.Eval(f, e) != api.True {
		t.Error("R1: of another filter in the same memory")
	}
	f.Kids[1].Kids[1].Type = "dc"
	if eval.Eval(f, e) != api.Undefined {
		t.Error("R1: of another type in the same memory")
	}
	e.Attrs = e.Attrs[:1]
	if eval.Eval(f, e) != api.False {
		t.Error("R1: of fewer attributes in the same memory")
	}
}

// TestAtOnce: R1, R5: what is told is the same, whoever asks ahead or at once.
func TestAtOnce(t *testing.T) {
	f, e, _ := roomy()
	right := make([]bool, 16)
	var done sync.WaitGroup
	for i := range right {
		done.Go(func() {
			ok := true
			for n := range 300 {
				list := []int{n % 3, i % 3, n / 3 % 3}
				ok = ok && eval.Eval(f, e) == api.True && eval.Eval(of(api.FAnd, kidsOf(list)...), sample) == wantedAnd(list) && eval.Eval(of(api.FOr, kidsOf(list)...), sample) == wantedOr(list)
				ok = ok && eval.Eval(leaf(api.FEq, "uidnumber", fmt.Sprint(n)), en(fmt.Sprint("uidnumber:", n, "|", i))) == api.True
			}
			right[i] = ok
		})
	}
	done.Wait()
	for i, ok := range right {
		if !ok {
			t.Error("7.1: at once", i)
		}
	}
}

// TestEnds: R1, long texts and lists end in no long time.
func TestEnds(t *testing.T) {
	const n = 1 << 22
	asked := []api.Filter{leaf(api.FHas, "cn", ""), leaf(api.FEq, "cn", "a"), leaf(api.FGe, "cn", "\x00"), leaf(api.FLe, "cn", "z"), sub("cn", "a", "a", ""), sub("cn", "", " ", "a"), leaf(api.FEq, "member", "o=a"), leaf(api.FLe, "uidnumber", "1")}
	for _, s := range []string{"a", "A", " ", "a ", "o=a,", `\`, "1", "\xff"} {
		text := strings.Repeat(s, n)
		e := api.Entry{Dn: text, Attrs: []api.Attr{{Type: text, Vals: []string{text}}, {Type: "cn", Vals: []string{text}}, {Type: "member", Vals: []string{text}}, {Type: "uidnumber", Vals: []string{text}}}}
		for i, f := range asked {
			want := api.False
			if f.Kind == api.FHas {
				want = api.True
			}
			if v := eval.Eval(f, e); v != want {
				t.Errorf("7.1: %d of long %q: %s", i, s, names[v])
			}
		}
		for i, f := range []api.Filter{leaf(api.FHas, text, ""), leaf(api.FEq, "cn", text), leaf(api.FGe, text, text), leaf(api.FLe, "cn", text), sub("cn", text, text), sub("cn", "", text, ""), of(api.FOr, yes, leaf(api.FEq, "cn", text)), {Kind: 77, Type: text, Val: text, Parts: []string{text}}} {
			if v := eval.Eval(f, e); v != api.Undefined {
				t.Errorf("7.1: %d, long %q: %s", i, s, names[v])
			}
		}
	}
	many := api.Entry{Attrs: slices.Repeat([]api.Attr{{Type: "SN"}}, 1<<18)}
	many.Attrs = append(many.Attrs, api.Attr{Type: "cn", Vals: append(slices.Repeat([]string{"aab"}, 1<<18), "aac")})
	for i, f := range []api.Filter{leaf(api.FHas, "cn", ""), leaf(api.FEq, "cn", "AAC"), leaf(api.FGe, "cn", "aabb"), leaf(api.FLe, "cn", "aabb"), sub("cn", "a", "a", "C")} {
		if v := eval.Eval(f, many); v != api.True {
			t.Errorf("7.1: %d of many: %s", i, names[v])
		}
	}
	wide := leaf(api.FEq, "cn", "x")
	for _, kind := range []int{api.FAnd, api.FOr, api.FAnd} {
		wide = of(kind, slices.Repeat([]api.Filter{wide}, api.MaxVals)...)
	}
	if eval.Eval(wide, sample) != api.False || eval.Eval(wide, en("cn:X")) != api.True || eval.Eval(of(api.FOr, slices.Repeat([]api.Filter{yes}, 1<<20)...), sample) != api.Undefined {
		t.Error("7.1: of very many")
	}
}

// TestHardParts: R1, Parts that nearly stand at each place end in no long time.
func TestHardParts(t *testing.T) {
	vals := slices.Repeat([]string{strings.Repeat("a", api.MaxVal)}, 1<<14)
	e := api.Entry{Attrs: []api.Attr{{Type: "cn", Vals: vals}}}
	part := strings.Repeat("a", 12)
	if v := eval.Eval(sub("cn", part, part, part, part+"b", part, part, part, part), e); v != api.False {
		t.Error("7.1: of parts that nearly stand", names[v])
	}
	if v := eval.Eval(sub("cn", part, part, part, part, part, part, part, part), e); v != api.True {
		t.Error("7.1: of parts that stand beside one another", names[v])
	}
}
