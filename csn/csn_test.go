package csn_test

import (
	"fmt"
	"math"
	"sync"
	"testing"

	"brook/api"
	"brook/csn"
)

// edge is a number, as it is written, and whether it may be an Epoch or an N.
type edge struct {
	n    int
	text string
	may  bool
}

// edges are numbers, rising.
func edges() []edge {
	return []edge{
		{math.MinInt, "-9223372036854775808", false},
		{math.MinInt + 1, "-9223372036854775807", false},
		{-1<<52 - 1, "-4503599627370497", false},
		{-1 << 52, "-4503599627370496", false},
		{-10, "-10", false},
		{-2, "-2", false},
		{-1, "-1", false},
		{0, "0", true},
		{1, "1", true},
		{2, "2", true},
		{9, "9", true},
		{10, "10", true},
		{100, "100", true},
		{101, "101", true},
		{1 << 31, "2147483648", true},
		{1 << 32, "4294967296", true},
		{1<<52 - 1, "4503599627370495", true},
		{1 << 52, "4503599627370496", true},
		{1<<52 + 1, "4503599627370497", false},
		{1 << 53, "9007199254740992", false},
		{45035996273704960, "45035996273704960", false},
		{math.MaxInt - 1, "9223372036854775806", false},
		{math.MaxInt, "9223372036854775807", false},
	}
}

// pairs calls do with each Csn of two edges, in the order that they have among themselves.
func pairs(do func(c api.Csn, epoch, n edge)) {
	for _, epoch := range edges() {
		for _, n := range edges() {
			do(api.Csn{Epoch: epoch.n, N: n.n}, epoch, n)
		}
	}
}

// dice is a small generator: the same numbers in each run.
type dice uint64

func (d *dice) below(n int) int {
	*d = *d*6364136223846793005 + 1442695040888963407
	return int(*d>>11) % n
}

// csn throws one that may be, of numbers of any length.
func (d *dice) csn() api.Csn {
	return api.Csn{Epoch: d.below(1<<52+1) >> d.below(53), N: d.below(1<<52+1) >> d.below(53)}
}

// TestMay: 12.1, Epoch and N from 0 to MaxCsn, each alone and both.
func TestMay(t *testing.T) {
	if api.MaxCsn != 1<<52 {
		t.Fatal("the test's own")
	}
	pairs(func(c api.Csn, epoch, n edge) {
		if csn.May(c) != (epoch.may && n.may) {
			t.Errorf("12.1: May of %s, %s", epoch.text, n.text)
		}
	})
	for d, i := dice(1), 0; i < 1000; i++ {
		c := d.csn()
		below, above := -1-d.below(1<<60), 1<<52+1+d.below(1<<60)
		if !csn.May(c) || csn.May(api.Csn{Epoch: below, N: c.N}) || csn.May(api.Csn{Epoch: c.Epoch, N: below}) || csn.May(api.Csn{Epoch: above, N: c.N}) || csn.May(api.Csn{Epoch: c.Epoch, N: above}) {
			t.Error("12.1: May", c, below, above)
		}
	}
}

// TestCmp: 12.1, by Epoch, then N: whether it may be or not.
func TestCmp(t *testing.T) {
	var l []api.Csn
	pairs(func(c api.Csn, _, _ edge) { l = append(l, c) })
	for i, a := range l {
		for j, b := range l {
			want := 0
			switch {
			case i < j:
				want = -1
			case i > j:
				want = 1
			}
			if got := csn.Cmp(a, b); got != want {
				t.Fatalf("12.1: Cmp of %v, %v: %d", a, b, got)
			}
		}
	}
	for _, c := range []struct {
		a, b api.Csn
		want int
	}{
		{api.Csn{}, api.Csn{}, 0}, {api.Csn{Epoch: 1}, api.Csn{N: 9}, 1}, {api.Csn{Epoch: 3, N: 9}, api.Csn{Epoch: 4, N: 1}, -1}, {api.Csn{Epoch: 4, N: 1}, api.Csn{Epoch: 4, N: 2}, -1}, {api.Csn{Epoch: 4, N: 2}, api.Csn{Epoch: 4, N: 2}, 0}, {api.Csn{Epoch: 10}, api.Csn{Epoch: 9}, 1}, {api.Csn{N: 10}, api.Csn{N: 9}, 1}, {api.Csn{Epoch: 2, N: -1}, api.Csn{Epoch: 2}, -1},
	} {
		if got, back := csn.Cmp(c.a, c.b), csn.Cmp(c.b, c.a); got != c.want || back != -c.want {
			t.Errorf("12.1: Cmp of %v, %v: %d, %d", c.a, c.b, got, back)
		}
	}
}

// TestText: 12.1, Epoch, a dot, N: with one sign, and no noughts ahead, whether it may be or not.
func TestText(t *testing.T) {
	if got := csn.Text(api.Csn{}); got != "0.0" {
		t.Errorf("12, examples: Text of zero: %q", got)
	}
	pairs(func(c api.Csn, epoch, n edge) {
		if got := csn.Text(c); got != epoch.text+"."+n.text {
			t.Errorf("12.1: Text of %s, %s: %q", epoch.text, n.text, got)
		}
	})
	for d, i := dice(2), 0; i < 5000; i++ {
		c := d.csn()
		if got := csn.Text(c); got != fmt.Sprintf("%d.%d", c.Epoch, c.N) {
			t.Errorf("12.1: Text of %v: %q", c, got)
		}
	}
}

// answers are what all calls tell of a few numbers.
func answers(a, b api.Csn) string {
	text := csn.Text(a)
	c, ok := csn.Read(text)
	none, not := csn.Read(text + ".")
	return fmt.Sprint(csn.May(a), csn.Cmp(a, b), text, c, ok, none, not, csn.Next(a, b.Epoch), csn.Next(b, a.Epoch))
}

// TestNothingKept: R1, what is told does not hang on the calls ahead, nor on those at the same time; R3, what was handed in stays.
func TestNothingKept(t *testing.T) {
	type two struct{ a, b api.Csn }
	var l []two
	d := dice(3)
	for range 300 {
		l = append(l, two{d.csn(), d.csn()})
	}
	for _, e := range edges() {
		l = append(l, two{api.Csn{Epoch: e.n}, api.Csn{N: e.n}})
	}
	var want []string
	for _, c := range l {
		was := c
		want = append(want, answers(c.a, c.b))
		if c != was {
			t.Error("R3: what was handed in", was, c)
		}
	}
	for i := len(l) - 1; i >= 0; i-- {
		if got := answers(l[i].a, l[i].b); got != want[i] {
			t.Errorf("R1: asked again: %s, %s", got, want[i])
		}
	}
	var all sync.WaitGroup
	for k := range 8 {
		all.Add(1)
		go func() {
			defer all.Done()
			for i := range l {
				at := (i*(2*k+1) + k) % len(l)
				if got := answers(l[at].a, l[at].b); got != want[at] {
					t.Errorf("R1: asked at once: %s, %s", got, want[at])
				}
			}
		}()
	}
	all.Wait()
}
