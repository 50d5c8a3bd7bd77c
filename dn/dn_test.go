package dn_test

import (
	"slices"
	"strings"
	"testing"

	"brook/api"
	"brook/dn"
)

// rdns makes a list of a type, a value, a type, a value, ..
func rdns(s ...string) []api.Rdn {
	var l []api.Rdn
	for i := 0; i+1 < len(s); i += 2 {
		l = append(l, api.Rdn{Type: s[i], Val: s[i+1]})
	}
	return l
}

func times(n int, r api.Rdn) []api.Rdn { return slices.Repeat([]api.Rdn{r}, n) }

// dice is a small generator: the same numbers in each run.
type dice uint32

func (d *dice) below(n int) int {
	*d = *d*1664525 + 1013904223
	return int(*d>>8) % n
}

// text throws one of at most n bytes, each of them one of those of a text, or, where that is empty, any.
func (d *dice) text(n int, of string) string {
	b := make([]byte, d.below(n+1))
	for i := range b {
		b[i] = byte(d.below(256))
		if of != "" {
			b[i] = of[d.below(len(of))]
		}
	}
	return string(b)
}

// list throws one that may be.
func (d *dice) list() []api.Rdn {
	var l []api.Rdn
	for range d.below(api.MaxRdns + 1) {
		val := d.text(10, "  #,+\"\\<>;=aB2c\x1f~\x7f\xff")
		if val == "" {
			val = "x" + d.text(10, "")
		}
		l = append(l, api.Rdn{Type: "aZ"[d.below(2):][:1] + d.text(5, "abXYZ019-"), Val: val})
	}
	return l
}

// TestFold: 2.1.
func TestFold(t *testing.T) {
	for s, want := range map[string]string{
		"": "", " ": "", "  ": "", "     ": "", "a": "a", "A": "a", " a": "a", "a ": "a", " a ": "a", "   a   ": "a",
		"a b": "a b", "a  b": "a b", "a   b": "a b", "A B  C   D": "a b c d", "  A   B  ": "a b", "a b ": "a b", " a b": "a b",
		"AZaz": "azaz", "MixED": "mixed", "@[`{": "@[`{", "09-#,=\\": "09-#,=\\",
		"\tA\n": "\ta\n", "a\t\tb": "a\t\tb", " \t ": "\t", "a \t b": "a \t b", "\x00\x1f": "\x00\x1f", "a\xa0\xa0": "a\xa0\xa0", "\u00a0A": "\u00a0a", "\u2003": "\u2003",
		"\xc4\xe4": "\xc4\xe4", "ÄÖ": "ÄÖ", "\xff A": "\xff a", "\u212a": "\u212a", "İ": "İ",
	} {
		if x := dn.Fold(s); x != want {
			t.Errorf("2.1: Fold of %q: %q", s, x)
		}
	}
	for c := range 256 {
		s := string([]byte{byte(c)})
		want := s
		switch {
		case c == ' ':
			want = ""
		case c >= 'A' && c <= 'Z':
			want = string([]byte{byte(c + 32)})
		}
		if dn.Fold(s) != want || dn.Fold("x"+s+s+"y") != "x"+want+want+"y" && c != ' ' {
			t.Errorf("2.1: Fold of %q", s)
		}
	}
}

// TestFoldAgain: 2.1, of short texts: no blank ahead, behind, or in a row is left; all other bytes are there, in their order.
func TestFoldAgain(t *testing.T) {
	each("", " aA\t", 7, func(s string) {
		x := dn.Fold(s)
		if x != dn.Fold(x) || x != dn.Fold(" "+s+"  ") || strings.Trim(x, " ") != x || strings.Contains(x, "  ") {
			t.Errorf("2.1: Fold of %q: %q", s, x)
		}
		if strings.ReplaceAll(x, " ", "") != strings.ReplaceAll(strings.ReplaceAll(s, "A", "a"), " ", "") {
			t.Errorf("2.1: Fold of %q: %q", s, x)
		}
		words := strings.FieldsFunc(x, func(c rune) bool { return c == ' ' })
		if len(words) != len(strings.FieldsFunc(s, func(c rune) bool { return c == ' ' })) || strings.Join(words, " ") != x {
			t.Errorf("2.1: Fold of %q: %q", s, x)
		}
	})
}

// each goes through all texts that s and at most n bytes behind it are.
func each(s, bytes string, n int, f func(s string)) {
	f(s)
	if n == 0 {
		return
	}
	for i := range len(bytes) {
		each(s+bytes[i:i+1], bytes, n-1, f)
	}
}

// TestMay: 2.1, the limits, and one beyond each.
func TestMay(t *testing.T) {
	one := api.Rdn{Type: "o", Val: "x"}
	longType, longVal := strings.Repeat("t", api.MaxType), strings.Repeat("v", api.MaxVal)
	for i, c := range []struct {
		l    []api.Rdn
		want bool
	}{
		{nil, true}, {[]api.Rdn{}, true}, {times(1, one), true}, {times(api.MaxRdns-1, one), true}, {times(api.MaxRdns, one), true}, {times(api.MaxRdns+1, one), false}, {times(1<<16, one), false},
		{rdns(longType, "x"), true}, {rdns(longType+"t", "x"), false}, {rdns(longType[1:]+"-", "x"), true}, {rdns(strings.Repeat("t", 1<<16), "x"), false},
		{rdns("o", longVal), true}, {rdns("o", longVal+"v"), false}, {rdns("o", longVal[1:]+"\x00"), true}, {rdns("o", strings.Repeat(",", api.MaxVal)), true}, {rdns("o", strings.Repeat("é", api.MaxVal/2)), true}, {rdns("o", strings.Repeat("é", api.MaxVal/2)+"v"), false}, {rdns("o", strings.Repeat(" ", api.MaxVal)), true}, {rdns("o", strings.Repeat(" ", api.MaxVal+1)), false},
		{times(api.MaxRdns, api.Rdn{Type: longType, Val: longVal}), true},
		{rdns("", "x"), false}, {rdns("o", ""), false}, {rdns("", ""), false}, {rdns("o", " "), true}, {rdns("o", "#"), true},
		{rdns("a-", "x"), true}, {rdns("a--1", "x"), true}, {rdns("-a", "x"), false}, {rdns("1a", "x"), false}, {rdns("1", "x"), false}, {rdns("-", "x"), false}, {rdns("a1", "x"), true}, {rdns("2.5.4.3", "x"), false}, {rdns("o ", "x"), false}, {rdns(" o", "x"), false},
		// The first that may not be is not the only one that is looked at.
		{append(times(7, one), api.Rdn{Type: "1", Val: "x"}), false}, {append(times(7, one), api.Rdn{Type: "o"}), false}, {append(rdns("", "x"), one), false}, {append(rdns("o", ""), one), false}, {rdns("o", "x", "", "x", "o", "x"), false},
	} {
		if dn.May(c.l) != c.want {
			t.Error("2.1: May", i)
		}
	}
}

// TestMayBytes: 2.1, each byte, as a type's first and further on; of a value any may be.
func TestMayBytes(t *testing.T) {
	for c := range 256 {
		s := string([]byte{byte(c)})
		letter := c >= 'A' && c <= 'Z' || c >= 'a' && c <= 'z'
		more := letter || c >= '0' && c <= '9' || c == '-'
		if dn.May(rdns(s, "x")) != letter || dn.May(rdns(s+"a", "x")) != letter {
			t.Errorf("2.1: a type's first byte %q", s)
		}
		if dn.May(rdns("a"+s, "x")) != more || dn.May(rdns("a"+s+"b", "x")) != more || dn.May(rdns(strings.Repeat("a", 29)+s, "x")) != more {
			t.Errorf("2.1: a type's byte %q", s)
		}
		if !dn.May(rdns("o", s)) || !dn.May(rdns("o", s+s+s)) {
			t.Errorf("2.1: a value's byte %q", s)
		}
	}
}

// TestUp: 2.3, of keys and of any texts.
func TestUp(t *testing.T) {
	for s, want := range map[string]string{
		"": "", "o=x": "", "cn=a,o=x": "o=x", "a=1,b=2,c=3": "b=2,c=3", "cn=a=b,o=x": "o=x",
		`cn=a\,b`: "", `cn=a\,b,o=x`: "o=x", `cn=a\\,o=x`: "o=x", `cn=a\\\,b,o=x`: "o=x", `cn=\\\\,o=x`: "o=x", `cn=\,\,,o=\,`: `o=\,`, `cn=\2c,o=x`: "o=x", `cn=a,o=\\`: `o=\\`,
		",": "", ",,": ",", ",a": "a", "a,": "", ",,,": ",,", "a": "", " , ": " ", "Cn=A , O=x": " O=x", "\x00,\xff": "\xff", "é,é": "é",
		`\`: "", `\\`: "", `\,`: "", `\,,`: "", `\,,a`: "a", `\\,a`: "a", `\\\,a`: "", `a\`: "", `a,\`: `\`, `,\,`: `\,`, `\a,b`: "b", `\` + "\xff,b": "b",
	} {
		if x := dn.Up(s); x != want {
			t.Errorf("2.3: Up of %q: %q", s, x)
		}
	}
}

// TestUnder: 2.3, of keys and of any texts.
func TestUnder(t *testing.T) {
	for i, c := range []struct {
		a, b string
		want bool
	}{
		{"", "", true}, {"o=x", "", true}, {"cn=a,o=x", "", true}, {"", "o=x", false},
		{"o=x", "o=x", true}, {"o=x", "o=y", false}, {"cn=a,o=x", "o=x", true}, {"cn=a,o=x", "o=y", false}, {"o=x", "cn=a,o=x", false}, {"cn=b,cn=a,o=x", "cn=a,o=x", true}, {"cn=b,cn=a,o=x", "o=x", true}, {"cn=b,cn=a,o=x", "cn=b,o=x", false}, {"cn=b,cn=a,o=x", "cn=b,cn=a", false}, {"cn=b,cn=a,o=x", "cn=b", false}, {"cn=b,cn=a,o=x", "cn=a", false},
		{"cn=a,o=xx", "o=x", false}, {"cn=a,oo=x", "o=x", false}, {"cn=ao=x", "o=x", false}, {"cn=a,o=x", "x", false}, {"cn=a,o=x", ",o=x", false}, {"cn=a,o=x", "a,o=x", false},
		{`cn=a\,o=x`, "o=x", false}, {`cn=a\\,o=x`, "o=x", true}, {`cn=a\\\,o=x`, "o=x", false}, {`cn=a\,b,o=x`, "o=x", true}, {`cn=a\,b,o=x`, "b,o=x", false}, {`cn=a,o=\\`, `o=\\`, true}, {`cn=a,o=\\`, `\`, false},
		{"CN=A,O=X", "O=X", true}, {"cn=a,o=x", "O=X", false}, {"cn=a,o=x", "o=x ", false}, {"cn=a, o=x", "o=x", false},
		{",", "", true}, {",", ",", true}, {",,", ",", true}, {",", ",,", false}, {"a,", "", true}, {",a", "a", true}, {"a,b,", ",", false}, {`\`, "", true}, {`\`, `\`, true}, {`a,\`, `\`, true}, {`\,a`, "a", false}, {`\,a`, "", true}, {`\\,a`, "a", true}, {"\xff,\xfe", "\xfe", true}, {"a", "b", false}, {"a", "aa", false},
	} {
		if dn.Under(c.a, c.b) != c.want {
			t.Error("2.3: Under", i)
		}
	}
}

// TestUpByWords: 2.3, of all short texts, by another way: what is above a text, and what it is under.
func TestUpByWords(t *testing.T) {
	var all []string
	each("", `,\a`, 5, func(s string) { all = append(all, s) })
	for _, s := range all {
		// Two bytes that count as one are laid aside, of the same length, so that places stay.
		aside := ""
		for rest := s; rest != ""; {
			n := 1
			if rest[0] == '\\' {
				n = min(2, len(rest))
			}
			if rest[:n] == "," {
				aside += ","
			} else {
				aside += "zz"[:n]
			}
			rest = rest[n:]
		}
		want := s[len(s)-len(strings.Join(strings.Split(aside, ",")[1:], ",")):]
		if up := dn.Up(s); up != want {
			t.Errorf("2.3: Up of %q: %q", s, up)
		}
		above := []string{s}
		for x := s; x != ""; {
			x = dn.Up(x)
			above = append(above, x)
		}
		for _, b := range all {
			if dn.Under(s, b) != slices.Contains(above, b) {
				t.Errorf("2.3: Under of %q, %q", s, b)
			}
		}
	}
}

// TestEnds: R1, long texts end in no long time.
func TestEnds(t *testing.T) {
	const n = 1 << 22
	for _, s := range []string{strings.Repeat(",", n), strings.Repeat(`\`, n), strings.Repeat("a,", n), strings.Repeat("o=x,", n), strings.Repeat(" ", n), strings.Repeat("o", n), "o=" + strings.Repeat("x", n), "o=" + strings.Repeat(`\,`, n), "o=" + strings.Repeat(`\41`, n), "\x00" + strings.Repeat(",", n) + "o=x"} {
		if l, ok := dn.Parse(s); ok || l != nil {
			t.Errorf("2.2: Parse of long %q", s[:5])
		}
		if key, ok := dn.Key(s); ok || key != "" {
			t.Errorf("2.3: Key of long %q", s[:5])
		}
		if !dn.Under(s, "") || !dn.Under(s, s) || dn.Under(s, "o=y") || len(dn.Up(s)) >= len(s) || len(dn.Fold(s)) > len(s) {
			t.Errorf("2.3: long %q", s[:5])
		}
	}
}
