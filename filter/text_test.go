package filter_test

import (
	"fmt"
	"regexp"
	"slices"
	"strings"
	"testing"

	"brook/api"
	"brook/filter"
)

// cases are filters and their texts.
var cases = []struct {
	f    api.Filter
	want string
}{
	{has, "(cn=*)"}, {leaf(api.FHas, "CN", ""), "(CN=*)"}, {leaf(api.FHas, "a-", ""), "(a-=*)"}, {leaf(api.FHas, strings.Repeat("t", api.MaxType), ""), "(" + strings.Repeat("t", api.MaxType) + "=*)"},
	{leaf(api.FEq, "cn", "Ann Lee"), "(cn=Ann Lee)"}, {leaf(api.FEq, "o", ""), "(o=)"}, {leaf(api.FEq, "o", " "), "(o= )"}, {leaf(api.FEq, "o", "  a  "), "(o=  a  )"}, {leaf(api.FEq, "o", "="), "(o==)"}, {leaf(api.FEq, "o", "=>x"), "(o==>x)"}, {leaf(api.FEq, "o", ">=x"), "(o=>=x)"}, {leaf(api.FEq, "o", "<"), "(o=<)"}, {leaf(api.FEq, "o", "~"), "(o=~)"}, {leaf(api.FEq, "o", "&|!"), "(o=&|!)"}, {leaf(api.FEq, "o", "cn=a,o=x"), "(o=cn=a,o=x)"}, {leaf(api.FEq, "o", `#+"<>;,`), `(o=#+"<>;,)`},
	{leaf(api.FGe, "uidnumber", "5"), "(uidnumber>=5)"}, {leaf(api.FGe, "o", ""), "(o>=)"}, {leaf(api.FGe, "o", "="), "(o>==)"}, {leaf(api.FGe, "o", "*"), `(o>=\2a)`}, {leaf(api.FLe, "a-1", "~<"), "(a-1<=~<)"}, {leaf(api.FLe, "o", ""), "(o<=)"}, {leaf(api.FLe, "o", ">="), "(o<=>=)"}, {leaf(api.FLe, "o", "*"), `(o<=\2a)`},
	{leaf(api.FEq, "o", "*"), `(o=\2a)`}, {leaf(api.FEq, "o", "a*b"), `(o=a\2ab)`}, {leaf(api.FEq, "o", "()"), `(o=\28\29)`}, {leaf(api.FEq, "o", `\`), `(o=\5c)`}, {leaf(api.FEq, "o", `\2a`), `(o=\5c2a)`}, {leaf(api.FEq, "o", "*()\\\x00\x1f\x7f\xff"), `(o=\2a\28\29\5c\00\1f\7f\ff)`}, {leaf(api.FEq, "o", "é"), `(o=\c3\a9)`}, {leaf(api.FEq, "o", "\t\n"), `(o=\09\0a)`}, {leaf(api.FEq, "o", long), "(o=" + long + ")"}, {leaf(api.FGe, "o", strings.Repeat(")", api.MaxVal)), "(o>=" + strings.Repeat(`\29`, api.MaxVal) + ")"},
	{sub("o", "a", "b"), "(o=a*b)"}, {sub("o", "", "b"), "(o=*b)"}, {sub("o", "a", ""), "(o=a*)"}, {sub("o", "", "x", ""), "(o=*x*)"}, {sub("o", "a", "x", ""), "(o=a*x*)"}, {sub("o", "", "x", "b"), "(o=*x*b)"}, {sub("o", "a", "b", "c", "d", "e", "f", "g", "h"), "(o=a*b*c*d*e*f*g*h)"}, {sub("o", "", "b", "c", "d", "e", "f", "g", ""), "(o=*b*c*d*e*f*g*)"}, {sub("o", "*", "("), `(o=\2a*\28)`}, {sub("o", " ", " ", " "), "(o= * * )"}, {sub("o", "=", ">=", "<="), "(o==*>=*<=)"}, {sub("o", long, long), "(o=" + long + "*" + long + ")"}, {sub("o", `\`, "\x00", "\xff"), `(o=\5c*\00*\ff)`}, {sub("o", "", "*"), `(o=*\2a)`},
	{of(api.FAnd), "(&)"}, {of(api.FOr), "(|)"}, {of(api.FAnd, has), "(&(cn=*))"}, {of(api.FOr, has, leaf(api.FEq, "o", "")), "(|(cn=*)(o=))"}, {of(api.FNot, has), "(!(cn=*))"}, {of(api.FNot, of(api.FAnd)), "(!(&))"}, {of(api.FNot, of(api.FNot, of(api.FOr))), "(!(!(|)))"}, {of(api.FAnd, has, of(api.FOr), of(api.FNot, leaf(api.FEq, "o", "x"))), "(&(cn=*)(|)(!(o=x)))"}, {of(api.FOr, of(api.FAnd), of(api.FOr, of(api.FAnd), of(api.FOr)), of(api.FAnd)), "(|(&)(|(&)(|))(&))"},
	{of(api.FOr, times(api.MaxVals, has)...), "(|" + strings.Repeat("(cn=*)", api.MaxVals) + ")"}, {of(api.FAnd, times(api.MaxVals, of(api.FOr, times(api.MaxVals, of(api.FAnd))...))...), "(&" + strings.Repeat("(|"+strings.Repeat("(&)", api.MaxVals)+")", api.MaxVals) + ")"}, {inside(api.MaxDeep, api.FNot, has), strings.Repeat("(!", api.MaxDeep) + "(cn=*)" + strings.Repeat(")", api.MaxDeep)}, {inside(api.MaxDeep, api.FAnd, of(api.FOr)), strings.Repeat("(&", api.MaxDeep) + "(|)" + strings.Repeat(")", api.MaxDeep)},
}

// TestText: 6.2, 6.3, the text of each kind, and back.
func TestText(t *testing.T) {
	for i, c := range cases {
		was := all(c.f)
		if s := filter.Text(c.f); s != c.want {
			t.Errorf("6.2: Text %d: %q", i, s)
		}
		f, ok := filter.Parse(c.want)
		if !ok || all(f) != was || !filter.Same(f, c.f) {
			t.Errorf("6.3: Parse of %q: %s", c.want, all(f))
		}
		if !filter.May(c.f) || all(c.f) != was {
			t.Errorf("6.1: of %d: %s", i, all(c.f))
		}
		for j, d := range cases {
			if filter.Same(f, d.f) != (i == j) {
				t.Errorf("6.2: Same of %d, %d", i, j)
			}
		}
	}
}

// TestTextBytes: 6.2, each byte of a value, or of a part: whether it stands as it is, or as a mark and two digits; the other way is none.
func TestTextBytes(t *testing.T) {
	for c := range 256 {
		s := string([]byte{byte(c)})
		coded := fmt.Sprintf(`\%02x`, c)
		text, other := s, coded
		if c < 32 || c > 126 || strings.Contains(`*()\`, s) {
			text, other = coded, s
		}
		for _, v := range []struct{ val, good, bad string }{{s, text, other}, {"x" + s, "x" + text, "x" + other}, {s + "x", text + "x", other + "x"}, {"x" + s + "y", "x" + text + "y", "x" + other + "y"}, {s + s + s, text + text + text, text + other + text}} {
			for form, f := range map[string]api.Filter{
				"(o=?)": leaf(api.FEq, "o", v.val), "(o>=?)": leaf(api.FGe, "o", v.val), "(o<=?)": leaf(api.FLe, "o", v.val),
				"(o=?*)": sub("o", v.val, ""), "(o=*?)": sub("o", "", v.val), "(o=*?*)": sub("o", "", v.val, ""), "(o=?*?*?)": sub("o", v.val, v.val, v.val), "(&(!(o=a*b*?*d)))": of(api.FAnd, of(api.FNot, sub("o", "a", "b", v.val, "d"))),
			} {
				good, bad := strings.ReplaceAll(form, "?", v.good), strings.ReplaceAll(form, "?", v.bad)
				if got := filter.Text(f); got != good {
					t.Errorf("6.2: Text of %q in %s: %q", v.val, form, got)
				}
				if g, ok := filter.Parse(good); !ok || all(g) != all(f) {
					t.Errorf("6.3: Parse of %q: %s", good, all(g))
				}
				// A star that stands as it is may make parts.
				if g, ok := filter.Parse(bad); ok && s != "*" || all(g) == all(f) {
					t.Errorf("6.2: Parse of %q: %s", bad, all(g))
				}
			}
		}
	}
}

// TestDigits: 6.2, of a mark and any two bytes behind it, those alone say something that Text writes.
func TestDigits(t *testing.T) {
	written := map[string]string{}
	for c := range 256 {
		if s := string([]byte{byte(c)}); c < 32 || c > 126 || strings.Contains(`*()\`, s) {
			written[fmt.Sprintf("%02x", c)] = s
		}
	}
	for a := range 256 {
		for b := range 256 {
			digits := string([]byte{byte(a), byte(b)})
			c, want := written[digits]
			for text, f := range map[string]api.Filter{"(o=" + `\` + digits + ")": leaf(api.FEq, "o", c), "(o<=x" + `\` + digits + "y)": leaf(api.FLe, "o", "x"+c+"y"), "(o=a*" + `\` + digits + ")": sub("o", "a", c)} {
				g, ok := filter.Parse(text)
				if ok != want || ok && all(g) != all(f) || !ok && all(g) != all(api.Filter{}) {
					t.Errorf("6.2: Parse of %q: %v %s", text, ok, all(g))
				}
			}
		}
	}
}

// TestParseNone: 6.2, texts that no filter has.
func TestParseNone(t *testing.T) {
	half := strings.Repeat("t", api.MaxType)
	for _, s := range []string{
		"", " ", "(", ")", "()", ")(", "(()", "())", "(())", "((cn=*))", "cn=*", "cn=*)", "(cn=*", "(cn)", "(cn*)", "(cn=*))", "((cn=*)", "(cn=*)(cn=*)", "(cn=*)(", "(cn=*) ", " (cn=*)", "( cn=*)", "(cn =*)", "(c n=x)", "(cn=*)\x00", "\x00", "*", "(*)", "=", "(=)", "(=*)", "(=x)", "(>=)", "(<=x)", "(*=x)", "(*=*)", "(1a=x)", "(-a=x)", "(é=x)", "(o.x=x)", "(o;x=x)", "(o:=x)", "(" + half + "t=x)", "(" + half + "t=*)", "(" + half + "t>=x)",
		"(cn>5)", "(cn<5)", "(cn~=x)", "(cn>)", "(cn<)", "(cn=>", "(cn><=x)", "(cn>>=x)", "(cn<>=x)", "(cn!=x)", "(cn:=x)", "(cn=<*x))",
		"(cn>=*)", "(cn<=*)", "(cn>=a*b)", "(cn<=*b)", "(cn=**)", "(cn=***)", "(cn=a**)", "(cn=**b)", "(cn=a**b)", "(cn=a*b**)", "(cn=*a**b*)", "(cn=a*b*c*d*e*f*g*h*i)", "(cn=*b*c*d*e*f*g*h*)", "(cn=a*b*c*d*e*f*g*h*)", "(cn=" + strings.Repeat("*", 8) + ")", "(cn=" + strings.Repeat("a*", 1<<16) + ")",
		"(cn=a(b)", "(cn=a))", "(cn=())", "(cn=a(b))", "(cn=(*)", "(cn=a*(b)", "(cn=a*b))",
		`(o=\)`, `(o=\`, `(o=\2)`, `(o=\2`, `(o=\2a`, `(o=a\)`, `(o=\\)`, `(o=\*)`, `(o=\()`, `(o=\))`, `(o=\2*a)`, `(o=\*2a)`, `(o=*\)`, `(o=*\2)`, `(o=\2A)`, `(o=\5C)`, `(o=\FF)`, `(o=\fF)`, `(o=\Ff)`, `(o=\zz)`, `(o=\g0)`, `(o=\0g)`, `(o=\ 2a)`, `(o=\2 a)`, `(o=\+a)`, `(o=\0x)`, `(o=\x0)`, `(o=\41)`, `(o=\20)`, `(o=\7e)`, `(o=\3d)`, `(o=a*\41)`, `(o=\41*a)`, `(\6f=x)`, `(o\3dx)`, `\28o=x\29`,
		"(o=a\x00)", "(o=\t)", "(o=\n)", "(o=\x1f)", "(o=\x7f)", "(o=\x80)", "(o=\xff)", "(o=é)", "(o=a*\x00)", "(o=\xff*a)", "\ufeff(o=x)",
		"(o=" + long + "v)", "(o>=" + long + "v)", "(o=" + long + `\2a)`, "(o=" + long + "v*)", "(o=*" + long + "v)", "(o=*" + long + "v*)", "(o=" + strings.Repeat(`\2a`, api.MaxVal+1) + ")",
		"(!)", "(!", "(!(cn=*)", "(!cn=*)", "(!(cn=*)(cn=*))", "(!(cn=*)(&))", "(! (cn=*))", "(!(cn=*) )", "(!!(cn=*))", "!(cn=*)", "(!())", "(!(!))", "(!(cn=**))", "!", "(!cn)", "(cn!)",
		"(&", "(|", "(&(", "(&(cn=*)", "(&cn=*)", "(&(cn=*)x)", "(&x(cn=*))", "(&(cn=*)x(o=x))", "(& (cn=*))", "(&(cn=*) )", "(&(cn=*) (o=x))", "( &(cn=*))", "(& )", "(&*)", "(&=x)", "(&)x", "(&))", "((&)", "(&())", "(&)(|)", "(&|(cn=*))", "(&&)", "(||)", "(&(cn=*),(o=x))", "(&(cn=*)(o=\\41))", "(&(o=\\41)(cn=*))", "(&(!))", "(|(&(!)))", "&", "&(cn=*)", "(^)", "(~(cn=*))", "(+)",
		"(&" + strings.Repeat("(cn=*)", api.MaxVals+1) + ")", "(|" + strings.Repeat("(&)", api.MaxVals+1) + ")", "(!(&" + strings.Repeat("(cn=*)", api.MaxVals+1) + "))", "(&" + strings.Repeat("(cn=*)", api.MaxVals-1) + "(o=**))",
		strings.Repeat("(!", 13) + "(cn=*)" + strings.Repeat(")", 13), strings.Repeat("(&", 13) + "(|)" + strings.Repeat(")", 13), strings.Repeat("(|", 14) + strings.Repeat(")", 14), "(&(cn=*)" + strings.Repeat("(&", 12) + "(cn=*)" + strings.Repeat(")", 13), strings.Repeat("(!", 12) + "(cn=*)" + strings.Repeat(")", 11), strings.Repeat("(!", 12) + "(cn=*)" + strings.Repeat(")", 13),
	} {
		if f, ok := filter.Parse(s); ok || all(f) != all(api.Filter{}) || f.Parts != nil || f.Kids != nil {
			t.Errorf("6.2: Parse of %.60q: %v %s", s, ok, all(f))
		}
	}
}

// The forms of 6.2, for a parser of another kind than the package's.
var (
	valByte  = `(?:[ -'+-\[\]-~]|\\(?:[0189a-f][0-9a-f]|2[89a]|5c|7f))`
	leafForm = regexp.MustCompile(`^\(([A-Za-z][A-Za-z0-9-]{0,29})(=|>=|<=)((?:` + valByte + `|\*)*)\)`)
	codeForm = regexp.MustCompile(`\\..`)
	marksOf  = map[byte]int{'&': api.FAnd, '|': api.FOr, '!': api.FNot}
)

// read reads a filter ahead of more, by the forms.
func read(s string) (f api.Filter, rest string, ok bool) {
	if m := leafForm.FindStringSubmatch(s); m != nil {
		f, ok = readLeaf(m[1], m[2], m[3])
		return f, s[len(m[0]):], ok
	}
	if len(s) < 3 || s[0] != '(' || marksOf[s[1]] == 0 {
		return f, s, false
	}
	f, rest = of(marksOf[s[1]]), s[2:]
	for rest != "" && rest[0] != ')' {
		kid, more, ok := read(rest)
		if !ok {
			return f, s, false
		}
		f.Kids, rest = append(f.Kids, kid), more
	}
	ok = rest != "" && len(f.Kids) <= api.MaxVals && (f.Kind != api.FNot || len(f.Kids) == 1)
	return f, strings.TrimPrefix(rest, ")"), ok
}

func readLeaf(typ, sign, text string) (api.Filter, bool) {
	parts := strings.Split(text, "*")
	tooLong := false
	for i, part := range parts {
		parts[i] = codeForm.ReplaceAllStringFunc(part, func(code string) string {
			var c int
			fmt.Sscanf(code[1:], "%x", &c)
			return string([]byte{byte(c)})
		})
		tooLong = tooLong || len(parts[i]) > api.MaxVal
	}
	switch {
	case tooLong:
		return api.Filter{}, false
	case len(parts) == 1:
		return leaf(map[string]int{"=": api.FEq, ">=": api.FGe, "<=": api.FLe}[sign], typ, parts[0]), true
	case sign == "=" && text == "*":
		return leaf(api.FHas, typ, ""), true
	}
	return sub(typ, parts...), sign == "=" && len(parts) <= 8 && !slices.Contains(parts[1:len(parts)-1], "")
}

// asForms holds Parse against the forms: which texts say a filter, and which.
func asForms(t *testing.T, s string) bool {
	t.Helper()
	want, rest, ok := read(s)
	ok = ok && rest == "" && deepOf(want) <= api.MaxDeep
	f, is := filter.Parse(s)
	if is != ok || ok && all(f) != all(want) || !ok && (all(f) != all(api.Filter{})) {
		t.Errorf("6.2: Parse of %.200q: %v %s", s, is, all(f))
	}
	if is && (filter.Text(f) != s || !filter.May(f)) {
		t.Errorf("6.2: Text of Parse of %.200q: %q", s, filter.Text(f))
	}
	return is
}

// each goes through all texts that s and at most n bytes behind it are.
func each(s, bytes string, n int, f func(s string)) {
	f(s)
	if n == 0 {
		return
	}
	for i := range len(bytes) {
		each(s+bytes[i:i+1], bytes, n-1, f)
	}
}

// TestShort: 6.2, all short texts, by the forms.
func TestShort(t *testing.T) {
	good := 0
	see := func(s string) {
		if asForms(t, s) {
			good++
		}
	}
	each("", `(&|!)o=*<>\2aA `, 4, see)
	each("(", `&|!()o=*`, 6, see)
	each("(o", `=<>*\2a)x`, 5, see)
	each("(o=", `*\28a)A`, 6, see)
	each("(!(o=)", `()&!o=`, 5, see)
	each(strings.Repeat("(&", 11), `(&)!o=`, 4, func(s string) {
		see(s + strings.Repeat(")", 11))
		see(s + strings.Repeat(")", 12))
		see(s + strings.Repeat(")", 13))
	})
	if good < 500 {
		t.Error("6.2: few texts say a filter:", good)
	}
}

// TestChanged: 6.2, each text with a byte less, a byte more, another byte: by the forms.
func TestChanged(t *testing.T) {
	var texts []string
	for _, c := range cases {
		if len(c.want) <= 400 {
			texts = append(texts, c.want)
		}
	}
	for _, s := range texts {
		for at := range len(s) + 1 {
			if at < len(s) {
				asForms(t, s[:at])
				asForms(t, s[at:])
				asForms(t, s[:at]+s[at+1:])
			}
			for c := range 256 {
				if len(s) > 60 && !strings.Contains(`()*\=<>&!a2A`, string(rune(c))) {
					continue
				}
				b := string([]byte{byte(c)})
				asForms(t, s[:at]+b+s[at:])
				if at < len(s) {
					asForms(t, s[:at]+b+s[at+1:])
				}
			}
		}
	}
}

// TestThrown: 6.3, Parse of Text is the filter, of filters that are thrown; changed texts by the forms.
func TestThrown(t *testing.T) {
	d := dice(6)
	var last api.Filter
	for range 20000 {
		f := d.filter(5)
		was := all(f)
		s := filter.Text(f)
		g, ok := filter.Parse(s)
		if !ok || all(g) != was || !filter.Same(f, g) || !filter.Same(g, f) || !filter.May(f) {
			t.Fatalf("6.3: of %s: %q, %s", was, s, all(g))
		}
		if all(f) != was {
			t.Fatalf("R3: what was handed in: %s", all(f))
		}
		if filter.Same(f, last) != (all(last) == was) || (filter.Text(last) == s) != (all(last) == was) {
			t.Fatalf("6.2: Same of %s, %s", was, all(last))
		}
		last = f
		at, c := d.below(len(s)), d.of("(", ")", "*", `\`, "=", "&", "!", "a", "2", "A", "x", " ", "\x00", "")
		asForms(t, s[:at]+c+s[at:])
		asForms(t, s[:at]+c+s[at+1:])
		asForms(t, s[:at]+s[d.below(len(s)):])
	}
}
