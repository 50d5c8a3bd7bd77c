package eval_test

import (
	"fmt"
	"slices"
	"strings"
	"testing"

	"brook/api"
	"brook/eval"
	"brook/filter"
)

func leaf(kind int, typ, val string) api.Filter { return api.Filter{Kind: kind, Type: typ, Val: val} }

func sub(typ string, parts ...string) api.Filter {
	return api.Filter{Kind: api.FSub, Type: typ, Parts: parts}
}

func of(kind int, kids ...api.Filter) api.Filter { return api.Filter{Kind: kind, Kids: kids} }

// inside puts f into n others, one in another.
func inside(n, kind int, f api.Filter) api.Filter {
	for range n {
		f = of(kind, f)
	}
	return f
}

// en makes an entry of texts: a type, `:`, and values with `|` between; without `:` it has none.
func en(s ...string) api.Entry {
	e := api.Entry{Dn: "cn=a"}
	for _, x := range s {
		typ, vals, some := strings.Cut(x, ":")
		a := api.Attr{Type: typ}
		if some {
			a.Vals = strings.Split(vals, "|")
		}
		e.Attrs = append(e.Attrs, a)
	}
	return e
}

// small makes letters A to Z small, and leaves other bytes.
func small(s string) string {
	for c := byte('A'); c <= 'Z'; c++ {
		s = strings.ReplaceAll(s, string([]byte{c}), string([]byte{c + 'a' - 'A'}))
	}
	return s
}

var (
	rules = map[string]int{
		"objectclass": api.RText, "cn": api.RText, "sn": api.RText, "o": api.RText, "ou": api.RText, "uid": api.RText, "mail": api.RText, "description": api.RText, "uidnumber": api.RInt, "member": api.RDn, "userpassword": api.RBytes,
	}
	names = map[int]string{api.False: "False", api.True: "True", api.Undefined: "Undefined"}
	not   = map[int]int{api.False: api.True, api.True: api.False, api.Undefined: api.Undefined}
	long  = strings.Repeat("v", api.MaxVal)

	// sample has cn alone, so these have each truth.
	sample           = en("cn:ann")
	yes, no, unknown = leaf(api.FHas, "cn", ""), leaf(api.FHas, "o", ""), leaf(api.FHas, "dc", "")
	truths           = []api.Filter{api.False: no, api.True: yes, api.Undefined: unknown}
)

// is asks Eval, of f and of what holds f.
func is(t *testing.T, f api.Filter, e api.Entry, want int) {
	t.Helper()
	for _, c := range []struct {
		f    api.Filter
		want int
	}{
		{f, want}, {of(api.FNot, f), not[want]}, {of(api.FNot, of(api.FNot, f)), want}, {of(api.FAnd, f), want}, {of(api.FOr, f), want}, {of(api.FAnd, of(api.FAnd), f), want}, {of(api.FOr, f, of(api.FOr)), want},
	} {
		if got := eval.Eval(c.f, e); got != c.want {
			t.Errorf("7.1: %.300q: %s of %.300q", fmt.Sprint(c.f), names[got], e)
		}
	}
}

// TestMayNot: 7.1, a filter that may not be is Undefined, whatever stands beside what may not be.
func TestMayNot(t *testing.T) {
	e := en("cn:ann", "o:x", "1:x", "a b:x", ":x", "uidnumber:5", strings.Repeat("t", api.MaxType+1)+":x")
	bad := []api.Filter{
		{}, {Kind: -1}, {Kind: api.FHas + 1}, {Kind: 99}, {Type: "cn"}, {Kind: 99, Type: "cn"}, {Kind: -8, Type: "cn", Val: "ann"}, {Kind: api.FHas + 256, Type: "cn"}, {Kind: api.FEq + 1<<32, Type: "cn", Val: "ann"},
		of(api.FNot), of(api.FNot, yes, yes), of(api.FNot, no, no), of(api.FNot, no, yes),
		of(api.FOr, slices.Repeat([]api.Filter{yes}, api.MaxVals+1)...), of(api.FAnd, slices.Repeat([]api.Filter{no}, api.MaxVals+1)...),
		{Kind: api.FAnd, Type: "cn"}, {Kind: api.FOr, Val: "x", Kids: []api.Filter{yes}}, {Kind: api.FNot, Type: "cn", Kids: []api.Filter{no}}, {Kind: api.FAnd, Parts: []string{"x"}}, {Kind: api.FNot, Parts: []string{""}, Kids: []api.Filter{no}},
		leaf(api.FHas, "", ""), leaf(api.FHas, "1", ""), leaf(api.FHas, "a b", ""), leaf(api.FHas, "cn ", ""), leaf(api.FHas, " cn", ""), leaf(api.FHas, "c_n", ""), leaf(api.FHas, "cn", "ann"), leaf(api.FHas, strings.Repeat("t", api.MaxType+1), ""), leaf(api.FHas, "\u017fn", ""),
		leaf(api.FEq, "", "x"), leaf(api.FEq, "1", "x"), leaf(api.FEq, "cn", long+"v"), leaf(api.FGe, "cn", long+"v"), leaf(api.FLe, "cn", strings.Repeat("v", 1<<16)),
		{Kind: api.FEq, Type: "cn", Val: "ann", Parts: []string{"x"}}, {Kind: api.FGe, Type: "cn", Val: "a", Parts: []string{""}}, {Kind: api.FLe, Type: "cn", Val: "z", Kids: []api.Filter{yes}}, {Kind: api.FHas, Type: "cn", Kids: []api.Filter{yes}}, {Kind: api.FHas, Type: "cn", Parts: []string{"", ""}}, {Kind: api.FSub, Type: "cn", Val: "ann", Parts: []string{"a", ""}}, {Kind: api.FSub, Type: "cn", Parts: []string{"a", ""}, Kids: []api.Filter{{}}},
		sub("cn"), sub("cn", ""), sub("cn", "ann"), sub("cn", "", ""), sub("cn", "a", "", "n"), sub("cn", "", "", ""), sub("cn", "a", "n", "", "n", ""), sub("", "a", ""), sub("cn", slices.Repeat([]string{"n"}, 9)...), sub("cn", "a", long+"v"), sub("cn", long+"v", ""),
		inside(api.MaxDeep+1, api.FAnd, yes), inside(api.MaxDeep+1, api.FOr, no), inside(api.MaxDeep+1, api.FNot, yes), inside(1<<16-2, api.FOr, of(api.FAnd)),
	}
	for i, f := range bad {
		if filter.May(f) {
			t.Fatal("the test's own", i)
		}
		for _, e := range []api.Entry{e, {}, sample} {
			for _, g := range []api.Filter{
				f, of(api.FNot, f), of(api.FAnd, f), of(api.FOr, f),
				// Each of these would be False, or True, of its other Kids alone.
				of(api.FAnd, no, f), of(api.FAnd, f, no), of(api.FAnd, of(api.FOr), f), of(api.FOr, yes, f), of(api.FOr, f, yes), of(api.FOr, of(api.FAnd), f), of(api.FNot, of(api.FOr, of(api.FAnd), f)), of(api.FOr, of(api.FAnd), of(api.FAnd, of(api.FOr), of(api.FNot, f))),
			} {
				if v := eval.Eval(g, e); v != api.Undefined {
					t.Errorf("7.1: of one that may not be, %d: %s", i, names[v])
				}
			}
		}
	}
	for n := range api.MaxDeep + 3 {
		for _, kind := range []int{api.FAnd, api.FOr, api.FNot} {
			for v, f := range truths {
				want := v
				if kind == api.FNot && n%2 == 1 {
					want = not[v]
				}
				if n > api.MaxDeep {
					want = api.Undefined
				}
				if got := eval.Eval(inside(n, kind, f), sample); got != want {
					t.Errorf("7.1: kind %d of %s, so deep: %d: %s", kind, names[v], n, names[got])
				}
			}
		}
	}
}

// TestTypes: 7.1, of what is no type all is Undefined, if the entry has it, too; of what is one, in letters of whatever case, nothing is.
func TestTypes(t *testing.T) {
	for _, typ := range []string{"dc", "DC", "c", "cnn", "cn-", "u", "uidnumbe", "uidnumbers", "member-", "objectclasse", "person", "k", strings.Repeat("t", api.MaxType)} {
		for _, e := range []api.Entry{en(typ + ":z"), en(typ, typ+":z"), en(typ+":z|5|o=x", "cn:z"), en("cn:z", "o:z"), {}} {
			for _, f := range []api.Filter{leaf(api.FHas, typ, ""), leaf(api.FEq, typ, "z"), leaf(api.FEq, typ, ""), leaf(api.FGe, typ, "z"), leaf(api.FLe, typ, "z"), leaf(api.FGe, typ, "5"), sub(typ, "z", ""), sub(typ, "", "z"), sub(typ, "", "z", "")} {
				is(t, f, e, api.Undefined)
			}
		}
	}
	for typ, rule := range rules {
		val := map[int]string{api.RText: "v", api.RInt: "5", api.RDn: "o=v", api.RBytes: "v"}[rule]
		ordered, parted := api.Undefined, api.Undefined
		if rule == api.RText || rule == api.RInt {
			ordered = api.True
		}
		if rule == api.RText {
			parted = api.True
		}
		for _, asked := range []string{typ, strings.ToUpper(typ), strings.ToUpper(typ[:1]) + typ[1:]} {
			for _, has := range []string{typ, strings.ToUpper(typ), typ[:1] + strings.ToUpper(typ[1:])} {
				e := en("dc:q", has+":"+val, typ+":none")
				is(t, leaf(api.FHas, asked, ""), e, api.True)
				is(t, leaf(api.FEq, asked, val), e, api.True)
				is(t, leaf(api.FGe, asked, val), e, ordered)
				is(t, leaf(api.FLe, asked, val), e, ordered)
				is(t, sub(asked, val, ""), e, parted)
			}
			for _, e := range []api.Entry{{}, en("dc:" + val), en(typ), en(typ, strings.ToUpper(typ)+":"+val)} {
				is(t, leaf(api.FHas, asked, ""), e, api.False)
				is(t, leaf(api.FEq, asked, val), e, api.False)
				is(t, leaf(api.FGe, asked, val), e, notTrue(ordered))
				is(t, leaf(api.FLe, asked, val), e, notTrue(ordered))
				is(t, sub(asked, val, ""), e, notTrue(parted))
			}
		}
	}
}

// notTrue turns True into False, and leaves Undefined.
func notTrue(v int) int {
	if v == api.Undefined {
		return v
	}
	return api.False
}

// TestHas: 7.1, FHas asks for some values of the first attribute of the type, of whatever texts.
func TestHas(t *testing.T) {
	for _, c := range []struct {
		e    api.Entry
		typ  string
		want int
	}{
		{en("cn:ann"), "cn", api.True}, {en("CN:ann"), "cN", api.True}, {en("sn:s", "cn:a|b"), "cn", api.True}, {en("cn:ann"), "sn", api.False}, {en("cn:ann"), "o", api.False}, {en("o:x"), "ou", api.False}, {en("ou:x"), "o", api.False}, {en("uid:x"), "uidnumber", api.False}, {en("uidnumber:1"), "uid", api.False},
		// Those without values have none, though the next one of the type has some.
		{en("mail"), "mail", api.False}, {en("mail", "mail:m"), "mail", api.False}, {en("MAIL", "mail:m"), "mail", api.False}, {en("mail:m", "mail"), "mail", api.True},
		{api.Entry{Attrs: []api.Attr{{Type: "mail", Vals: []string{}}}}, "mail", api.False}, {api.Entry{}, "cn", api.False}, {api.Entry{Dn: "cn=ann"}, "cn", api.False},
		// Values without a Norm are values.
		{en("cn:"), "cn", api.True}, {en("cn: "), "cn", api.True}, {en("uidnumber:07"), "uidnumber", api.True}, {en("uidnumber:x"), "uidnumber", api.True}, {en("member:x"), "member", api.True}, {en("userpassword:"), "userpassword", api.True}, {en("o:" + long + "v"), "o", api.True},
	} {
		is(t, leaf(api.FHas, c.typ, ""), c.e, c.want)
	}
}

// TestEq: 7.1, FEq is Undefined of a Val without a Norm, else says whether the entry has a value like it.
func TestEq(t *testing.T) {
	e := en("cn:Ann  Lee|b|"+long+"| ", "dc:z", "uidNumber:07|15|-5", `member:CN=A,o=\ B|x`, "userpassword:Pw| x|", "sn:one", "SN:two", "mail", "mail:m", "o:"+long+"v")
	for _, c := range []struct {
		typ, val string
		want     int
	}{
		{"cn", "ann lee", api.True}, {"CN", "  ANN   LEE ", api.True}, {"cn", "B", api.True}, {"cn", " b ", api.True}, {"cn", long, api.True}, {"cn", strings.ToUpper(long), api.True}, {"sn", "ONE", api.True},
		{"cn", "ann", api.False}, {"cn", "annlee", api.False}, {"cn", "ann\tlee", api.False}, {"cn", long[1:], api.False}, {"cn", "*", api.False}, {"sn", "two", api.False}, {"mail", "m", api.False}, {"ou", "x", api.False}, {"o", long, api.False}, {"cn", "\u017f", api.False},
		{"cn", "", api.Undefined}, {"cn", " ", api.Undefined}, {"cn", strings.Repeat(" ", api.MaxVal), api.Undefined}, {"ou", "", api.Undefined}, {"mail", "  ", api.Undefined},
		{"uidnumber", "15", api.True}, {"uidNumber", "-5", api.True}, {"uidnumber", "7", api.False}, {"uidnumber", "5", api.False}, {"uidnumber", "0", api.False}, {"uidnumber", "999999999999999", api.False}, {"uidnumber", "-999999999999999", api.False},
		{"uidnumber", "07", api.Undefined}, {"uidnumber", "-0", api.Undefined}, {"uidnumber", "+15", api.Undefined}, {"uidnumber", " 15", api.Undefined}, {"uidnumber", "x", api.Undefined}, {"uidnumber", "", api.Undefined}, {"uidnumber", "1000000000000000", api.Undefined},
		{"member", "cn=a,O=b", api.True}, {"member", `CN=\41,o=\ b`, api.True}, {"member", "cn=a", api.False}, {"member", "o=b", api.False}, {"member", "x", api.Undefined}, {"member", "cn=a,o= b", api.Undefined}, {"member", "", api.Undefined}, {"member", "cn=a,", api.Undefined}, {"member", `cn=\20`, api.Undefined},
		{"userpassword", "Pw", api.True}, {"userpassword", " x", api.True}, {"userPassword", "pw", api.False}, {"userpassword", "x", api.False}, {"userpassword", " ", api.False}, {"userpassword", "", api.Undefined},
	} {
		is(t, leaf(api.FEq, c.typ, c.val), e, c.want)
	}
}

// TestOrder: 7.1, FGe and FLe of texts, of numbers, of what has no order; values without an order are passed over.
func TestOrder(t *testing.T) {
	const f, y, u = api.False, api.True, api.Undefined
	e := en("cn: |Bea  T||d", "sn:one", "SN:zoe|a", "uidnumber:x|9|07|-3", "member:cn=b", "userpassword:b", "dc:b", "mail", "mail:b", "o: |"+long+"v", "ou:b", "description:b c|\xff", "uid:07|9")
	for _, c := range []struct {
		typ, val string
		ge, le   int
	}{
		{"cn", "bea t", y, y}, {"CN", " BEA   T ", y, y}, {"cn", "a", y, f}, {"cn", "bea", y, f}, {"cn", "bea s", y, f}, {"cn", "bea  t", y, y}, {"cn", "bea t\x00", y, y}, {"cn", "c", y, y}, {"cn", "D", y, y}, {"cn", "d\x00", f, y}, {"cn", "e", f, y}, {"cn", "Z", f, y}, {"cn", "\x00", y, f}, {"cn", "\xff", f, y}, {"cn", long, f, y},
		// A text is held against others by its letters made small, byte by byte.
		{"ou", "A", y, f}, {"ou", "C", f, y}, {"ou", "_", y, f}, {"ou", "B", y, y}, {"ou", "~", f, y}, {"description", "b  b", y, f}, {"description", "\xfe", y, y}, {"description", "b", y, f},
		{"uid", "10", y, y}, {"uid", "07", y, y}, {"uid", "7", y, y}, {"uid", "0", y, f}, {"uid", "91", f, y},
		{"uidnumber", "9", y, y}, {"uidnumber", "10", f, y}, {"uidnumber", "8", y, y}, {"uidnumber", "7", y, y}, {"uidnumber", "-3", y, y}, {"uidnumber", "-4", y, f}, {"uidnumber", "-2", y, y}, {"uidnumber", "-20", y, f}, {"uidnumber", "0", y, y}, {"uidnumber", "100", f, y}, {"uidnumber", "999999999999999", f, y}, {"uidnumber", "-999999999999999", y, f},
		// Only the first attribute of a type counts; of no values with an order none is.
		{"sn", "one", y, y}, {"sn", "ona", y, f}, {"sn", "onf", f, y}, {"sn", "z", f, y}, {"sn", "a", y, f}, {"mail", "b", f, f}, {"mail", "a", f, f}, {"o", "a", f, f}, {"o", "z", f, f}, {"objectclass", "a", f, f},
		{"cn", "", u, u}, {"cn", " ", u, u}, {"objectclass", "", u, u}, {"objectclass", "  ", u, u}, {"uidnumber", "07", u, u}, {"uidnumber", "-0", u, u}, {"uidnumber", "x", u, u}, {"uidnumber", "", u, u}, {"uidnumber", "1000000000000000", u, u},
		{"member", "cn=b", u, u}, {"member", "cn=a", u, u}, {"member", "x", u, u}, {"userpassword", "b", u, u}, {"userpassword", "a", u, u}, {"userpassword", "", u, u}, {"dc", "b", u, u}, {"dc", "a", u, u},
	} {
		is(t, leaf(api.FGe, c.typ, c.val), e, c.ge)
		is(t, leaf(api.FLe, c.typ, c.val), e, c.le)
		is(t, leaf(api.FGe, c.typ, c.val), api.Entry{}, notTrue(c.ge))
		is(t, leaf(api.FLe, c.typ, c.val), api.Entry{}, notTrue(c.le))
	}
}

// TestOrderNumbers: 7.1, of one number each says which is below.
func TestOrderNumbers(t *testing.T) {
	numbers := []string{"-999999999999999", "-100", "-99", "-10", "-9", "-1", "0", "1", "2", "9", "10", "11", "99", "100", "999999999999999"}
	for i, has := range numbers {
		for j, asked := range numbers {
			ge, le := api.False, api.False
			if i >= j {
				ge = api.True
			}
			if i <= j {
				le = api.True
			}
			e := en("uidNumber:07||" + has)
			is(t, leaf(api.FGe, "uidnumber", asked), e, ge)
			is(t, leaf(api.FLe, "uidnumber", asked), e, le)
		}
	}
}

// TestSub: 7.1, Parts at the beginning, at the end, between, in order, none reaching into another one. A text of a case: the value, `:`, and Parts with `*` between.
func TestSub(t *testing.T) {
	for s, want := range map[string]bool{
		// The first, and the last.
		"ann:a*": true, "ann:ann*": true, "ann:an*": true, "ann:n*": false, "ann:nn*": false, "ann:annn*": false, "ann:*n": true, "ann:*nn": true, "ann:*ann": true, "ann:*a": false, "ann:*an": false, "ann:*aann": false, "ann:a*n": true, "ann:an*n": true, "ann:a*nn": true, "ann:n*n": false, "ann:a*a": false, "a:a*": true, "a:*a": true, "b:a*": false,
		// Neither reaches into the other one.
		"a:a*a": false, "aa:a*a": true, "aba:ab*ba": false, "abba:ab*ba": true, "ann:ann*n": false, "ann:an*nn": false, "ann:ann*ann": false, "annann:ann*ann": true, "aaa:aa*aa": false, "aaaa:aa*aa": true,
		// Those between.
		"ann:*n*": true, "ann:*a*": true, "ann:*ann*": true, "ann:*nn*": true, "ann:*b*": false, "ann:*na*": false, "ann:*nnn*": false, "ann:a*n*n": true, "ann:a*nn*": true, "ann:*an*n": true, "ann:*a*n*n*": true, "ann:*a*n*n*n*": false, "ann:ann*n*": false, "ann:*n*nn": false, "ann:*nn*n": false, "ann:a*n*nn": false, "abc:a*b*c": true, "abc:a*c*": true, "abc:*c*": true, "abc:ab*b*c": false, "abc:a*b*bc": false, "abc:a*abc*c": false, "abcabc:abc*b*c": true, "abcabc:abc*b*bc": false,
		// In order.
		"abc:*a*b*c*": true, "abc:*a*c*b*": false, "abc:*b*a*": false, "abc:*c*b*": false, "abcabc:*c*a*": true, "abcabc:*c*b*a*": false, "abcabc:*bc*a*": true, "abcabc:*ca*bc*": true, "abcabc:*ca*ab*": false, "abcabc:*abc*abc*": true, "abcabc:*abca*c*": true, "abcabc:*abca*abc*": false, "abcabc:*abca*a*": false, "abcabc:a*b*c*a*b*c": true, "abcabc:a*b*c*a*b*c*": true, "abcabc:a*b*c*a*b*c*c": false, "aabaab:*aab*aab": true, "aaab:*aab*": true, "aaaa:*aa*aa*": true, "aaaa:*aa*aaa*": false, "aaaa:*a*a*a*a*": true, "aaa:*a*a*a*a*": false, "aaa:a*a*a": true, "aa:a*a*a": false, "aaaaa:a*aa*aa": true, "aaaa:a*aa*aa": false,
		"abababab:ab*ba*ba*b": true, "xaxbxc:*a*b*c": true, "xbxaxc:*a*b*c": false, "mississippi:m*ssi*ssi*pi": true, "mississippi:m*iss*iss*i": true, "mississippi:m*issi*issi*": false, "12345678:1*2*3*4*5*6*7*8": true, "12345678:1*2*3*5*4*6*7*8": false, "1234567:1*2*3*4*5*6*7*8": false,
		// Letters in whatever case, of both.
		"ANN:a*": true, "ann:A*": true, "aNn:*Nn": true, "ABC:a*B*c": true, "abc:A*b*C": true, "Mail:*AI*": true, "\u017fa:s*": false, "\u00e9a:\u00c9*": false, "\u00c9a:\u00c9*": true, "\xffA:\xff*a": true, "k:\u212a*": false, "\u212a:k*": false, "[a:{*": false, "@a:`*": false, "Z:z*": true, "z:*Z": true, "a\x00B:*\x00*b": true, "a:*\x00*": false,
		// Blanks of values are folded, those of Parts are not.
		"Ann  Lee:ann lee*": true, "Ann  Lee:ann  lee*": false, "Ann  Lee:*ann lee": true, "  Ann:ann*": true, "  Ann: ann*": false, "Ann  :*ann": true, "Ann  :*ann ": false, "Ann  Lee:ann *": true, "Ann  Lee:ann * lee": false, "Ann  Lee:ann *lee": true, "Ann  Lee:ann* lee": true, "Ann  Lee:* *": true, "Ann  Lee:*  *": false, "a  b  c:* * *": true, "a b:* * *": false, "Ann: *": false, "Ann:* ": false, "Ann:* *": false, "Ann\tLee:*\tlee": true, "Ann\tLee:* lee": false,
		// Values without a Norm have none of them.
		":a*": false, " :* *": false, "  : *": false, "  :* ": false,
	} {
		val, parts, _ := strings.Cut(s, ":")
		f, truth := sub("Cn", strings.Split(parts, "*")...), api.False
		if want {
			truth = api.True
		}
		is(t, f, en("cn:"+val), truth)
		is(t, f, en("o:"+val, "cN:  |#|"+val+"|#", "cn:"+val), truth)
		is(t, f, en("cn:#", "cn:"+val), api.False)
		is(t, f, en("cn", "cn:"+val), api.False)
		is(t, f, en("o:"+val), api.False)
		if want && val != "#" {
			is(t, of(api.FAnd, f, leaf(api.FEq, "cn", val)), en("cn:"+val), api.True)
		}
	}
}

// TestSubEach: 7.1, of all bytes only A to Z are as a to z.
func TestSubEach(t *testing.T) {
	for a := range 256 {
		for b := range 256 {
			x, y := string([]byte{byte(a)}), string([]byte{byte(b)})
			alike := a == b || a^b == 0x20 && (a >= 'A' && a <= 'Z' || a >= 'a' && a <= 'z')
			e := api.Entry{Attrs: []api.Attr{{Type: "cn", Vals: []string{"1" + x + "2"}}}}
			for _, f := range []api.Filter{sub("cn", "1"+y, ""), sub("cn", "", y+"2"), sub("cn", "1", y, "2")} {
				if got := eval.Eval(f, e); (got == api.True) != alike || got == api.Undefined {
					t.Errorf("7.1: FSub of %q: %s of %q", f.Parts, names[got], e)
				}
			}
		}
	}
}

// TestSubMore: 7.1, FSub of long values and Parts, of what is no text, of Parts that several values have.
func TestSubMore(t *testing.T) {
	const f, y, u = api.False, api.True, api.Undefined
	e := en("cn:"+long, "o:"+long+"v", "uidnumber:15|150", "member:cn=a,o=b", "userpassword:Pw", "dc:z", "ou:"+long[1:]+"X", "sn:ab|cd|  |abXcd", "mail", "uid:a")
	for i, c := range []struct {
		f    api.Filter
		want int
	}{
		{sub("cn", long, ""), y}, {sub("cn", "", long), y}, {sub("cn", "", long, ""), y}, {sub("cn", long, "v"), f}, {sub("cn", "v", long), f}, {sub("cn", "v", long[1:]), y}, {sub("cn", "v", long[2:], "v"), y}, {sub("cn", "v", long[1:], "v"), f}, {sub("cn", long, long), f}, {sub("cn", strings.ToUpper(long), ""), y},
		// More bytes than may be have no Norm.
		{sub("o", "v", ""), f}, {sub("o", "", "v", ""), f}, {sub("o", long, ""), f},
		{sub("ou", "", "x"), y}, {sub("ou", long[1:], "x"), y}, {sub("ou", long[1:], "v", "x"), f}, {sub("ou", "", "v", "v", "v", "v", "v", "v", "X"), y},
		// One value must have all Parts.
		{sub("sn", "ab", "cd"), y}, {sub("sn", "ab", "x", "cd"), y}, {sub("sn", "cd", "ab"), f}, {sub("sn", "", "ab", "ab", ""), f}, {sub("sn", "b", ""), f}, {sub("sn", "c", "d"), y}, {sub("sn", "a", "x", "x", "d"), f},
		{sub("uidnumber", "1", ""), u}, {sub("uidnumber", "", "5"), u}, {sub("uidNumber", "", "x", ""), u}, {sub("member", "cn", ""), u}, {sub("Member", "", "=", ""), u}, {sub("userpassword", "P", ""), u}, {sub("userPassword", "", "w"), u}, {sub("dc", "z", ""), u}, {sub("dc", "", "x"), u},
		{sub("mail", "a", ""), f}, {sub("description", "a", ""), f}, {sub("uid", "a", ""), y}, {sub("UID", "", "A"), y}, {sub("uid", "a", "a"), f},
	} {
		is(t, c.f, e, c.want)
		is(t, c.f, api.Entry{}, notTrue(c.want))
		if !filter.May(c.f) {
			t.Fatal("the test's own", i)
		}
	}
}
