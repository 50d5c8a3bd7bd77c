package match_test

import (
	"math/big"
	"slices"
	"strconv"
	"strings"
	"sync"
	"testing"

	"brook/api"
	"brook/dn"
	"brook/match"
)

// names of all types there are, and the rule of each.
func names() map[string]int {
	return map[string]int{
		"objectclass": api.RText, "cn": api.RText, "sn": api.RText, "o": api.RText, "ou": api.RText, "uid": api.RText, "mail": api.RText, "description": api.RText,
		"uidnumber": api.RInt, "member": api.RDn, "userpassword": api.RBytes,
	}
}

// small makes A to Z small, and leaves all other bytes.
func small(s string) string {
	b := []byte(s)
	for i, c := range b {
		if c >= 'A' && c <= 'Z' {
			b[i] = c + 32
		}
	}
	return string(b)
}

// checkType asks of a type's name whether it is one, in its letters as they stand.
func checkType(t *testing.T, typ string) {
	t.Helper()
	want, is := names()[small(typ)]
	name, ok := match.Canon(typ)
	if ok != is || is && name != small(typ) || !is && name != "" {
		t.Errorf("3.1: Canon of %q: %q, %v", typ, name, ok)
	}
	if rule := match.Rule(typ); rule != want {
		t.Errorf("3.1: Rule of %q: %d", typ, rule)
	}
	// A value that has a norm by each of the rules, but for that of numbers; and one of that.
	_, one := match.Norm(typ, "o=x")
	_, two := match.Norm(typ, "1")
	if one != (is && want != api.RInt) || two != (is && want != api.RDn) {
		t.Errorf("3.2: Norm of %q: %v, %v", typ, one, two)
	}
}

// TestCases: 3.1, each type there is, each of its letters small or not.
func TestCases(t *testing.T) {
	for name := range names() {
		for bits := range 1 << len(name) {
			b := []byte(name)
			for i := range b {
				if bits>>i&1 == 1 {
					b[i] -= 32
				}
			}
			checkType(t, string(b))
		}
	}
}

// TestNoTypes: 3.1, what is nearly a type.
func TestNoTypes(t *testing.T) {
	for _, typ := range []string{
		"", " ", "c", "n", "u", "x", "cnn", "dc", "c n", "uidnumbers", "uid number", "uid-number", "user", "password", "users", "groups", "objectclasses", "objectclas", "cn,sn", "cn=", "cn;x", "2.5.4.3", "=", "*",
		// Letters elsewhere whose small ones, or whose likes, are a to z.
		"u\u0130d", "U\u0130D", "\u017fn", "\u017fN", "u\u017ferpassword", "ma\u0131l", "ou\u0301", "\uff43\uff4e", "ob\u0130ectclass", "\u212a", "ｃｎ", "сn",
		strings.Repeat("o", api.MaxType), strings.Repeat("o", api.MaxType+1), strings.Repeat("o", 1<<22), "o" + strings.Repeat(" ", 1<<22), "cn" + strings.Repeat("\x00", api.MaxType-2),
	} {
		checkType(t, typ)
	}
	for name := range names() {
		for c := range 256 {
			s := string([]byte{byte(c)})
			for i := range name {
				checkType(t, name[:i]+s+name[i+1:])
				checkType(t, name[:i]+s+name[i:])
			}
			checkType(t, name+s)
		}
		for i := range name {
			checkType(t, name[:i])
			checkType(t, name[i:])
		}
		checkType(t, name+name)
		checkType(t, "  "+name+"  ")
	}
}

// norm asks for one; `-` stands for none.
func norm(t *testing.T, typ, val, want string) {
	t.Helper()
	x, ok := match.Norm(typ, val)
	if ok != (want != "-") || ok && x != want || !ok && x != "" {
		t.Errorf("3.2: Norm of %s, %q: %q, %v", typ, val, x, ok)
	}
	if match.Same(typ, val, val) != ok {
		t.Errorf("3.2: Same of %s, %q", typ, val)
	}
	if less, may := match.Less(typ, val, val); less || may != (ok && (match.Rule(typ) == api.RText || match.Rule(typ) == api.RInt)) {
		t.Errorf("3.2: Less of %s, %q: %v, %v", typ, val, less, may)
	}
	if again, is := match.Norm(typ, x); ok && (!is || again != x || !match.Same(typ, val, x) || !match.Same(typ, x, val)) {
		t.Errorf("3.3: Norm of %s, %q: %q", typ, x, again)
	}
}

// TestText: 3.2, of each type of that rule.
func TestText(t *testing.T) {
	x := strings.Repeat("x", api.MaxVal)
	for typ, rule := range names() {
		if rule != api.RText {
			continue
		}
		for val, want := range map[string]string{
			"": "-", " ": "-", "  ": "-", strings.Repeat(" ", api.MaxVal): "-", strings.Repeat(" ", api.MaxVal+1): "-",
			"a": "a", "Ann": "ann", " Ann  LEE ": "ann lee", "0": "0", "01": "01", "cn=A,O=b": "cn=a,o=b", "\t": "\t", " \t ": "\t", "\x00": "\x00", "\xff": "\xff", "ÄÖ": "ÄÖ", "\u00a0": "\u00a0", "\u212a": "\u212a", "@[`{": "@[`{",
			x: x, strings.ToUpper(x): x, x + "x": "-", x + " ": "-", " " + x: "-", x[2:] + "  ": x[2:], strings.Repeat(" ", api.MaxVal-1) + "A": "a", strings.Repeat(" ", api.MaxVal) + "A": "-", "A" + strings.Repeat(" ", api.MaxVal-2) + "B": "a b", strings.Repeat("é", api.MaxVal/2): strings.Repeat("é", api.MaxVal/2), strings.Repeat("é", api.MaxVal/2) + "x": "-", strings.Repeat("x", 1<<20): "-",
		} {
			norm(t, typ, val, want)
			norm(t, strings.ToUpper(typ), val, want)
		}
		// Of itself: norm takes a minus for none.
		if s, ok := match.Norm(typ, "-"); !ok || s != "-" {
			t.Errorf("3.2: Norm of %s, a minus: %q", typ, s)
		}
	}
}

// isNumber tells by the words of 3.2 whether s is a number.
func isNumber(s string) bool {
	digits := s
	if s != "" && s[0] == '-' {
		digits = s[1:]
	}
	if len(digits) < 1 || len(digits) > 15 {
		return false
	}
	for i := range len(digits) {
		if digits[i] < '0' || digits[i] > '9' {
			return false
		}
	}
	return digits[0] != '0' || s == "0"
}

// TestInt: 3.2, the edges, and all short texts of digits and of what is near to them.
func TestInt(t *testing.T) {
	for _, s := range []string{"0", "1", "9", "10", "-1", "-9", "-10", "100", "999999999999999", "-999999999999999", "123456789012345", "-123456789012345", "100000000000000", "-100000000000000"} {
		norm(t, "uidnumber", s, s)
		norm(t, "uidNumber", s, s)
		norm(t, "UIDNUMBER", s, s)
	}
	for _, s := range []string{
		"", "-", "--", "--1", "-0", "-00", "00", "000", "01", "-01", "007", "+", "+0", "+1", "-+1", "+-1", "1-", "1-1", "1 ", " 1", " ", "1 1", "\t1", "1\n", "1\x00", "1.", "1.0", ".1", "1,0", "1_0", "1e3", "0x1", "0b1", "0o7", "a", "f", "1a", "\u0661", "１", "\u22121", "Inf", "NaN",
		"1000000000000000", "1234567890123456", "-1234567890123456", "-1000000000000000", "9999999999999999", "0123456789012345", "0000000000000000", "000000000000000", "000000000000001", "-00000000000001", "9223372036854775807", "9223372036854775808", "-9223372036854775808", "-9223372036854775809", "18446744073709551616", "18446744073709551617",
		strings.Repeat("1", api.MaxVal), strings.Repeat("1", api.MaxVal+1), strings.Repeat("0", api.MaxVal-1) + "1", strings.Repeat("1", 1<<20),
	} {
		norm(t, "uidnumber", s, "-")
	}
	for n := -20000; n <= 20000; n++ {
		s := strconv.Itoa(n)
		norm(t, "uidnumber", s, s)
	}
	each("", "0123-+ _.", 5, func(s string) {
		if x, ok := match.Norm("uidnumber", s); ok != isNumber(s) || ok && x != s || !ok && x != "" {
			t.Fatalf("3.2: Norm of uidnumber, %q: %q", s, x)
		}
	})
	for c := range 256 {
		for _, s := range []string{string([]byte{byte(c)}), string([]byte{byte(c), '1'}), string([]byte{'1', byte(c)}), string([]byte{'-', byte(c)}), string([]byte{'-', '1', byte(c), '1'}), "12345678901234" + string([]byte{byte(c)}), "-12345678901234" + string([]byte{byte(c)}), "123456789012345" + string([]byte{byte(c)})} {
			if _, ok := match.Norm("uidnumber", s); ok != isNumber(s) {
				t.Errorf("3.2: Norm of uidnumber, %q: %v", s, ok)
			}
		}
	}
}

// each goes through all texts that s and at most n bytes behind it are.
func each(s, bytes string, n int, f func(s string)) {
	f(s)
	if n == 0 {
		return
	}
	for i := range len(bytes) {
		each(s+bytes[i:i+1], bytes, n-1, f)
	}
}

// TestDn: 3.2, names by their keys.
func TestDn(t *testing.T) {
	most := strings.Repeat("o=x,", api.MaxRdns-1) + "o=x"
	long := "o=" + strings.Repeat("x", api.MaxVal-2)
	for val, want := range map[string]string{
		"": "-", "CN=A,O=b": "cn=a,o=b", "cn=a": "cn=a", "Cn=Ann  Lee,O=x": "cn=ann lee,o=x", `cn=\41`: "cn=a", `cn=\ A\ `: "cn=a", `o=A\2cB`: `o=a\,b`, `o=\#`: `o=\#`, `o=\C4`: `o=\c4`, "dc=x": "dc=x", "x-1=Y": "x-1=y",
		"cn": "-", "cn=": "-", "=a": "-", ",": "-", " ": "-", "cn=a,": "-", ",cn=a": "-", "cn=a, o=b": "-", "cn= a": "-", " cn=a": "-", `cn=\ `: "-", `cn=\20`: "-", `cn=a,o=\ `: "-", "cn=#a": "-", "cn=é": "-", "1=a": "-", `cn=\`: "-",
		most: most, most + ",o=x": "-", strings.ToUpper(most): most, long: long, long + "x": "-", "O=" + strings.Repeat("X", api.MaxVal-2): long, "o=" + strings.Repeat(`\20`, 32) + "A": "o=a", "o=" + strings.Repeat(`\20`, 33) + "A": "-", strings.Repeat("o", 31) + "=x": "-", strings.Repeat("o=x,", 1<<18) + "o=x": "-",
	} {
		norm(t, "member", val, want)
		norm(t, "MEMBER", val, want)
	}
}

// TestBytes: 3.2, bytes are as they are.
func TestBytes(t *testing.T) {
	x := strings.Repeat("x", api.MaxVal)
	for _, val := range []string{"a", "A", " ", "  ", " Pw ", "a  b", "\x00", "\x00\x00", "\xff\xfe", "é", "-", "0", "cn=A", x, strings.Repeat(" ", api.MaxVal), strings.Repeat("\x00", api.MaxVal)} {
		for _, typ := range []string{"userpassword", "userPassword", "USERPASSWORD"} {
			if s, ok := match.Norm(typ, val); !ok || s != val {
				t.Errorf("3.2: Norm of %s, %q: %q", typ, val, s)
			}
		}
	}
	for _, val := range []string{"", x + "x", strings.Repeat(" ", api.MaxVal+1), strings.Repeat("x", 1<<20)} {
		norm(t, "userpassword", val, "-")
	}
	for a := range 256 {
		for b := range 256 {
			s, x := string([]byte{byte(a)}), string([]byte{byte(b)})
			if match.Same("userpassword", s, x) != (a == b) || match.Same("userpassword", s+"k"+s, s+"k"+x) != (a == b) {
				t.Errorf("3.2: Same of userpassword, %q, %q", s, x)
			}
		}
	}
}

// TestPairs: 3.2, Same and Less.
func TestPairs(t *testing.T) {
	x := strings.Repeat("x", api.MaxVal)
	for i, c := range []struct {
		typ, a, b      string
		same, less, ok bool
	}{
		{"cn", "Ann", " ANN", true, false, true}, {"CN", "x  y", " X Y ", true, false, true}, {"cn", "xy", "x y", false, false, true}, {"cn", "x y", "xy", false, true, true}, {"cn", "a", "B", false, true, true}, {"cn", "b", "A", false, false, true}, {"cn", "a", "ab", false, true, true}, {"cn", "ab", "a", false, false, true}, {"cn", "9", "10", false, false, true}, {"cn", "10", "9", false, true, true}, {"cn", "_", "Z", false, true, true}, {"cn", "Z", "_", false, false, true}, {"cn", "z", "\x80", false, true, true}, {"cn", "\xff", "\x00", false, false, true}, {"cn", "ä", "Ä", false, false, true}, {"cn", "Ä", "ä", false, true, true}, {"cn", "a\t", "a", false, false, true},
		{"cn", "a", "", false, false, false}, {"cn", "", "a", false, false, false}, {"cn", "", "", false, false, false}, {"cn", "  ", " ", false, false, false}, {"cn", "a", "  ", false, false, false}, {"cn", x, x + "x", false, false, false}, {"cn", "a", x + "x", false, false, false}, {"cn", x + "x", x + "x", false, false, false}, {"cn", x, strings.ToUpper(x), true, false, true},
		{"uidnumber", "9", "10", false, true, true}, {"uidNumber", "10", "9", false, false, true}, {"uidnumber", "-10", "-9", false, true, true}, {"uidnumber", "-9", "-10", false, false, true}, {"uidnumber", "-1", "0", false, true, true}, {"uidnumber", "0", "-1", false, false, true}, {"uidnumber", "-1", "1", false, true, true}, {"uidnumber", "1", "-1", false, false, true}, {"uidnumber", "-5", "-5", true, false, true}, {"uidnumber", "0", "0", true, false, true}, {"uidnumber", "7", "7", true, false, true}, {"uidnumber", "-100", "99", false, true, true}, {"uidnumber", "99", "-100", false, false, true},
		{"uidnumber", "999999999999998", "999999999999999", false, true, true}, {"uidnumber", "-999999999999999", "-999999999999998", false, true, true}, {"uidnumber", "-999999999999999", "999999999999999", false, true, true}, {"uidnumber", "4294967296", "0", false, false, true}, {"uidnumber", "2147483648", "2147483647", false, false, true}, {"uidnumber", "-2147483649", "-2147483648", false, true, true},
		{"uidnumber", "7", "07", false, false, false}, {"uidnumber", "07", "07", false, false, false}, {"uidnumber", "0", "-0", false, false, false}, {"uidnumber", "-0", "0", false, false, false}, {"uidnumber", "1", "+1", false, false, false}, {"uidnumber", "1", " 1", false, false, false}, {"uidnumber", "1", "", false, false, false}, {"uidnumber", "-", "-", false, false, false}, {"uidnumber", "1", "1000000000000000", false, false, false}, {"uidnumber", "a", "b", false, false, false},
		{"member", "CN=a", "cn=A", true, false, false}, {"Member", `CN=a\2cb,O=X`, `cn=A\,B,o=\ x`, true, false, false}, {"member", "cn=a", "cn=b", false, false, false}, {"member", "cn=a,o=x", "o=x", false, false, false}, {"member", "", "", false, false, false}, {"member", "cn", "cn", false, false, false}, {"member", "o=x", "", false, false, false}, {"member", `o=\ `, `o=\20`, false, false, false},
		{"userpassword", "a", "A", false, false, false}, {"userpassword", "a", "a", true, false, false}, {"userpassword", "a", "a ", false, false, false}, {"userpassword", "a", "b", false, false, false}, {"userpassword", "", "", false, false, false}, {"userpassword", x + "x", x + "x", false, false, false}, {"userpassword", " ", " ", true, false, false},
		{"dc", "a", "a", false, false, false}, {"dc", "a", "b", false, false, false}, {"", "a", "a", false, false, false}, {"cn ", "a", "b", false, false, false}, {"uidnumbers", "1", "2", false, false, false}, {"u\u0130d", "a", "b", false, false, false},
	} {
		less, ok := match.Less(c.typ, c.a, c.b)
		if match.Same(c.typ, c.a, c.b) != c.same || match.Same(c.typ, c.b, c.a) != c.same || less != c.less || ok != c.ok {
			t.Errorf("3.2, pair %d: %s, %q, %q: %v, %v, %v", i, c.typ, c.a, c.b, match.Same(c.typ, c.a, c.b), less, ok)
		}
		back, is := match.Less(c.typ, c.b, c.a)
		if is != c.ok || back != (c.ok && !c.same && !c.less) {
			t.Errorf("3.2, pair %d, back: %v, %v", i, back, is)
		}
	}
}

// dice is a small generator: the same numbers in each run.
type dice uint32

func (d *dice) below(n int) int {
	*d = *d*1664525 + 1013904223
	return int(*d>>8) % n
}

// val throws a value, often one that has a norm.
func (d *dice) val() string {
	of := []string{" aAbB", "0123456789", "-01", "cnoCNO=,\\ 2A", " \x00\xff#A,é\t"}[d.below(5)]
	b := make([]byte, d.below(6))
	for i := range b {
		b[i] = of[d.below(len(of))]
	}
	return []string{"", "", "", "o=", "Cn=", "-", "1"}[d.below(7)] + string(b)
}

// wanted is Norm by the words of 3.2, made of calls of package dn.
func wanted(rule int, val string) (string, bool) {
	s, ok := val, val != "" && len(val) <= 100
	switch rule {
	case 0:
		return "", false
	case api.RText:
		s = dn.Fold(val)
	case api.RInt:
		ok = ok && isNumber(val)
	case api.RDn:
		key, is := dn.Key(val)
		s, ok = key, ok && is
	}
	if !ok || s == "" {
		return "", false
	}
	return s, true
}

// TestThrown: 3.2 and 3.3, of values that are thrown.
func TestThrown(t *testing.T) {
	types := []string{"dc", ""}
	for name := range names() {
		types = append(types, name, strings.ToUpper(name))
	}
	slices.Sort(types)
	d := dice(3)
	for range 100000 {
		typ, a, b := types[d.below(len(types))], d.val(), d.val()
		rule := match.Rule(typ)
		x, xOk := match.Norm(typ, a)
		y, yOk := match.Norm(typ, b)
		if want, is := wanted(rule, a); x != want || xOk != is {
			t.Fatalf("3.2: Norm of %s, %q: %q", typ, a, x)
		}
		same := match.Same(typ, a, b)
		if same != (xOk && yOk && x == y) || same != match.Same(typ, b, a) {
			t.Fatalf("3.3: Same of %s, %q, %q: %v", typ, a, b, same)
		}
		if again, is := match.Norm(typ, x); xOk && (!is || again != x || !match.Same(typ, a, x)) {
			t.Fatalf("3.3: Norm of %s, %q: %q", typ, x, again)
		}
		below := false
		may := xOk && yOk && (rule == api.RText || rule == api.RInt)
		if may && rule == api.RText {
			below = x < y
		}
		if may && rule == api.RInt {
			m, _ := new(big.Int).SetString(x, 10)
			n, _ := new(big.Int).SetString(y, 10)
			below = m.Cmp(n) < 0
		}
		if less, ok := match.Less(typ, a, b); ok != may || less != below {
			t.Fatalf("3.2: Less of %s, %q, %q: %v, %v", typ, a, b, less, ok)
		}
	}
}

// TestAtOnce: R1, what is told is the same, whoever asks ahead or at once.
func TestAtOnce(t *testing.T) {
	right := make([]bool, 16)
	var all sync.WaitGroup
	for i := range right {
		all.Go(func() {
			name, ok := match.Canon("uidNumber")
			val, is := match.Norm("Cn", " A  B ")
			less, may := match.Less("uidnumber", "-2", "-1")
			right[i] = ok && name == "uidnumber" && match.Rule("Member") == api.RDn && is && val == "a b" && less && may && match.Same("MEMBER", "O=x", "o=X")
		})
	}
	all.Wait()
	for i, ok := range right {
		if !ok {
			t.Error("3.1: at once", i)
		}
	}
}

// TestEnds: R1, long texts end in no long time.
func TestEnds(t *testing.T) {
	const n = 1 << 22
	for _, s := range []string{strings.Repeat("A", n), strings.Repeat(" ", n), strings.Repeat("1", n), strings.Repeat("-", n), strings.Repeat(",", n), "o=" + strings.Repeat("x", n), strings.Repeat("\x00", n)} {
		if name, ok := match.Canon(s); ok || name != "" || match.Rule(s) != 0 {
			t.Errorf("3.1: Canon of long %q", s[:3])
		}
		for typ := range names() {
			norm(t, typ, s, "-")
			if match.Same(typ, s, s) || match.Same(s, "a", "a") {
				t.Errorf("3.2: Same of long %q", s[:3])
			}
		}
	}
}
