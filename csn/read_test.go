package csn_test

import (
	"math/big"
	"regexp"
	"strings"
	"testing"

	"brook/api"
	"brook/csn"
)

// form is that of numbers without a sign and without noughts ahead.
var form = regexp.MustCompile(`\A(0|[1-9][0-9]*)\.(0|[1-9][0-9]*)\z`)

// reads says by other means what Read must tell.
func reads(s string) (api.Csn, bool) {
	parts := form.FindStringSubmatch(s)
	if parts == nil {
		return api.Csn{}, false
	}
	var n [2]int
	for i := range n {
		x, ok := new(big.Int).SetString(parts[i+1], 10)
		if !ok || x.Cmp(big.NewInt(api.MaxCsn)) > 0 {
			return api.Csn{}, false
		}
		n[i] = int(x.Int64())
	}
	return api.Csn{Epoch: n[0], N: n[1]}, true
}

func checkRead(t *testing.T, s string) {
	t.Helper()
	c, ok := csn.Read(s)
	if want, may := reads(s); ok != may || c != want {
		if len(s) > 99 {
			s = s[:99]
		}
		t.Errorf("12.1: Read of %q: %v, %v", s, c, ok)
	}
}

// none looks at texts of which Read must tell that there is none, and nothing beside (R4).
func none(t *testing.T, l ...string) {
	t.Helper()
	for _, s := range l {
		if c, ok := csn.Read(s); ok || c != (api.Csn{}) {
			t.Errorf("12.1: Read of %.99q: %v, %v", s, c, ok)
		}
	}
}

// TestReadText: 12.1, Read of the Text of each that may be is that one; of others there is none.
func TestReadText(t *testing.T) {
	pairs(func(c api.Csn, epoch, n edge) {
		s := epoch.text + "." + n.text
		got, ok := csn.Read(s)
		if may := epoch.may && n.may; ok != may || may && got != c || !may && got != (api.Csn{}) {
			t.Errorf("12.1: Read of %q: %v, %v", s, got, ok)
		}
	})
	for d, i := dice(5), 0; i < 5000; i++ {
		c := d.csn()
		if got, ok := csn.Read(csn.Text(c)); !ok || got != c {
			t.Errorf("12.1: Read of the Text of %v: %v, %v", c, got, ok)
		}
	}
}

// TestReadWrong: 12.1, texts that are none's.
func TestReadWrong(t *testing.T) {
	none(t, "", ".", "0", "1", "12", "-", "..", "...", " ", ". .")
	none(t, "1.", ".1", "0.", ".0", "1..1", "1.1.1", "0.0.0", ".1.1", "1.1.", "..1", "1..")
	none(t, "+1.1", "1.+1", "+0.0", "0.+0", "-1.1", "1.-1", "-0.0", "0.-0", "--1.1", "1.1-", "1-.1", "1.1+")
	none(t, "01.1", "1.01", "00.0", "0.00", "00.00", "01.01", "1.0000000000000000000000001", "000000000000000000000.1")
	none(t, " 1.1", "1 .1", "1. 1", "1.1 ", "1.1\n", "\n1.1", "1\t.1", "1.1\x00", "\x001.1", "1.\x001", "1.1\r\n", "\u00a01.1", "1.1\u2003")
	none(t, "1,1", "1:1", "1/1", "1;1", "1\u00b71", "1\uff0e1", "1\u06d41", "1\x2e\x2e1", "1 1", "11", "1_1")
	none(t, "x.1", "1.x", "a.b", "1a.1", "1.1a", "a1.1", "1.a1", "1e1.1", "1.1e1", "0x1.1", "1.0x1", "0b1.1", "1.0o1", "1_0.1", "1.1_0", "_1.1", "1._1", "1.1_", "1'0.1")
	none(t, "\u0661.\u0661", "\uff11.1", "1.\uff11", "1.\u00b2", "\u00bd.1", "1.\xff", "\xff.1", "\xb1.1", "1.\xb1", "inf.1", "1.nan", "true.1", "{1 1}", "(1.1)", `"1.1"`)
}

// TestReadGreat: 12.1, numbers above MaxCsn, and far above what an int holds, ahead, behind and both; what is left of one that does not fit is not told.
func TestReadGreat(t *testing.T) {
	var l []string
	add := func(base *big.Int) {
		for k := int64(-3); k <= 3; k++ {
			l = append(l, new(big.Int).Add(base, big.NewInt(k)).String())
		}
	}
	for _, bits := range []uint{31, 32, 51, 52, 53, 54, 62, 63, 64, 65, 96, 128, 200} {
		base := new(big.Int).Lsh(big.NewInt(1), bits)
		add(base)
		add(new(big.Int).Neg(base))
		add(new(big.Int).Add(base, big.NewInt(api.MaxCsn)))
	}
	for digits := 1; digits < 50; digits++ {
		ten := new(big.Int).Exp(big.NewInt(10), big.NewInt(int64(digits)), nil)
		add(ten)
		add(new(big.Int).Mul(ten, big.NewInt(api.MaxCsn)))
	}
	for i, s := range l {
		checkRead(t, s+".0")
		checkRead(t, "0."+s)
		checkRead(t, "7."+s)
		checkRead(t, s+"."+s)
		checkRead(t, s+"."+l[len(l)-1-i])
	}
	none(t, "4503599627370497.0", "0.4503599627370497", "18446744073709551616.1", "1.18446744073709551617", "99999999999999999999.1", "1.99999999999999999999")
}

// TestReadShort: 12.1, all short texts of the bytes that matter.
func TestReadShort(t *testing.T) {
	l := []string{""}
	for at := 0; len(l[at]) < 5; at++ {
		for _, c := range "0192.-+ _x" {
			l = append(l, l[at]+string(c))
		}
	}
	found := 0
	for _, s := range l {
		checkRead(t, s)
		if _, ok := csn.Read(s); ok {
			found++
		}
	}
	// Of one digit, of two and of three there are 4, 12 and 48 numbers of these digits: two numbers and a dot of 5 bytes at most.
	if want := 4*4 + 2*4*12 + 2*4*48 + 12*12; found != want {
		t.Error("12.1: short texts", found, want)
	}
}

// TestReadNear: 12.1, texts a byte away from a Text: another one there, one more, one less.
func TestReadNear(t *testing.T) {
	for _, s := range []string{"0.0", "1.0", "0.1", "10.20", "4503599627370496.4503599627370496", "4503599627370495.1", "1.4503599627370489", "450359962737049.0"} {
		for at := 0; at <= len(s); at++ {
			for c := range 256 {
				checkRead(t, s[:at]+string([]byte{byte(c)})+s[at:])
				if at < len(s) {
					checkRead(t, s[:at]+string([]byte{byte(c)})+s[at+1:])
				}
			}
			if at < len(s) {
				checkRead(t, s[:at]+s[at+1:])
			}
		}
	}
}

// TestReadLong: R1, long texts end soon.
func TestReadLong(t *testing.T) {
	const long = 1 << 24
	for _, piece := range []string{"0", "1", "9", ".", "-", " ", "1.", ".1", "\xff", "1.1."} {
		s := strings.Repeat(piece, long/len(piece))
		none(t, s, s+".1", "1."+s, "."+s, s+".", s+"."+s, "1.1"+s)
	}
}
