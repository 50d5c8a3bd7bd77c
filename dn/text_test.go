package dn_test

import (
	"slices"
	"strings"
	"testing"

	"brook/api"
	"brook/dn"
)

// TestTextBytes: 2.2, each byte, as a value's first, within, last, and alone.
func TestTextBytes(t *testing.T) {
	const hex = "0123456789abcdef"
	for c := range 256 {
		s := string([]byte{byte(c)})
		ends, within := s, s
		switch {
		case c < 32 || c > 126:
			within = `\` + hex[c/16:c/16+1] + hex[c%16:c%16+1]
			ends = within
		case strings.Contains(",+\"\\<>;", s):
			within = `\` + s
			ends = within
		case c == ' ':
			ends = `\ `
		}
		first := ends
		if c == '#' {
			first = `\#`
		}
		for val, want := range map[string]string{s: first, s + "x": first + "x", "x" + s: "x" + ends, "x" + s + "y": "x" + within + "y", s + s + s: first + within + ends, "x" + s + s + "y": "x" + within + within + "y"} {
			if x := dn.Text(rdns("o", val)); x != "o="+want {
				t.Errorf("2.2: Text of %q: %q", val, x)
			}
			if l, ok := dn.Parse("o=" + want); !ok || !slices.Equal(l, rdns("o", val)) {
				t.Errorf("2.2: Parse of %q: %q", want, l)
			}
		}
	}
}

// TestTextLists: 2.2, of lists that may be and of others.
func TestTextLists(t *testing.T) {
	for i, c := range []struct {
		l    []api.Rdn
		want string
	}{
		{nil, ""}, {[]api.Rdn{}, ""}, {rdns("CN", "Ann Lee", "o", "X"), "CN=Ann Lee,o=X"}, {rdns("a", "1", "b", "2", "c", "3"), "a=1,b=2,c=3"},
		{rdns("o", " "), `o=\ `}, {rdns("o", "  "), `o=\ \ `}, {rdns("o", "   "), `o=\  \ `}, {rdns("o", " a  b "), `o=\ a  b\ `}, {rdns("o", "##"), `o=\##`}, {rdns("o", " #"), `o=\ #`}, {rdns("o", "# "), `o=\#\ `}, {rdns("o", "=a="), "o==a="}, {rdns("o", `\2c`), `o=\\2c`}, {rdns("o", "é"), `o=\c3\a9`}, {rdns("o", "\x1f \x7f~"), `o=\1f \7f~`},
		{rdns("o", ""), "o="}, {rdns("", "x"), "=x"}, {rdns("", ""), "="}, {rdns("", "", "", ""), "=,="}, {rdns("1,= \\\xff", "x"), "1,= \\\xff=x"}, {rdns(" ", "x", "#", "y"), " =x,#=y"},
		{times(api.MaxRdns+1, api.Rdn{Type: "o", Val: "x"}), strings.Repeat("o=x,", api.MaxRdns) + "o=x"}, {rdns("o", strings.Repeat(",", api.MaxVal+1)), "o=" + strings.Repeat(`\,`, api.MaxVal+1)}, {rdns(strings.Repeat("t", api.MaxType+1), "x"), strings.Repeat("t", api.MaxType+1) + "=x"},
	} {
		if s := dn.Text(c.l); s != c.want {
			t.Errorf("2.2: Text %d: %q", i, s)
		}
	}
}

// forms tells all texts of a value's byte, where it is the first or the last one.
func forms(c byte, first, last bool) []string {
	const low, high = "0123456789abcdef", "0123456789ABCDEF"
	all := []string{}
	for _, a := range []string{low, high} {
		for _, b := range []string{low, high} {
			all = append(all, `\`+a[c/16:c/16+1]+b[c%16:c%16+1])
		}
	}
	s := string([]byte{c})
	if strings.Contains(",+\"\\<>;=# ", s) {
		all = append(all, `\`+s)
	}
	always := strings.Contains(",+\"\\<>;", s)
	atEnd := c == '#' && first || c == ' ' && (first || last)
	if c >= 32 && c <= 126 && !always && !atEnd {
		all = append(all, s)
	}
	return all
}

// TestParseAll: 2.2, all texts of all values of at most two bytes, and all short texts that are none of these.
func TestParseAll(t *testing.T) {
	texts := map[string]string{}
	for a := range 256 {
		for _, x := range forms(byte(a), true, true) {
			texts[x] = string([]byte{byte(a)})
		}
		for b := range 256 {
			for _, x := range forms(byte(a), true, false) {
				for _, y := range forms(byte(b), false, true) {
					texts[x+y] = string([]byte{byte(a), byte(b)})
				}
			}
		}
	}
	for s, val := range texts {
		if l, ok := dn.Parse("o=" + s); !ok || !slices.Equal(l, rdns("o", val)) {
			t.Fatalf("2.2: Parse of %q: %q", s, l)
		}
	}
	check := func(s string) {
		l, ok := dn.Parse("o=" + s)
		if _, is := texts[s]; !is && ok && len(l) == 1 && len(l[0].Val) < 3 || !ok && l != nil || is && !ok {
			t.Fatalf("2.2: Parse of %q: %q", s, l)
		}
	}
	each("", "\\,=# +2fFgG\x1f~\x7f", 4, check)
	for a := range 1 << 16 {
		check(string([]byte{byte(a >> 8), byte(a)}))
		check(string([]byte{'\\', byte(a >> 8), byte(a)}))
	}
}

// TestParseNone: 2.2, texts that are no name.
func TestParseNone(t *testing.T) {
	longType, longVal := strings.Repeat("t", api.MaxType), strings.Repeat("v", api.MaxVal)
	for _, s := range []string{
		" ", "o", "=", "o=", "=x", ",", "o=x,", ",o=x", "o=x,,o=y", "o=x,p", "o=x,p=", "o=x,=y", "o,p=x", "\\", "\\o=x", "o\\=x", "o\\,=x", "\\6f=x",
		" o=x", "o =x", "o= x", "o=x ", "o=  x", "o=x, p=y", "o=x ,p=y", "o= ", "o=\\  ", "o=x,p= y", "o=x,p=y ", "\to=x", "o=x\n",
		"o=#", "o=#x", "o=x,p=#y", "o=a+b", "o=a\"b", "\"o=x\"", "o=\"x\"", "o=a<b", "o=a>b", "o=a;b", "o=x;p=y", "o=x+p=y", "1=x", "1a=x", "-a=x", "a_b=x", "a.b=x", "2.5.4.3=x", "é=x", "o=x,1=y",
		"o=\\", "o=a\\", "o=\\4", "o=a\\4", "o=\\4g", "o=\\g4", "o=\\x", "o=\\o", "o=\\-", "o=\\~", "o=\\/", "o=\\:", "o=\\4:", "o=\\4/", "o=\\4@", "o=\\4`", "o=\\@4", "o=\\`4", "o=\\4 ", "o=\\4\\1", "o=\\\x00", "o=\\\xff", "o=\\4,p=y", "o=\\,p=y\\", "o=x,p=\\", "o=\\\\\\", "o=\\0x41",
		"o=\x00", "o=\x1f", "o=\x7f", "o=\x80", "o=\xff", "o=é", "o=a\tb",
		longType + "t=x", "o=" + longVal + "v", "o=" + strings.Repeat(`\,`, api.MaxVal+1), "o=" + strings.Repeat(`\41`, api.MaxVal+1), strings.Repeat("o=x,", api.MaxRdns) + "o=x", strings.Repeat("o=x,", api.MaxRdns), strings.Repeat("o=x,", api.MaxRdns-1) + "o", strings.Repeat("o=x,", api.MaxRdns-1) + "o=",
	} {
		if l, ok := dn.Parse(s); ok || l != nil {
			t.Errorf("2.2: Parse of %q: %q", s, l)
		}
		if key, ok := dn.Key(s); ok || key != "" {
			t.Errorf("2.3: Key of %q: %q", s, key)
		}
	}
}

// TestParse: 2.2, texts that Text does not tell, too.
func TestParse(t *testing.T) {
	longType, longVal := strings.Repeat("t", api.MaxType), strings.Repeat("v", api.MaxVal)
	for s, want := range map[string][]api.Rdn{
		"": nil, "CN=Ann  Lee,O=x": rdns("CN", "Ann  Lee", "O", "x"), "o==": rdns("o", "="), "o=a=b": rdns("o", "a=b"), "o=a#": rdns("o", "a#"), "o=a b": rdns("o", "a b"),
		`o=\=\#\ `: rdns("o", "=# "), `o=a\=b\#c\ d`: rdns("o", "a=b#c d"), `o=\20`: rdns("o", " "), `o=\23a`: rdns("o", "#a"), `o=\20a\20`: rdns("o", " a "), `o=\ \ `: rdns("o", "  "), `o=\  x`: rdns("o", "  x"), `o=\41\62\7e`: rdns("o", "Ab~"), `o=\fF\Ff\FF\ff`: rdns("o", "\xff\xff\xff\xff"), `o=\aA\bB\cC\dD\eE`: rdns("o", "\xaa\xbb\xcc\xdd\xee"), `o=\5c`: rdns("o", `\`), `o=\5C41`: rdns("o", `\41`), `o=\\41`: rdns("o", `\41`), `o=\\\41`: rdns("o", `\A`), `o=\2c,p=\,`: rdns("o", ",", "p", ","), `o=\412`: rdns("o", "A2"), `o=\00`: rdns("o", "\x00"), `o=\,\+\"\\\<\>\;`: rdns("o", `,+"\<>;`),
		longType + "=" + longVal: rdns(longType, longVal), "o=" + strings.Repeat(`\41`, api.MaxVal): rdns("o", strings.Repeat("A", api.MaxVal)), "o=" + strings.Repeat(`\,`, api.MaxVal): rdns("o", strings.Repeat(",", api.MaxVal)), strings.Repeat("o=x,", api.MaxRdns-1) + "o=x": times(api.MaxRdns, api.Rdn{Type: "o", Val: "x"}), "a-1=x,Z9-=y": rdns("a-1", "x", "Z9-", "y"), "o=x,o=x": rdns("o", "x", "o", "x"),
	} {
		if l, ok := dn.Parse(s); !ok || !slices.Equal(l, want) {
			t.Errorf("2.2: Parse of %q: %q", s, l)
		}
	}
}

// TestKey: 2.3.
func TestKey(t *testing.T) {
	longType, longVal := strings.Repeat("T", api.MaxType), strings.Repeat("V", api.MaxVal)
	for s, want := range map[string]string{
		"": "", "CN=Ann  Lee,O=x": "cn=ann lee,o=x", "cn=ann lee,o=x": "cn=ann lee,o=x", `Cn=\41\4E\6e`: "cn=ann", `cn=\ Ann\ `: "cn=ann", `cn=\20\20Ann \20 \  Lee\20`: "cn=ann lee", `O=A\2cB`: `o=a\,b`, `O=A\2CB\3d`: `o=a\,b=`, `o=\=\#`: "o==#", `o=a\ b`: "o=a b",
		`o=\ #`: `o=\#`, `o=\ #\ `: `o=\#`, `o=\#A`: `o=\#a`, `o=A\#`: "o=a#", `o=\09`: `o=\09`, `o=\09\ `: `o=\09`, `o=\C4\E4`: `o=\c4\e4`, `o=\ \5c\ `: `o=\\`, `o=a \ `: "o=a", "A-1=X,B=Y,B=X": "a-1=x,b=y,b=x",
		longType + "=" + longVal: strings.ToLower(longType + "=" + longVal), strings.Repeat("O=X,", api.MaxRdns-1) + "O=X": strings.Repeat("o=x,", api.MaxRdns-1) + "o=x", "o=" + strings.Repeat(`\20`, api.MaxVal-1) + "X": "o=x",
	} {
		key, ok := dn.Key(s)
		if !ok || key != want {
			t.Errorf("2.3: Key of %q: %q", s, key)
		}
		if again, is := dn.Key(key); !is || again != key {
			t.Errorf("2.4: Key of %q: %q", key, again)
		}
	}
	// A name, but of a value of blanks alone.
	for _, s := range []string{`o=\ `, `o=\20`, `o=\ \ `, `o=\  \ `, `o=\ \20 \ `, `o=x,p=\ `, `o=\ ,p=x`, `o=x,p=\20,q=y`, "o=" + strings.Repeat(`\20`, api.MaxVal)} {
		if _, ok := dn.Parse(s); !ok {
			t.Errorf("2.2: Parse of %q", s)
		}
		if key, ok := dn.Key(s); ok || key != "" {
			t.Errorf("2.3: Key of %q: %q", s, key)
		}
	}
}

// TestRound: 2.4, and 2.3 by its words, of lists that are thrown.
func TestRound(t *testing.T) {
	d := dice(2)
	for range 20000 {
		l := d.list()
		s := dn.Text(l)
		if x, ok := dn.Parse(s); !dn.May(l) || !ok || !slices.Equal(x, l) {
			t.Fatalf("2.4: Parse of %q: %q", s, x)
		}
		folded := []api.Rdn{}
		for _, r := range l {
			folded = append(folded, api.Rdn{Type: strings.ToLower(r.Type), Val: dn.Fold(r.Val)})
		}
		want, is := dn.Text(folded), dn.May(folded)
		key, ok := dn.Key(s)
		if ok != is || ok && key != want || !ok && key != "" {
			t.Fatalf("2.3: Key of %q: %q", s, key)
		}
		if again, sure := dn.Key(key); ok && (!sure || again != key) {
			t.Fatalf("2.4: Key of %q: %q", key, again)
		}
		for i := range folded {
			above := dn.Text(folded[i:])
			if ok && (dn.Up(above) != dn.Text(folded[i+1:]) || !dn.Under(key, above) || dn.Under(above, key) != (i == 0)) {
				t.Fatalf("2.3: Up of %q", above)
			}
		}
	}
}

// TestWrongTexts: 2.2 and 2.4, of texts that are thrown: what Parse tells may be, and is that of its Text; all calls end.
func TestWrongTexts(t *testing.T) {
	d := dice(3)
	names := 0
	for range 200000 {
		s := d.text(12, "oA1-==,,\\\\ #+2c\xff\x1f")
		if d.below(2) == 0 {
			s = "o=" + s
		}
		l, ok := dn.Parse(s)
		x, same := dn.Parse(dn.Text(l))
		if !ok && l != nil || ok && (!dn.May(l) || !same || !slices.Equal(x, l)) {
			t.Fatalf("2.2: Parse of %q: %q", s, l)
		}
		key, is := dn.Key(s)
		if is && !ok || !is && key != "" || !dn.Under(s, dn.Up(s)) {
			t.Fatalf("2.3: Key of %q: %q", s, key)
		}
		if len(l) > 0 {
			names++
		}
	}
	if names < 1000 {
		t.Error("few of the texts were names:", names)
	}
}

// TestMemory: R3, what is handed in stays as it is; who writes into what is told, or behind it, changes nothing else.
func TestMemory(t *testing.T) {
	room := rdns("CN", " A  B ", "O", "#x", "spare", "spare")
	want := slices.Clone(room)
	if s := dn.Text(room[:2]); !dn.May(room[:2]) || s != `CN=\ A  B\ ,O=\#x` || !slices.Equal(room, want) {
		t.Error("R3: what is handed in", room)
	}
	const s = "CN=A,O=x,O=y"
	for range 3 {
		a, _ := dn.Parse(s)
		b, _ := dn.Parse(s)
		a[0].Type = "z"
		a = append(a, rdns("z", "z")...)
		a[1].Val = "z"
		if c, _ := dn.Parse(s); !slices.Equal(b, rdns("CN", "A", "O", "x", "O", "y")) || !slices.Equal(b, c) {
			t.Error("R3: what Parse told", b, c)
		}
		if key, _ := dn.Key(s); key != "cn=a,o=x,o=y" {
			t.Error("R3: Key", key)
		}
	}
}
