package schema_test

import (
	"fmt"
	"slices"
	"strconv"
	"strings"
	"testing"

	"brook/api"
	"brook/schema"
)

// attrs makes a list of texts: a type, `:`, and values with `|` between; without `:` it has none.
func attrs(s ...string) []api.Attr {
	var l []api.Attr
	for _, x := range s {
		typ, vals, some := strings.Cut(x, ":")
		a := api.Attr{Type: typ}
		if some {
			a.Vals = strings.Split(vals, "|")
		}
		l = append(l, a)
	}
	return l
}

func en(name string, s ...string) api.Entry { return api.Entry{Dn: name, Attrs: attrs(s...)} }

func person(s ...string) api.Entry {
	return en("cn=Ann,o=x", append([]string{"cn:Ann", "objectclass:person", "sn:Lee"}, s...)...)
}

func posix(s ...string) api.Entry {
	return en("uid=a", append([]string{"cn:Ann", "objectclass:inetorgperson|posix", "sn:Lee", "uid:a"}, s...)...)
}

func group(s ...string) api.Entry {
	return en("cn=g", append([]string{"cn:g", "objectclass:groupofnames"}, s...)...)
}

// count makes n values, each another one.
func count(n int) string {
	l := make([]string, n)
	for i := range l {
		l[i] = "v" + strconv.Itoa(i)
	}
	return strings.Join(l, "|")
}

func check(t *testing.T, e api.Entry, want int) {
	t.Helper()
	was := fmt.Sprint(e)
	code := schema.Check(e)
	if code != want {
		t.Errorf("4.2: Check of %.300q: %d, not %d", was, code, want)
	}
	if fmt.Sprint(e) != was {
		t.Errorf("R3: what was handed in: %.300q", was)
	}
}

// TestGood: 4.2, entries that may be.
func TestGood(t *testing.T) {
	for _, e := range []api.Entry{
		en("o=x", "o:x", "objectclass:organization"), en("O=X,ou=y,dc=z", "objectclass:ORGANIZATION", "o:x"), en("o=x", "o:x", "description:d", "objectclass:organization|top"), en("ou=u,o=x", "objectclass:organizationalUnit", "OU:u"), en("ou=u", "description:d", "objectclass:organizationalunit", "ou:u"),
		person(), person("description:d"), person("userpassword:p"), person("userPassword:p", "DESCRIPTION:d"), en("cn=a", "cn:a", "objectclass:Top|  PERSON  ", "sn:b"), en("cn=a", "CN:a", "objectClass:pErSoN", "Sn:b"),
		posix("uidnumber:5"), posix("uidNumber:-5", "mail:a@b", "description:d", "userpassword:p"), en("cn=a", "cn:a", "sn:b", "objectclass:inetorgperson"), en("cn=a", "cn:a", "sn:b", "objectclass:inetorgperson", "uid:u", "mail:m"), en("cn=a", "cn:a", "sn:b", "objectclass:person|inetorgperson|top"), en("cn=a", "cn:a", "sn:b", "objectclass:inetorgperson|person", "mail:m"), en("cn=a", "cn:a", "sn:b", "uid:u", "uidnumber:0", "objectclass:posix|person"), en("o=x", "o:x", "uid:u", "uidnumber:1", "objectclass:organization|posix"),
		group("member:cn=a"), group("member:cn=a|cn=b,o=x", "description:d"), en("cn=a", "cn:a", "o:x", "objectclass:person|organization", "sn:b"), en("cn=a", "cn:a", "o:x", "ou:y", "sn:b", "uid:u", "uidnumber:1", "member:o=x", "mail:m", "description:d", "userpassword:p", "objectclass:top|organization|organizationalunit|person|inetorgperson|posix|groupofnames"),
		// All that may be often is often there.
		person("description:" + count(api.MaxVals)), group("member:o=x|o=y|o=z"), en("cn=v7", "cn:"+count(api.MaxVals), "objectclass:person", "sn:"+count(api.MaxVals)),
		person("userpassword:a|A| a|a "), person("description:" + strings.Repeat("x", api.MaxVal)), posix("uidnumber:999999999999999"),
	} {
		check(t, e, api.Success)
	}
}

// TestBadDn: 4.2, names that are none, whatever else is wrong.
func TestBadDn(t *testing.T) {
	for _, name := range []string{
		"", " ", "x", "cn", "cn=", "=", "=Ann", ",", "cn=Ann,", ",cn=Ann", "cn=Ann, o=x", "cn= Ann", "cn=Ann ", "cn=#Ann", "1=Ann", "c_n=Ann", "cn=Ann+sn=Lee", "cn=\"Ann\"", `cn=\`, `cn=\4`, "cn=\xff", `cn=\ `, `cn=\20\20`, `cn=Ann,o=\ `, `o=\ ,cn=Ann`,
		"cn=" + strings.Repeat("x", api.MaxVal+1), strings.Repeat("c", api.MaxType+1) + "=Ann", strings.Repeat("cn=Ann,", api.MaxRdns) + "cn=Ann", "cn=Ann" + strings.Repeat(" ", 1<<22), strings.Repeat("cn=Ann,", 1<<20), strings.Repeat(",", 1<<22),
	} {
		for _, e := range []api.Entry{person(), {}, en("", "dc"), en("", slices.Repeat([]string{"dc"}, api.MaxAttrs+1)...), person("cn:"), en("", "cn:a"), en("", "cn:a", "objectclass:none")} {
			e.Dn = name
			check(t, e, api.BadDn)
		}
	}
}

// TestMany: 4.2, MaxAttrs attributes, and one more. There are fewer types than that, so that of MaxAttrs one is wrong, too.
func TestMany(t *testing.T) {
	for a, want := range map[string]int{"dc:x": api.UndefinedType, "": api.UndefinedType, "cn:a": api.ValueExists, "cn:": api.BadSyntax, "mail:m|m": api.ValueExists} {
		for _, n := range []int{2, api.MaxAttrs - 1, api.MaxAttrs} {
			check(t, en("cn=a", slices.Repeat([]string{a}, n)...), want)
		}
		for _, n := range []int{api.MaxAttrs + 1, api.MaxAttrs + 2, 2 * api.MaxAttrs, 1 << 12} {
			check(t, en("cn=a", slices.Repeat([]string{a}, n)...), api.Constraint)
		}
	}
	// All types there are, and types that there are not: the first of these counts, if there are not too many.
	all := []string{"cn:a", "objectclass:person|organization|organizationalunit|posix|inetorgperson|groupofnames", "sn:s", "o:o", "ou:u", "uid:u", "mail:m", "description:d", "uidnumber:1", "member:o=x", "userpassword:p"}
	check(t, en("cn=a", all...), api.Success)
	for n := len(all) + 1; n < 2*api.MaxAttrs; n++ {
		want := api.UndefinedType
		if n > api.MaxAttrs {
			want = api.Constraint
		}
		check(t, en("cn=a", append(slices.Clone(all), slices.Repeat([]string{"dc:x"}, n-len(all))...)...), want)
	}
}

// TestAttr: 4.2, what is wrong of one attribute; of several things the first.
func TestAttr(t *testing.T) {
	long := strings.Repeat("x", api.MaxVal+1)
	for s, want := range map[string]int{
		"dc:x": api.UndefinedType, "dc": api.UndefinedType, "dc:": api.UndefinedType, ":x": api.UndefinedType, "": api.UndefinedType, " mail:m": api.UndefinedType, "mail :m": api.UndefinedType, "mails:m": api.UndefinedType, "ma\u0131l:m": api.UndefinedType, "u\u0130d:m": api.UndefinedType, "dc:" + count(41): api.UndefinedType, "dc:x|x": api.UndefinedType, strings.Repeat("c", 1<<20) + ":x": api.UndefinedType, "person:x": api.UndefinedType, "*:x": api.UndefinedType,
		"cn:b": api.ValueExists, "CN:b": api.ValueExists, "Cn:Ann": api.ValueExists, "cn": api.ValueExists, "cN": api.ValueExists, "cn:": api.ValueExists, "Sn:" + count(41): api.ValueExists, "OBJECTCLASS:none": api.ValueExists, "cn:b|b": api.ValueExists,
		"mail": api.Constraint, "MAIL": api.Constraint, "uidnumber": api.Constraint, "member": api.Constraint, "userpassword": api.Constraint, "mail:" + count(api.MaxVals+1): api.Constraint, "mail:" + count(1000): api.Constraint, "mail:" + strings.Repeat("|", api.MaxVals): api.Constraint, "description:" + strings.Repeat("m|", api.MaxVals) + "m": api.Constraint, "userpassword:" + count(41): api.Constraint, "member:" + count(41): api.Constraint,
		"uidnumber:1|2": api.Constraint, "uidNumber:1|2": api.Constraint, "UIDNUMBER:1|1": api.Constraint, "uidnumber:a|b": api.Constraint, "uidnumber:1|": api.Constraint, "uidnumber:" + strings.Repeat("1|", 39) + "1": api.Constraint, "uidnumber:" + count(41): api.Constraint,
		"mail:": api.BadSyntax, "mail: ": api.BadSyntax, "mail:   ": api.BadSyntax, "mail:" + long: api.BadSyntax, "mail:m|": api.BadSyntax, "mail:|m": api.BadSyntax, "mail:|": api.BadSyntax, "mail:m|m|": api.BadSyntax, "mail:m| M|  ": api.BadSyntax, "mail:" + count(39) + "| ": api.BadSyntax, "mail:m|" + long + "|m": api.BadSyntax, "mail:" + strings.Repeat("|", api.MaxVals-1): api.BadSyntax,
		"uidnumber:": api.BadSyntax, "uidnumber:a": api.BadSyntax, "uidnumber:05": api.BadSyntax, "uidnumber:-0": api.BadSyntax, "uidnumber:+5": api.BadSyntax, "uidnumber: 5": api.BadSyntax, "uidnumber:1000000000000000": api.BadSyntax,
		"member:": api.BadSyntax, "member:none": api.BadSyntax, "member:cn=": api.BadSyntax, `member:cn=\ `: api.BadSyntax, "member:o=x|o= y": api.BadSyntax, "member:o=x|O=X|o": api.BadSyntax,
		"userpassword:": api.BadSyntax, "userpassword:p|": api.BadSyntax, "userpassword:" + long: api.BadSyntax, "userpassword:p|p|": api.BadSyntax,
		"mail:m|m": api.ValueExists, "mail:m|M": api.ValueExists, "mail: m|m  ": api.ValueExists, "mail:a  b|A B": api.ValueExists, "mail:a|b|c|d|A": api.ValueExists, "mail:a|b|c|C|d": api.ValueExists, "mail:" + count(39) + "|V38": api.ValueExists, "mail:" + count(39) + "|v0": api.ValueExists,
		"member:o=x|O=X": api.ValueExists, `member:cn=a|o=y|cn=\41`: api.ValueExists, "userpassword:p|q|p": api.ValueExists, "userpassword:p|p": api.ValueExists,
		// Nothing is wrong of these alone, but they are none of a person's.
		"mail:m": api.BadClass, "mail:m|n": api.BadClass, "mail:ab|a b": api.BadClass, "mail:m\t|m": api.BadClass, "mail:ä|Ä": api.BadClass, "mail:" + count(api.MaxVals): api.BadClass, "uidnumber:1": api.BadClass, "member:o=x|o=y": api.BadClass, "uid:u": api.BadClass, "o:x": api.BadClass, "ou:x": api.BadClass,
	} {
		check(t, person(s), want)
		// What is wrong further on, or in all of it, does not count, but where only that is.
		e := person(s, "dc:x")
		if want == api.BadClass {
			check(t, e, api.UndefinedType)
			continue
		}
		check(t, e, want)
		check(t, person(s, "mail", "description:|", "cn:c"), want)
		e.Dn = "dc=y"
		check(t, e, want)
		e.Attrs[1].Vals = []string{"none"}
		check(t, e, want)
	}
}

// TestOrder: 4.2, of two attributes that are wrong the first counts, whatever of it is.
func TestOrder(t *testing.T) {
	wrong := map[string]int{"dc:x": api.UndefinedType, "CN:b": api.ValueExists, "mail": api.Constraint, "uidnumber:1|2": api.Constraint, "uid: ": api.BadSyntax, "member:x": api.BadSyntax, "ou:x|X": api.ValueExists}
	for a, want := range wrong {
		for b, second := range wrong {
			check(t, person(a, b), want)
			check(t, person(a, "description:d", b), want)
			check(t, person("description:d", b, a), second)
			check(t, en("cn=Ann", "cn:Ann", a, b, "objectclass:person"), want)
		}
	}
	// An attribute is looked at whole, ahead of the next one.
	check(t, en("cn=a", "cn:a|A", "cn:b", "dc:x"), api.ValueExists)
	check(t, en("cn=a", "cn", "dc:x"), api.Constraint)
	check(t, en("cn=a", "cn:", "cn:"), api.BadSyntax)
	check(t, en("cn=a", "cn:a", "dc:x", "CN:b"), api.UndefinedType)
	check(t, en("cn=a", "cn:a", "CN:b", "dc:x"), api.ValueExists)
}

// TestSameType: 4.2, a type twice, of each type, in letters of either case, side by side and apart.
func TestSameType(t *testing.T) {
	for _, a := range []string{"objectclass:person", "cn:a", "sn:a", "o:a", "ou:a", "uid:a", "mail:a", "description:a", "uidnumber:1", "member:o=x", "userpassword:p"} {
		typ, val, _ := strings.Cut(a, ":")
		for _, again := range []string{typ, strings.ToUpper(typ), strings.ToUpper(typ[:1]) + typ[1:]} {
			check(t, en("cn=a", a, again+":"+val), api.ValueExists)
			check(t, en("cn=a", again+":"+val, a), api.ValueExists)
			check(t, en("cn=a", again, a), api.Constraint)
			if typ != "cn" {
				check(t, en("cn=a", a, "cn:a", again+":"+val), api.ValueExists)
			}
		}
	}
}

// TestBadClass: 4.2, what is wrong of classes, ahead of what is wrong of the name.
func TestBadClass(t *testing.T) {
	for _, s := range [][]string{
		nil, {"cn:a"}, {"cn:a", "sn:b"}, {"description:d"},
		{"cn:a", "sn:b", "objectclass:none"}, {"cn:a", "sn:b", "objectclass:person|none"}, {"cn:a", "sn:b", "objectclass:none|person"}, {"cn:a", "sn:b", "objectclass:persons"}, {"cn:a", "sn:b", "objectclass:per son"}, {"cn:a", "sn:b", "objectclass:\tperson"}, {"cn:a", "sn:b", "objectclass:person,top"}, {"cn:a", "sn:b", "objectclass:per\u017fon"}, {"cn:a", "sn:b", "objectclass:person|top|person top"}, {"cn:a", "sn:b", "objectclass:-"},
		{"objectclass:top"}, {"objectclass:top|posix", "uid:a", "uidnumber:1"}, {"objectclass:posix", "uid:a", "uidnumber:1"}, {"cn:a", "sn:b", "objectclass:top"}, {"cn:a", "sn:b", "objectclass:posix"},
		{"objectclass:person"}, {"cn:a", "objectclass:person"}, {"sn:a", "objectclass:person"}, {"cn:a", "objectclass:inetorgperson"}, {"sn:a", "objectclass:inetorgperson", "mail:m"}, {"objectclass:organization"}, {"objectclass:organizationalunit", "o:a"}, {"cn:a", "objectclass:groupofnames"}, {"member:o=x", "objectclass:groupofnames"},
		{"cn:a", "sn:b", "objectclass:person|posix"}, {"cn:a", "sn:b", "uid:u", "objectclass:person|posix"}, {"cn:a", "sn:b", "uidnumber:1", "objectclass:person|posix"}, {"cn:a", "sn:b", "objectclass:person|organization"}, {"cn:a", "sn:b", "objectclass:organization|person"}, {"o:x", "objectclass:person|organization"},
		{"cn:a", "sn:b", "objectclass:person", "mail:m"}, {"cn:a", "sn:b", "objectclass:person", "uid:u"}, {"cn:a", "sn:b", "objectclass:person", "uidnumber:1"}, {"cn:a", "sn:b", "objectclass:person", "o:x"}, {"mail:m", "cn:a", "sn:b", "objectclass:person"}, {"cn:a", "sn:b", "objectclass:inetorgperson", "uidnumber:1"}, {"cn:a", "sn:b", "objectclass:inetorgperson", "member:o=x"}, {"o:x", "objectclass:organization", "userpassword:p"}, {"cn:a", "member:o=x", "objectclass:groupofnames", "sn:b"}, {"cn:a", "member:o=x", "objectclass:groupofnames", "userpassword:p"},
	} {
		for _, name := range []string{"cn=a", "o=x", "dc=a", "cn=none,o=x", "uidnumber=1", "objectclass=none"} {
			check(t, en(name, s...), api.BadClass)
		}
	}
}

// must, may tell by 4.1 what a class, with those above it, must and may have.
func must() []string {
	return []string{"objectclass", "objectclass o", "objectclass ou", "objectclass cn sn", "objectclass cn sn", "objectclass uid uidnumber", "objectclass cn member"}
}

func may() []string {
	return []string{"", "description", "description", "description userpassword", "uid mail description userpassword", "", "description"}
}

// TestAllClasses: 4.2 and 4.3, all sets of classes with all sets of types.
func TestAllClasses(t *testing.T) {
	all := attrs("cn:v", "sn:v", "o:v", "ou:v", "uid:v", "mail:v", "description:v", "uidnumber:1", "member:o=x", "userpassword:v")
	bits := func(types string) int {
		sum := 0
		for i, a := range all {
			if slices.Contains(strings.Fields(types), a.Type) {
				sum |= 1 << i
			}
		}
		return sum
	}
	good := 0
	for classes := 1; classes < 1<<7; classes++ {
		e := api.Entry{Attrs: make([]api.Attr, 1, 11)}
		e.Attrs[0].Type = "objectclass"
		structural, needed, let := false, 0, 0
		for i, c := range doc() {
			if classes>>i&1 == 1 {
				e.Attrs[0].Vals = append(e.Attrs[0].Vals, c.Name)
				structural = structural || c.Structural
				needed |= bits(must()[i])
				let |= bits(must()[i] + " " + may()[i])
			}
		}
		for types := range 1 << len(all) {
			e.Attrs, e.Dn = e.Attrs[:1], "objectclass="+e.Attrs[0].Vals[0]
			for i, a := range all {
				if types>>i&1 == 1 {
					e.Attrs = append(e.Attrs, a)
					e.Dn = a.Type + "=" + a.Vals[0]
				}
			}
			want := api.BadClass
			if structural && types&needed == needed && types&^let == 0 {
				want = api.Success
				good++
			}
			if code := schema.Check(e); code != want {
				t.Fatalf("4.2: Check of %v: %d", e, code)
			}
		}
	}
	if good < 500 {
		t.Error("few of them may be:", good)
	}
}

// TestMore: 4.3, a type more, that no class may have, wherever it stands among the others.
func TestMore(t *testing.T) {
	for _, e := range []api.Entry{person(), posix("uidnumber:1"), group("member:o=x"), en("o=x", "o:x", "objectclass:organization"), en("ou=x", "ou:x", "objectclass:organizationalunit")} {
		check(t, e, api.Success)
		let := ""
		for _, a := range e.Attrs {
			let += a.Type + " "
			if a.Type != "objectclass" {
				continue
			}
			for i, c := range doc() {
				if slices.Contains(a.Vals, c.Name) {
					let += must()[i] + " " + may()[i] + " "
				}
			}
		}
		for _, a := range attrs("cn:a", "SN:a", "o:a", "Ou:a", "uid:a", "mail:a", "description:a", "uidNumber:1", "member:o=x", "USERPASSWORD:a") {
			for at := range len(e.Attrs) + 1 {
				more := api.Entry{Dn: e.Dn, Attrs: slices.Insert(slices.Clone(e.Attrs), at, a)}
				switch {
				case slices.ContainsFunc(e.Attrs, func(b api.Attr) bool { return b.Type == small(a.Type) }):
					check(t, more, api.ValueExists)
				case slices.Contains(strings.Fields(let), small(a.Type)):
					check(t, more, api.Success)
				default:
					check(t, more, api.BadClass)
				}
			}
		}
	}
}

// TestBadName: 4.2, the name's first part and the values of its type.
func TestBadName(t *testing.T) {
	most := "cn=Ann" + strings.Repeat(",cn=Bob", api.MaxRdns-1)
	x := strings.Repeat("x", api.MaxVal-3)
	for name, want := range map[string]int{
		"cn=Ann": 0, "cn=Ann,o=x": 0, "CN=ann": 0, "Cn=ANN,dc=y": 0, `cn=\ ANN\ \ `: 0, `cn=\41nn`: 0, `cn=\61\4E\6e`: 0, `cn=\20Ann`: 0, most: 0, "cn=a  b": 0, "CN=A B": 0, `cn=a\20b`: 0, `cn=a\,b`: 0, `cn=A\2cB`: 0, `cn=\#1`: 0, "sn=lee": 0, "SN=Lee,cn=none": 0, "objectclass=INETORGPERSON": 0, "objectClass=posix": 0, "uid=u": 0, "mail=m@x": 0, "description=D": 0, `description=\00\ff`: 0, "cn=" + x + "yz.": 0, "cn=" + strings.ToUpper(x) + "YZ.": 0,
		"uidnumber=5": 0, "UIDNUMBER=5": 0, `uidNumber=\35`: 0, "uidnumber=05": api.BadName, `uidnumber=\+5`: api.BadName, `uidnumber=\ 5`: api.BadName, "uidnumber=6": api.BadName, "uidnumber=a": api.BadName,
		"userpassword=Pw": 0, "USERPASSWORD=Pw": 0, `userpassword=\50w`: 0, "userpassword=pw": api.BadName, "userpassword=PW": api.BadName, `userpassword=\ Pw`: api.BadName,
		"member=none": api.BadName, `member=o\=x`: 0, "member=o=x": 0, "member=O=X": 0, `member=o=\\58`: 0, `member=cn=a\,o=x`: 0, `member=CN=A\2co\3dX`: 0, "member=cn=a,o=x": api.BadName, `member=o=\58`: 0, "member=o=y": api.BadName, `member=o=\ x`: api.BadName, `member=o=x\ `: api.BadName,
		"cn=Bob": api.BadName, "cn=Ann1": api.BadName, "cn=An": api.BadName, "cn=An n": api.BadName, "cn=none,cn=Ann": api.BadName, "o=Ann,cn=Ann": api.BadName, "cn=Lee": api.BadName, "sn=Ann": api.BadName, "objectclass=person": api.BadName, "objectclass=top": api.BadName, "ou=Ann": api.BadName, "o=x": api.BadName,
		"dc=Ann": api.BadName, "dc=x,cn=Ann": api.BadName, "c=Ann": api.BadName, "cnn=Ann": api.BadName, "x-1=Ann": api.BadName, strings.Repeat("cn", api.MaxType/2) + "=Ann": api.BadName, "cn=ab": api.BadName, `cn=\09Ann`: api.BadName, `cn=Ann\00`: api.BadName, "cn=" + x: api.BadName,
	} {
		e := en(name, "CN:Bo|Ann|a b|a,b|#1|"+x+"YZ.", "objectclass:inetOrgPerson| Posix|groupOfNames", "sn:Lee", "uid:U", "uidNumber:5", "mail:M@x", "userPassword:Pw", "member:o=y,o=y|o=X|cn=a,o=x", "description:d|\x00\xff")
		check(t, e, want)
		// Wherever they stand.
		slices.Reverse(e.Attrs)
		check(t, e, want)
		for _, a := range e.Attrs {
			slices.Reverse(a.Vals)
		}
		check(t, e, want)
	}
	// A type that may be, but is not there.
	check(t, en("mail=m", "cn:a", "sn:b", "objectclass:inetorgperson"), api.BadName)
	check(t, en("uid=a", "cn:a", "sn:b", "objectclass:inetorgperson"), api.BadName)
}

// TestLong: R1, long texts and lists end in no long time.
func TestLong(t *testing.T) {
	const n = 1 << 22
	long := strings.Repeat("x", n)
	check(t, person("description:"+long), api.BadSyntax)
	check(t, person("description:"+strings.Repeat("|", n)), api.Constraint)
	check(t, person(long+":x"), api.UndefinedType)
	check(t, en("cn="+long, "cn:"+long), api.BadDn)
	check(t, en("cn=a", "cn:a", "sn:b", "objectclass:"+long), api.BadSyntax)
	check(t, api.Entry{Dn: "cn=a", Attrs: make([]api.Attr, 1<<20)}, api.Constraint)
}

// TestCheckMemory: R3, what is handed in stays, the room behind it, too.
func TestCheckMemory(t *testing.T) {
	room := person("mail:z|y|x", "dc:spare")
	vals := append(make([]string, 0, 8), "d", "c", "b")
	room.Attrs[3] = api.Attr{Type: "DESCRIPTION", Vals: vals}
	was := fmt.Sprint(room, vals[:8])
	e := api.Entry{Dn: room.Dn, Attrs: room.Attrs[:4]}
	for range 3 {
		check(t, e, api.Success)
		check(t, room, api.UndefinedType)
	}
	if fmt.Sprint(room, vals[:8]) != was {
		t.Error("R3: what was handed in", room)
	}
}
