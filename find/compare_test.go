package find_test

import (
	"fmt"
	"slices"
	"strings"
	"testing"

	"brook/acl"
	"brook/api"
	"brook/find"
	"brook/tree"
)

// compare asks Compare twice of what may be, and sees that what was handed in stays.
func compare(t *testing.T, l []api.Entry, rules []api.Rule, who, name, typ, val string) int {
	t.Helper()
	if !tree.May(l) || !acl.May(rules) {
		t.Fatal("the test's own", text(l), rules)
	}
	was := fmt.Sprint(l, rules)
	code := find.Compare(l, rules, who, name, typ, val)
	if again := find.Compare(l, rules, who, name, typ, val); again != code {
		t.Errorf("R1: Compare of %q, %q, %q: %d, then %d", name, typ, val, code, again)
	}
	if fmt.Sprint(l, rules) != was {
		t.Fatal("R3: what was handed in")
	}
	return code
}

func checkCompare(t *testing.T, want int, rules []api.Rule, who, name, typ, val string) {
	t.Helper()
	if got := compare(t, many(), rules, who, name, typ, val); got != want {
		t.Errorf("11.2: Compare by %q of %.50q, %.50q, %.50q: %d, not %d", who, name, typ, val, got, want)
	}
}

// many is company and what has the types that nobody there has.
func many() []api.Entry {
	l := tree.Put(company(), en("cn=Group,o=y", "cn:Group", "description:G", "member:CN=Ann,ou=a,O=x|cn=Bob", "objectclass:groupofnames"))
	return tree.Put(l, en("cn=Zoe,o=y", "cn:Zoe", "objectclass:person|posix", "sn:Z", "uid:z", "uidnumber:-15"))
}

// TestCompareVals: 11.2, CompareTrue of a value like one that the entry has, by the type's rule, else CompareFalse.
func TestCompareVals(t *testing.T) {
	const group, zoe = "cn=group,O=Y", "CN=ZOE,o=y"
	for _, c := range []struct{ name, typ, is, not string }{
		{annKey, "cn", "Ann|ann|ANN| ann |Boss|boss|bOSS", "An|Anna|A nn|Bob|cn|cn=ann|Ann,Boss|Ann Boss|\xff"},
		{"CN=Ann,OU=a,o=X", "CN", "Ann|boss", "b"},
		{annKey, "Description", "d ann|D  Ann| D   ANN |second", "dann|D|ann|first"},
		{annKey, "objectClass", "inetOrgPerson| INETORGPERSON", "person|top"},
		{annKey, "userPassword", "pw Ann", "pw ann|pw  Ann| pw Ann|PW Ann|p| |pw Ann "},
		{annKey, "mail", "ANN@x|ann@X", "bob@x|ann"},
		{"o=x", "o", "x|X| x ", "y|o=x"},
		{"ou=a,o=x", "OU", "a|A", "b|in|aa"},
		{zoe, "uidNumber", "-15", "15|-1|0|-150"},
		{group, "member", `cn=ann,ou=a,o=x|CN=ANN,ou=A,o=X|cn=\41nn,ou=a,o=x|cn=bob|CN=BOB`, "cn=ann|cn=bob,o=x|ou=a,o=x|cn=zoe"},
	} {
		for _, right := range []int{api.Read, api.Write} {
			rules := list(rule(api.WAny, "", "", true, right))
			for _, val := range strings.Split(c.is, "|") {
				checkCompare(t, api.CompareTrue, rules, "", c.name, c.typ, val)
			}
			for _, val := range strings.Split(c.not, "|") {
				checkCompare(t, api.CompareFalse, rules, "", c.name, c.typ, val)
			}
		}
	}
}

// TestCompareNames: 11.2, BadDn of what is no name, NoObject of one that is not there, and of the empty one.
func TestCompareNames(t *testing.T) {
	for _, rules := range [][]api.Rule{open(), nil} {
		for _, typ := range []string{"cn", "dc", "", "userpassword"} {
			for _, val := range []string{"Ann", "", "x"} {
				for _, name := range notNames {
					checkCompare(t, api.BadDn, rules, "", name, typ, val)
				}
				for _, name := range append(notThere, "") {
					checkCompare(t, api.NoObject, rules, annKey, name, typ, val)
				}
				if code := compare(t, nil, rules, "", "o=x", typ, val); code != api.NoObject {
					t.Error("11.2: of an empty tree", code)
				}
				if code := compare(t, nil, rules, "", "", typ, val); code != api.NoObject {
					t.Error("11.2: of the empty name in an empty tree", code)
				}
				if code := compare(t, nil, rules, "", "x", typ, val); code != api.BadDn {
					t.Error("11.2: of what is no name in an empty tree", code)
				}
			}
		}
	}
}

// TestCompareTypes: 11.2, UndefinedType of a type that there is not, whatever the right and the value.
func TestCompareTypes(t *testing.T) {
	for _, typ := range []string{"", " ", "dc", "*", "entry", "top", "person", "c", "cnn", "cn ", " cn", "cn;x", "cn\x00", "2.5.4.3", "ma\u0131l", "\u017fn", "\xff", "uidnumbers", strings.Repeat("t", api.MaxType), strings.Repeat("t", api.MaxType+1), strings.Repeat("cn", 1<<16), "[n", "c.", "=", "(cn=*)"} {
		for _, rules := range [][]api.Rule{open(), nil, list(rule(api.WAny, "", "", true, api.Write, "entry"))} {
			for _, val := range []string{"Ann", "", " ", strings.Repeat("v", api.MaxVal+1)} {
				checkCompare(t, api.UndefinedType, rules, "", annKey, typ, val)
			}
		}
	}
	for _, typ := range strings.Fields("objectclass cn sn o ou uid mail description uidnumber member userpassword OBJECTCLASS Cn sN O Ou UID mAIL descriptioN uidNumber Member userPassword") {
		if code := compare(t, many(), open(), "", annKey, typ, "5"); code == api.UndefinedType || code == api.NoRight {
			t.Error("11.2: of a type that there is", typ, code)
		}
	}
}

// TestCompareRights: 11.2, NoRight where Right is No, by the first rule that speaks of it; it is asked ahead of what the value is, and of what the entry has.
func TestCompareRights(t *testing.T) {
	no, read, write := rule(api.WAny, "", "o=x", true, api.No, "cn", "mail"), rule(api.WAny, "", "o=x", true, api.Read, "cn", "sn"), rule(api.WAny, "", "o=x", true, api.Write, "cn", "o")
	for _, c := range []struct {
		rules []api.Rule
		want  bool
	}{
		{nil, false}, {list(no), false}, {list(read), true}, {list(write), true}, {list(no, read), false}, {list(no, write), false}, {list(read, no), true}, {list(write, no), true}, {list(rule(api.WAny, "", "o=x", false, api.No), read), true}, {list(rule(api.WUser, "", "", true, api.No), read), true}, {list(rule(api.WUser, "", "", true, api.Read), no), false}, {list(rule(api.WSelf, "", "", true, api.Read)), false}, {list(rule(api.WAny, "", "", true, api.No, "entry"), read), true}, {list(rule(api.WAny, "", "", true, api.Read, "entry")), false}, {list(rule(api.WAny, "", "ou=a,o=x", false, api.Read)), false}, {list(rule(api.WAny, "", "OU=A,o=x", true, api.Read)), true}, {list(rule(api.WAny, "", "CN=Ann,OU=A,o=x", false, api.Write)), true},
	} {
		codes := map[[2]string]int{{"cn", "ann"}: api.CompareTrue, {"CN", "bob"}: api.CompareFalse, {"Cn", ""}: api.BadSyntax, {"cn", strings.Repeat("v", api.MaxVal+1)}: api.BadSyntax}
		for asked, code := range codes {
			if !c.want {
				code = api.NoRight
			}
			checkCompare(t, code, c.rules, "", annKey, asked[0], asked[1])
			checkCompare(t, code, c.rules, "", "CN=ANN,ou=A,O=X", asked[0], asked[1])
		}
		// Of what the entry does not have, too.
		for _, val := range []string{"x", ""} {
			checkCompare(t, api.NoRight, list(no), "", annKey, "ou", val)
			checkCompare(t, api.NoRight, list(read), "", annKey, "ou", val)
		}
	}
	for who, want := range map[string]int{"": api.NoRight, annKey: api.CompareTrue, eveKey: api.NoRight, danKey: api.NoRight} {
		checkCompare(t, want, house(), who, annKey, "userpassword", "pw Ann")
	}
	for who, want := range map[string]int{"": api.NoRight, annKey: api.CompareTrue, eveKey: api.CompareTrue, danKey: api.CompareTrue, "cn=nobody": api.CompareTrue} {
		checkCompare(t, want, house(), who, annKey, "cn", "boss")
	}
}

// TestCompareSyntax: 11.2, BadSyntax of a value without a Norm, ahead of whether the entry has the type.
func TestCompareSyntax(t *testing.T) {
	long := strings.Repeat("v", api.MaxVal)
	for typ, vals := range map[string][]string{
		"cn": {"", " ", "   ", long + "v", strings.Repeat(" ", api.MaxVal) + "a"}, "o": {"", "  "}, "uidnumber": {"", "x", "05", "-0", "+5", " 5", "5 ", "1234567890123456", "-", "0x5"}, "member": {"", "x", "no name", "o=", `o=\20`, "cn=Ann,"}, "userpassword": {"", long + "v"},
	} {
		for _, name := range []string{annKey, "o=x", "cn=zoe,o=y", "cn=group,o=y"} {
			for _, val := range vals {
				checkCompare(t, api.BadSyntax, open(), "", name, typ, val)
				checkCompare(t, api.BadSyntax, open(), annKey, name, strings.ToUpper(typ), val)
			}
		}
	}
	for typ, val := range map[string]string{"sn": long, "UserPassword": long, "description": " " + long[1:]} {
		checkCompare(t, api.CompareFalse, open(), "", annKey, typ, val)
	}
	checkCompare(t, api.CompareFalse, open(), "", annKey, "userpassword", " ")
	checkCompare(t, api.CompareFalse, open(), "", "cn=zoe,o=y", "uidnumber", "-123456789012345")
	checkCompare(t, api.CompareFalse, open(), "", "cn=group,o=y", "member", `cn=\00`)
}

// TestCompareNone: 11.2, NoAttribute of an entry without it, whatever values others have.
func TestCompareNone(t *testing.T) {
	for name, typs := range map[string]string{"o=x": "cn sn ou uid mail description uidnumber member userpassword", "ou=a,o=x": "cn o sn", annKey: "o ou uidNumber MEMBER", "cn=zoe,o=y": "userpassword description mail member ou", "cn=group,o=y": "sn uid o"} {
		for _, typ := range strings.Fields(typs) {
			val := map[string]string{"uidnumber": "5", "member": "cn=ann"}[strings.ToLower(typ)]
			if val == "" {
				val = "Ann"
			}
			checkCompare(t, api.NoAttribute, open(), "", name, typ, val)
		}
	}
}

// TestCompareFirst: 11.2, of several things that are wrong the first that the chapter names counts.
func TestCompareFirst(t *testing.T) {
	names := []struct {
		name string
		code int
	}{{"no name", api.BadDn}, {"", api.NoObject}, {"o=z", api.NoObject}, {"o=x", 0}}
	closed := list(rule(api.WAny, "", "", true, api.No, "cn"), open()[0])
	for _, n := range names {
		for _, typ := range []string{"dc", "cn", "sn", "o"} {
			for _, rules := range [][]api.Rule{nil, closed, open()} {
				for _, val := range []string{"", "x", "y"} {
					code := api.CompareFalse
					// From the last that counts to the first.
					if val == "x" {
						code = api.CompareTrue
					}
					if typ != "o" {
						code = api.NoAttribute
					}
					if val == "" {
						code = api.BadSyntax
					}
					if rules == nil || len(rules) == 2 && typ == "cn" {
						code = api.NoRight
					}
					if typ == "dc" {
						code = api.UndefinedType
					}
					if n.code != 0 {
						code = n.code
					}
					checkCompare(t, code, rules, "", n.name, typ, val)
				}
			}
		}
	}
}

// TestCompareEach: 11.2, each entry has each of its values, and none of another's that is not its own.
func TestCompareEach(t *testing.T) {
	l := many()
	for _, e := range l {
		for _, other := range l {
			for _, a := range other.Attrs {
				i := slices.IndexFunc(e.Attrs, func(own api.Attr) bool { return own.Type == a.Type })
				for _, val := range a.Vals {
					want := api.NoAttribute
					if i >= 0 {
						want = api.CompareFalse
						if slices.ContainsFunc(e.Attrs[i].Vals, func(own string) bool { return strings.EqualFold(own, val) }) {
							want = api.CompareTrue
						}
					}
					if got := find.Compare(l, open(), "", e.Dn, a.Type, val); got != want {
						t.Errorf("11.2: Compare of %q, %q, %q: %d, not %d", e.Dn, a.Type, val, got, want)
					}
				}
			}
		}
	}
}
