package acl_test

import (
	"fmt"
	"math"
	"slices"
	"strings"
	"testing"

	"brook/acl"
	"brook/api"
	"brook/match"
)

func rule(who int, name, target string, deep bool, right int, types ...string) api.Rule {
	return api.Rule{Who: who, Dn: name, Target: target, Deep: deep, Types: types, Right: right}
}

// plain is a rule that may be, which says that anybody may read all.
func plain() api.Rule { return rule(api.WAny, "", "", true, api.Read) }

// text tells what stands in something, as far as it is short.
func text(x any) string {
	s := fmt.Sprintf("%+v", x)
	return s[:min(len(s), 400)]
}

// forms are lists in which r stands alone, ahead of others, behind them, and between them.
func forms(r api.Rule) [][]api.Rule {
	return [][]api.Rule{{r}, {r, plain()}, {plain(), r}, {plain(), r, plain()}, append(slices.Repeat([]api.Rule{plain()}, api.MaxVals-1), r), append([]api.Rule{r}, slices.Repeat([]api.Rule{plain()}, api.MaxVals-1)...)}
}

// checkMay asks May of a rule alone and among others.
func checkMay(t *testing.T, want bool, r api.Rule) {
	t.Helper()
	for i, l := range forms(r) {
		if acl.May(l) != want {
			t.Errorf("10.1: May of %s, form %d: %v", text(r), i, !want)
		}
	}
}

const most = "cn=Ann,cn=Ann,cn=Ann,cn=Ann,cn=Ann,cn=Ann,cn=Ann,cn=Ann"

var (
	longVal   = strings.Repeat("v", api.MaxVal)
	longType  = strings.Repeat("t", api.MaxType)
	names     = []string{"o=x", "O=X", "CN=Ann  Lee,O=x", `cn=\41,o=\2c`, `cn=\20A\20,o=x`, "dc=x", "none=x", most, "cn=" + longVal, longType + "=x", `cn=\00\ff`, `cn=\=,o=a\ b`}
	notNames  = []string{"no name", " ", "x", "o", "o=", "=x", "o= x", "o=x ", `o=\20`, `o=\ `, `o=\20\20,o=x`, `o=x,o=\20`, "o=x,", ",o=x", ",", "o=x,,o=y", "o=x, cn=a", "o=x,cn=", "1=x", "o_=x", "cn=a," + most, "cn=v" + longVal, longType + "t=x", "o=é", "o=x\x00", "cn=a+sn=b", `o="x"`, `o=x\`, `o=\4`, `o=\zz`, "*", "entry", "cn=ann;o=x"}
	types     = []string{"objectclass", "cn", "sn", "o", "ou", "uid", "mail", "description", "uidnumber", "member", "userpassword"}
	notTypes  = []string{"", " ", "dc", "top", "person", "*", "c", "cnn", "cn ", " cn", "cn;", "cn\x00", "s", "userpasswor", "userpasswords", "entries", "entr", "entry ", " entry", "ma\u0131l", "\u017fn", "\xff", "1", "o=x", longType}
	tellTypes = append(slices.Clone(types), "entry")
)

// TestMay: 10.1, how many rules there are.
func TestMay(t *testing.T) {
	many := slices.Repeat([]api.Rule{plain()}, 1<<17)
	for n, want := range map[int]bool{0: true, 1: true, 2: true, 39: true, api.MaxVals: true, api.MaxVals + 1: false, 42: false, 80: false, 1 << 17: false} {
		if acl.May(many[:n]) != want {
			t.Errorf("10.1: May of %d rules: %v", n, !want)
		}
	}
	if !acl.May(nil) || !acl.May([]api.Rule{}) || !acl.May(make([]api.Rule, 0, 50)) {
		t.Error("10.1: May of none")
	}
	// Rules that say the same, or against one another, may be.
	l := []api.Rule{plain(), plain(), rule(api.WAny, "", "", true, api.No), rule(api.WSelf, "", "o=x", false, api.Write, "cn"), rule(api.WDn, "cn=a", "O=X", false, api.No, "cn", "cn")}
	if !acl.May(l) {
		t.Error("10.1: May of several")
	}
	if acl.May(append(l, api.Rule{})) || acl.May([]api.Rule{{}}) {
		t.Error("10.1: May of the empty rule")
	}
}

// TestMayWho: 10.1, Who, and the Dn that fits it.
func TestMayWho(t *testing.T) {
	for _, who := range []int{api.WAny, api.WUser, api.WSelf} {
		checkMay(t, true, rule(who, "", "o=x", true, api.Read))
		for _, name := range slices.Concat(names, notNames) {
			checkMay(t, false, rule(who, name, "o=x", true, api.Read))
		}
	}
	for _, name := range names {
		checkMay(t, true, rule(api.WDn, name, "o=x", true, api.Read))
	}
	for _, name := range append(notNames, "") {
		checkMay(t, false, rule(api.WDn, name, "o=x", true, api.Read))
	}
	for _, who := range []int{0, -1, -4, 5, 6, 8, 16, 1 << 8, 1<<8 + 1, 1<<16 + 2, 1<<32 + 3, 1<<32 + 4, math.MaxInt, math.MinInt} {
		checkMay(t, false, rule(who, "", "o=x", true, api.Read))
		checkMay(t, false, rule(who, "cn=a", "o=x", true, api.Read))
	}
}

// TestMayTarget: 10.1, Target is a name, or the empty one, whether Deep or not.
func TestMayTarget(t *testing.T) {
	for _, deep := range []bool{false, true} {
		for _, target := range append(names, "") {
			checkMay(t, true, rule(api.WAny, "", target, deep, api.Read))
			checkMay(t, true, rule(api.WDn, "cn=a", target, deep, api.Read))
		}
		for _, target := range notNames {
			checkMay(t, false, rule(api.WAny, "", target, deep, api.Read))
			checkMay(t, false, rule(api.WDn, "cn=a", target, deep, api.Read))
		}
	}
}

// TestMayRight: 10.1, Right.
func TestMayRight(t *testing.T) {
	for right := -20; right < 40; right++ {
		checkMay(t, right >= api.No && right <= api.Write, rule(api.WUser, "", "o=x", false, right, "cn"))
	}
	for _, right := range []int{1 << 8, 1<<8 + 1, 1 << 16, 1 << 32, 1<<32 + 2, math.MaxInt, math.MinInt, math.MinInt + 1} {
		checkMay(t, false, rule(api.WUser, "", "o=x", false, right, "cn"))
	}
}

// TestMayTypes: 10.1, Types are some that there are, or `entry`, in letters a to z.
func TestMayTypes(t *testing.T) {
	for _, typ := range tellTypes {
		checkMay(t, true, rule(api.WAny, "", "", true, api.Read, typ))
		for i := range typ {
			checkMay(t, false, rule(api.WAny, "", "", true, api.Read, typ[:i]+strings.ToUpper(typ[i:i+1])+typ[i+1:]))
		}
		checkMay(t, false, rule(api.WAny, "", "", true, api.Read, strings.ToUpper(typ)))
	}
	for _, typ := range notTypes {
		checkMay(t, false, rule(api.WAny, "", "", true, api.Read, typ))
		checkMay(t, false, rule(api.WAny, "", "", true, api.Read, typ, "cn"))
		checkMay(t, false, rule(api.WAny, "", "", true, api.Read, "entry", "cn", typ))
		checkMay(t, false, rule(api.WAny, "", "", true, api.Read, "sn", typ, "cn"))
	}
	checkMay(t, true, rule(api.WAny, "", "", true, api.Read, tellTypes...))
	checkMay(t, true, api.Rule{Who: api.WAny, Types: []string{}})
}

// TestMayEach: 10.1, of each type each byte more, or another one.
func TestMayEach(t *testing.T) {
	for _, typ := range tellTypes {
		for c := range 256 {
			b := string([]byte{byte(c)})
			for _, other := range []string{typ + b, b + typ, typ[:len(typ)-1] + b, b + typ[1:]} {
				name, ok := match.Canon(other)
				want := other == "entry" || ok && name == other
				if acl.May([]api.Rule{rule(api.WAny, "", "", true, api.Read, other)}) != want {
					t.Errorf("10.1: May of the type %q: %v", other, !want)
				}
			}
		}
	}
}

// TestMayManyTypes: 10.1, at most MaxAttrs of Types, alike ones, too.
func TestMayManyTypes(t *testing.T) {
	for _, typ := range []string{"cn", "entry"} {
		for n, want := range map[int]bool{0: true, 1: true, 2: true, 12: true, 19: true, api.MaxAttrs: true, api.MaxAttrs + 1: false, 22: false, 40: false, 1 << 16: false} {
			checkMay(t, want, rule(api.WAny, "", "", true, api.Read, slices.Repeat([]string{typ}, n)...))
		}
	}
	full := slices.Concat(tellTypes, types)[:api.MaxAttrs]
	checkMay(t, true, rule(api.WAny, "", "", true, api.Read, full...))
	checkMay(t, false, rule(api.WAny, "", "", true, api.Read, append(full, "cn")...))
	for i := range full {
		bad := slices.Clone(full)
		bad[i] = strings.ToUpper(bad[i])
		checkMay(t, false, rule(api.WAny, "", "", true, api.Read, bad...))
	}
	// Of forty full rules each may be, and the last one may not.
	l := slices.Repeat([]api.Rule{rule(api.WDn, most, most, true, api.Write, full...)}, api.MaxVals)
	if !acl.May(l) {
		t.Error("10.1: May of forty full rules")
	}
	l[api.MaxVals-1].Right = 3
	if acl.May(l) {
		t.Error("10.1: May of thirty-nine rules and one that may not be")
	}
}
