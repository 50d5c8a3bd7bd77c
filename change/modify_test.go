package change_test

import (
	"fmt"
	"strings"
	"testing"

	"brook/api"
	"brook/change"
	"brook/entry"
	"brook/tree"
)

// modsOf makes mods of texts: a kind, a blank, a type, and, behind a `:`, values with `|` between.
func modsOf(s ...string) []api.Mod {
	kinds := map[string]int{"add": api.MAdd, "del": api.MDel, "rep": api.MRep, "none": 0, "below": -1, "four": api.MRep + 1, "far": 1 << 40}
	var l []api.Mod
	for _, x := range s {
		kind, rest, _ := strings.Cut(x, " ")
		typ, vals, some := strings.Cut(rest, ":")
		m := api.Mod{Kind: kinds[kind], Type: typ}
		if some {
			m.Vals = strings.Split(vals, "|")
		}
		l = append(l, m)
	}
	return l
}

// modified is a case: what comes of Cy, or a code.
type modified struct {
	mods []string
	want []string
	code int
}

func becomes(attrs string, mods ...string) modified {
	return modified{mods: mods, want: strings.Split(attrs, ";")}
}

func says(code int, mods ...string) modified { return modified{mods: mods, code: code} }

// staff is the company, and Cy below a unit, of whose name the first part says ` CY `.
func staff(t *testing.T) []api.Entry {
	t.Helper()
	return treeOf(t, append(company(t), en(`CN=\ CY\ ,OU=a,o=x`, "cn:cy|Cyan", "description:d|E  f|g", "mail:m", "objectclass:inetorgperson|top", "sn:S", "userpassword:P|p"))...)
}

// staffName names Cy in other letters, what came of Cy has the name as it was.
const staffName = `cn=CY,OU=\41,O=x`

// check asks Modify of Cy.
func (c modified) check(t *testing.T, l []api.Entry) {
	t.Helper()
	was := text(l)
	d, code := change.Modify(l, staffName, modsOf(c.mods...)...)
	want := refused(c.code)
	if c.code == api.Success {
		want = added(en(`CN=\ CY\ ,OU=a,o=x`, c.want...))
	}
	if got := told(d, code); got != want || text(l) != was {
		t.Errorf("9.2: Modify by %q: %s", c.mods, got)
		return
	}
	if code == api.Success && len(behind(t, l, d)) != len(l) {
		t.Errorf("9.2: Modify by %q made more, or fewer, of the tree", c.mods)
	}
}

const (
	staffHead = "cn:cy|Cyan;description:"
	staffTail = ";mail:m;objectclass:inetorgperson|top;sn:S;userpassword:P|p"
	staffAll  = staffHead + "d|E  f|g" + staffTail
)

// but is staffAll with another text in the place of one.
func but(was, is string) string { return strings.Replace(staffAll, was, is, 1) }

// numbered makes values from one number up to another one.
func numbered(from, to int) string {
	var l []string
	for i := from; i <= to; i++ {
		l = append(l, fmt.Sprint("v", i))
	}
	return strings.Join(l, "|")
}

// TestModifyNames: 9.2, BadDn and NoObject, ahead of whatever the mods say.
func TestModifyNames(t *testing.T) {
	for _, l := range [][]api.Entry{company(t), nil, {}} {
		for _, mods := range [][]api.Mod{nil, modsOf("rep description:x"), modsOf("none dc"), modsOf("add sn:"), modsOf("rep objectclass")} {
			for _, name := range noNames {
				if got := told(change.Modify(l, name, mods...)); got != refused(api.BadDn) {
					t.Errorf("9.2: Modify of %.40q: %s", name, got)
				}
			}
			for _, name := range absent {
				if got := told(change.Modify(l, name, mods...)); got != refused(api.NoObject) {
					t.Errorf("9.2: Modify of %.40q: %s", name, got)
				}
			}
		}
	}
}

// TestModifyNone: 9.2, no mods at all: each entry as it is, whatever the letters that name it, and whether it has kids or not.
func TestModifyNone(t *testing.T) {
	l := staff(t)
	for _, e := range l {
		for _, name := range []string{e.Dn, strings.ToUpper(e.Dn), tree.Key(e)} {
			d, code := change.Modify(l, name)
			if got := told(d, code); got != added(e) || !tree.Same(behind(t, l, d), l) {
				t.Errorf("9.2: Modify of %q by nothing: %s", name, got)
			}
		}
	}
	becomes(staffAll).check(t, l)
}

// TestModifyKids: 9.2, an entry with kids may be modified; all others stay.
func TestModifyKids(t *testing.T) {
	l := company(t)
	d, code := change.Modify(l, "OU=A,o=x", modsOf("add description:new", "add OU:Other")...)
	if got := told(d, code); got != added(en("ou=a,o=x", "description:new", "objectclass:organizationalunit", "ou:a|Other")) {
		t.Errorf("9.2: Modify of one with kids: %s", got)
	}
	behind(t, l, d)
}

// TestModifyAdd: 9.2, MAdd.
func TestModifyAdd(t *testing.T) {
	l := staff(t)
	long := strings.Repeat("v", api.MaxVal)
	for _, c := range []modified{
		becomes(staffHead+"d|E  f|g|h"+staffTail, "add description:h"),
		becomes(staffHead+"d|E  f|g|z|H|a"+staffTail, "add DESCRIPTION:z|H|a"),
		becomes(staffHead+"d|E  f|g|z|y|x"+staffTail, "add description:z", "add Description:y|x"),
		becomes(staffHead+"d|E  f|g|"+long+staffTail, "add description:"+long),
		becomes("cn:cy|Cyan|C;description:d|E  f|g"+staffTail, "add CN:C"),
		becomes(but("sn:S", "sn:S;uid:u|V"), "add UID:u|V"),
		becomes(but("P|p", "P|p| p"), "add userpassword: p"),
		becomes(staffHead+"d|E  f|g|"+numbered(1, 37)+staffTail, "add description:"+numbered(1, 37)),
		says(api.BadSyntax, "add sn:"), says(api.BadSyntax, "add sn: "), says(api.BadSyntax, "add sn:"+long+"v"), says(api.BadSyntax, "add sn:T|U|"), says(api.BadSyntax, "add uid:"), says(api.BadSyntax, "add userpassword:"), says(api.BadSyntax, "add uidnumber:01"), says(api.BadSyntax, "add member:x"),
		says(api.ValueExists, "add description:d"), says(api.ValueExists, "add description:h| D "), says(api.ValueExists, "add DESCRIPTION:e F"), says(api.ValueExists, "add userpassword:p"), says(api.ValueExists, "add sn:T|t"), says(api.ValueExists, "add uid:u|v|  U"), says(api.ValueExists, "add sn:T|s"), says(api.ValueExists, "add sn:T", "add sn:t"), says(api.ValueExists, "add objectclass:TOP"),
		says(api.Constraint, "add sn"), says(api.Constraint, "add uid"), says(api.Constraint, "add UidNumber"),
		// Of several things the first that the document names.
		says(api.BadSyntax, "add sn:s|"), says(api.BadSyntax, "add sn:|s"), says(api.BadSyntax, "add sn:T|T|"), says(api.BadSyntax, "add sn:|T|t"), says(api.ValueExists, "add sn:T|S|T"),
		says(api.UndefinedType, "add dc"), says(api.UndefinedType, "add dc:"), says(api.UndefinedType, "add :x"), says(api.UndefinedType, "add sn :x|x"), says(api.UndefinedType, "add descriptio\u017f:x"),
		// Not the entry's own: what Check says of what comes of it.
		says(api.Constraint, "add description:"+numbered(1, 38)), says(api.Constraint, "add description:"+numbered(1, 41)), says(api.BadClass, "add o:x"), says(api.BadClass, "add uidnumber:1"), says(api.Constraint, "add uidnumber:1|2"), says(api.BadClass, "add objectclass:posix"), says(api.BadClass, "add objectclass:none"),
	} {
		c.check(t, l)
	}
}

// TestModifyDel: 9.2, MDel.
func TestModifyDel(t *testing.T) {
	l := staff(t)
	for _, c := range []modified{
		becomes("cn:cy|Cyan"+staffTail, "del description"),
		becomes("cn:cy|Cyan"+staffTail, "del DESCRIPTION:G|D|e f"),
		becomes(staffHead+"E  f|g"+staffTail, "del description:d"),
		becomes(staffHead+"d|g"+staffTail, "del Description: e   F "),
		becomes(staffHead+"d|E  f"+staffTail, "del description:G"),
		becomes(staffHead+"E  f"+staffTail, "del description:g|d"),
		// Several that are like one value.
		becomes(staffHead+"d|g"+staffTail, "del description:e f|E F|e  f"),
		becomes(but("P|p", "p"), "del userPassword:P"),
		becomes(but(";mail:m", ""), "del mail"),
		becomes(but(";mail:m", ""), "del mail:M"),
		becomes(but("cy|Cyan", "cy"), "del cn:CYAN"),
		becomes(but("|top", ""), "del objectclass:TOP"),
		says(api.NoAttribute, "del uid"), says(api.NoAttribute, "del uid:u"), says(api.NoAttribute, "del uid:"), says(api.NoAttribute, "del o"),
		says(api.NoAttribute, "del description:h"), says(api.NoAttribute, "del description:d|h"), says(api.NoAttribute, "del description:h|d"), says(api.NoAttribute, "del description:d|E  f|g|h"), says(api.NoAttribute, "del description:"), says(api.NoAttribute, "del description:d|"), says(api.NoAttribute, "del description: "), says(api.NoAttribute, "del sn:"+strings.Repeat("s", api.MaxVal+1)), says(api.NoAttribute, "del userpassword:Q|P"), says(api.NoAttribute, "del description:Ef"),
		says(api.UndefinedType, "del dc"), says(api.UndefinedType, "del dc:x"), says(api.UndefinedType, "del "), says(api.UndefinedType, "del description ;x"),
		says(api.NotOnRdn, "del cn"), says(api.NotOnRdn, "del cn:Cy"), says(api.NotOnRdn, "del CN:cyan|cy"), says(api.BadClass, "del sn"), says(api.BadClass, "del sn:s"), says(api.BadClass, "del objectclass"), says(api.BadClass, "del objectclass:inetorgperson"),
	} {
		c.check(t, l)
	}
}

// TestModifyRep: 9.2, MRep of something and of nothing.
func TestModifyRep(t *testing.T) {
	l := staff(t)
	for _, c := range []modified{
		becomes(staffHead+"z|a"+staffTail, "rep description:z|a"),
		becomes(staffHead+"D"+staffTail, "rep DESCRIPTION:D"),
		becomes("cn:cy|Cyan"+staffTail, "rep Description"),
		becomes(staffAll, "rep uid"), becomes(staffAll, "rep o"), becomes(staffAll, "rep UIDNUMBER"),
		becomes(but("sn:S", "sn:S;uid:u"), "rep UID:u"),
		becomes(but("cn:cy|Cyan", "cn:x| CY "), "rep cn:x| CY "),
		becomes(staffHead+numbered(1, 40)+staffTail, "rep description:"+numbered(1, 40)),
		becomes(but(";mail:m;objectclass:inetorgperson|top", ";objectclass:Person"), "rep mail", "rep objectclass:Person"),
		says(api.UndefinedType, "rep dc"), says(api.UndefinedType, "rep dc:x"), says(api.UndefinedType, "rep "),
		says(api.NotOnRdn, "rep cn"), says(api.NotOnRdn, "rep cn:Cyan"), says(api.NotOnRdn, "rep cn:"), says(api.NotOnRdn, "rep CN:c y"),
		// It takes whatever comes: Check says what is wrong of it.
		says(api.BadSyntax, "rep sn:"), says(api.BadSyntax, "rep sn:T| "), says(api.ValueExists, "rep sn:T|t"), says(api.Constraint, "rep description:"+numbered(1, 41)), says(api.BadClass, "rep sn"), says(api.BadClass, "rep objectclass"), says(api.BadClass, "rep objectclass:top"), says(api.BadClass, "rep objectclass:person"), says(api.BadClass, "rep o:x"), says(api.BadSyntax, "rep uidnumber:+1"), says(api.Constraint, "rep uidnumber:1|+1"),
	} {
		c.check(t, l)
	}
}

// TestModifyKinds: 9.2, kinds that are none.
func TestModifyKinds(t *testing.T) {
	l := staff(t)
	for _, kind := range []string{"none", "below", "four", "far"} {
		for _, c := range []modified{
			says(api.ProtocolError, kind+" sn"), says(api.ProtocolError, kind+" SN:"), says(api.ProtocolError, kind+" sn:T"), says(api.ProtocolError, kind+" uid:u|u"),
			says(api.ProtocolError, "del cn", kind+" sn"), says(api.ProtocolError, kind+" sn", "rep dc"), says(api.NoAttribute, "del uid", kind+" sn"),
			says(api.UndefinedType, kind+" dc"), says(api.UndefinedType, kind+" :x"), says(api.UndefinedType, "rep dc", kind+" sn"), says(api.UndefinedType, kind+" dc", kind+" sn"),
		} {
			c.check(t, l)
		}
	}
}

// TestModifyOrder: 9.2, each mod is done on what the one ahead of it left, and the first that may not be counts; what is wrong between is not asked, what is wrong in the end is.
func TestModifyOrder(t *testing.T) {
	l := staff(t)
	for _, c := range []modified{
		becomes(staffHead+"E  f|g|D"+staffTail, "del description:d", "add description:D"),
		becomes(staffHead+"d|E  f|g|h"+staffTail, "add description:D2|h", "del description:d2"),
		becomes(staffHead+"new"+staffTail, "del description", "add description:new"),
		becomes(staffHead+"b"+staffTail, "rep description:a", "add description:b", "del description:A"),
		becomes(staffAll, "add uid:u", "del UID"), becomes(staffAll, "rep uid:u|v", "del uid:v|u", "rep uid"),
		becomes(staffHead+"x"+staffTail, "rep description", "rep description:x"),
		becomes("cn:Cyan|CY;description:d|E  f|g"+staffTail, "del cn:cy", "add cn:CY"), becomes("cn:Cy;description:d|E  f|g"+staffTail, "rep cn", "rep cn:Cy"), becomes("cn:Cy;description:d|E  f|g"+staffTail, "del cn", "add Cn:Cy"),
		becomes(but("inetorgperson|top;sn:S", "inetorgperson|top|posix;sn:S;uid:u;uidnumber:-5"), "add uidnumber:-5", "add objectclass:posix", "add uid:u"),
		becomes(but("sn:S", "sn:T"), "del sn", "add sn:T"), becomes(but("sn:S", "sn:T"), "add sn:T", "del sn:S"),
		// More between than there may be in the end.
		becomes(staffHead+numbered(40, 60)+staffTail, "add description:"+numbered(1, 60), "del description:d|e f|g|"+numbered(1, 39)),
		becomes(staffHead+"z"+staffTail, "rep description:"+numbered(1, 100), "rep description:z"),
		becomes(staffAll, "rep uidnumber:1|2|3", "del uidnumber:1|2|3"),
		// Alike ones, and what has no norm, between.
		becomes(staffHead+"b"+staffTail, "rep description:a|b|A| a", "del description:a"),
		becomes(staffHead+"b|A"+staffTail, "rep description:a|b|A| a", "del description:A|a", "add description:A"),
		becomes("cn:cy|Cyan"+staffTail, "rep description:| |", "del description"), becomes(staffHead+"a"+staffTail, "rep description:| ", "rep description:a"),
		says(api.NoAttribute, "rep description:|a", "del description:"), says(api.BadSyntax, "rep description:|a", "del description:a"), says(api.BadSyntax, "rep description:|a", "add description:b"), says(api.ValueExists, "rep description:a|A", "add description:a"), says(api.ValueExists, "rep description:a|A", "add description:b"), says(api.BadSyntax, "rep description: ", "add description:b|"),
		says(api.ValueExists, "rep description:a|A|b", "del description:b"), says(api.NoAttribute, "rep description:a|A", "del description:a", "del description:a"), says(api.NoAttribute, "rep description:a|A", "del description:a", "del description"),
		says(api.NoAttribute, "del mail", "del mail"), says(api.NoAttribute, "del mail:m", "del mail"), says(api.NoAttribute, "rep mail", "del mail:m"), says(api.NoAttribute, "del description:d", "del description:D"), says(api.NoAttribute, "rep mail:n", "del mail:m"),
		says(api.ValueExists, "add mail:n", "add mail:N"), says(api.ValueExists, "rep mail:n", "add mail:n"), says(api.ValueExists, "del mail", "add mail:m", "add mail:m"),
		// The first mod that may not be, whatever is wrong behind it, or of what comes of all.
		says(api.UndefinedType, "rep dc", "add sn:", "add sn"), says(api.BadSyntax, "add sn:", "rep dc"), says(api.Constraint, "add sn", "rep dc", "del uid"), says(api.ValueExists, "add sn:s", "add sn:"), says(api.NoAttribute, "del uid", "add sn:s"), says(api.NoAttribute, "rep cn", "rep objectclass", "del cn"), says(api.ValueExists, "del cn", "add sn:s"), says(api.BadSyntax, "rep sn:", "add sn:"),
		// NotOnRdn ahead of all that Check says.
		says(api.NotOnRdn, "del cn", "del sn"), says(api.NotOnRdn, "rep cn:x", "rep sn:T|t"), says(api.NotOnRdn, "rep cn:x|", "rep objectclass:none"), says(api.NotOnRdn, "rep cn:"+numbered(1, 41)), says(api.NotOnRdn, "rep description:", "del cn:cy"),
		says(api.Constraint, "rep cn:cy|"+numbered(1, 40)), says(api.ValueExists, "rep cn:cy|CY"), says(api.BadSyntax, "rep cn:cy|"),
		// Of what Check says the first by the attributes' order, and of them all ahead of classes.
		says(api.BadSyntax, "rep sn:T|t", "rep description:|a|a"), says(api.ValueExists, "rep description:a|A", "rep sn:"), says(api.Constraint, "rep sn", "rep description:"+numbered(1, 41)), says(api.Constraint, "rep uidnumber:1|2", "rep objectclass"),
	} {
		c.check(t, l)
	}
}

// TestModifyFirstPart: 9.2, NotOnRdn of names whose first part is of each rule.
func TestModifyFirstPart(t *testing.T) {
	l := treeOf(t, org("x"),
		en("userpassword=Pw,o=x", "cn:c", "objectclass:person", "sn:s", "userpassword:Pw|pw"),
		en("uidNumber=-5,o=x", "cn:c", "objectclass:person|posix", "sn:s", "uid:u", "uidnumber:-5"),
		en(`member=CN\=a\,O\=x,o=x`, "cn:c", "member:cn=A,o=X|cn=b", "objectclass:groupofnames"),
		en("ObjectClass=Person,o=x", "cn:c", "objectclass:person|top", "sn:s"),
		en(`cn=a\,\20 b,o=x`, "cn:A,  B", "objectclass:person", "sn:s"),
	)
	for i, c := range []struct {
		name string
		code int
		mods []string
	}{
		{"userpassword=PW,o=x", api.Success, []string{"del userpassword:pw"}}, {"userpassword=pw,o=x", api.NotOnRdn, []string{"del userpassword:Pw"}}, {"userpassword=pw,o=x", api.NotOnRdn, []string{"rep userpassword:pw|PW| Pw"}}, {"userpassword=pw,o=x", api.Success, []string{"rep userpassword:pw|Pw"}}, {"userpassword=pw,o=x", api.Success, []string{"rep cn:d"}},
		{"uidnumber=-5,o=x", api.NotOnRdn, []string{"rep uidnumber:5"}}, {"uidnumber=-5,o=x", api.Constraint, []string{"add uidnumber:5"}}, {"uidnumber=-5,o=x", api.Success, []string{"rep uidnumber:-5"}}, {"uidnumber=-5,o=x", api.NotOnRdn, []string{"del uidnumber:-5"}}, {"uidnumber=-5,o=x", api.ValueExists, []string{"add uidnumber:-5"}},
		{`member=cn\=a\,o\=X,o=x`, api.Success, []string{"rep member:cn=a|CN=A,o=x"}}, {`member=cn\=a\,o\=x,o=x`, api.NotOnRdn, []string{"del member:cn=a,O=X"}}, {`member=cn\=a\,o\=x,o=x`, api.Success, []string{"del member:CN=B"}}, {`member=cn\=a\,o\=x,o=x`, api.ValueExists, []string{`add member:cn=\41,o=x`}}, {`member=cn\=a\,o\=x,o=x`, api.BadSyntax, []string{"add member:c"}},
		{"objectclass=person,o=x", api.NotOnRdn, []string{"rep objectclass:inetorgperson"}}, {"objectclass=person,o=x", api.NotOnRdn, []string{"del objectclass"}}, {"objectclass=person,o=x", api.Success, []string{"rep objectclass:inetorgperson|PERSON"}},
		{`cn=a\, b,o=x`, api.Success, []string{"rep cn:A, b"}}, {`cn=a\, b,o=x`, api.NotOnRdn, []string{`rep cn:a\, b`}}, {`cn=A\, B,o=x`, api.NotOnRdn, []string{"rep cn:a,b"}},
	} {
		d, code := change.Modify(l, c.name, modsOf(c.mods...)...)
		if code != c.code || code != api.Success && told(d, code) != refused(code) {
			t.Errorf("9.2: Modify %d: %s", i, told(d, code))
		}
		if code == api.Success {
			behind(t, l, d)
		}
	}
}

// TestModifyAlone: 9.2, of each type a mod of it touches no other.
func TestModifyAlone(t *testing.T) {
	l := staff(t)
	cy := l[tree.Find(l, "cn=cy,ou=a,o=x")]
	done := 0
	for _, a := range cy.Attrs {
		for _, m := range []api.Mod{{Kind: api.MAdd, Vals: []string{"new"}}, {Kind: api.MDel}, {Kind: api.MDel, Vals: a.Vals[:1]}, {Kind: api.MRep, Vals: []string{"new"}}, {Kind: api.MRep}} {
			m.Type = strings.ToUpper(a.Type)
			d, code := change.Modify(l, staffName, m)
			if code != api.Success {
				continue
			}
			done++
			if !entry.Same(entry.Set(d.Entry, a.Type), entry.Set(cy, a.Type)) {
				t.Errorf("9.2: Modify by %d %s %q: %q", m.Kind, m.Type, m.Vals, d.Entry)
			}
		}
	}
	if done < 15 {
		t.Error("the test's own: too few", done)
	}
}
