package change_test

import (
	"fmt"
	"strings"
	"testing"

	"brook/api"
	"brook/change"
	"brook/entry"
	"brook/tree"
)

// noRdns are texts that Parse does not read, or reads as none or more than one part.
var noRdns = []string{"", " ", "x", "cn", "cn=", "=x", "cn=x,", ",cn=x", "cn=x,o=y", "cn=x,o=x", "cn= x", "cn=x ", "cn=#x", " cn=x", "cn =x", "1=x", `cn=\`, `cn=\4`, `cn=a+b`, "cn=\xff", "cn=x;y", "cn=" + strings.Repeat("x", api.MaxVal+1), strings.Repeat("o=x,", api.MaxRdns) + "o=x"}

// TestRenameBadDn: 9.3, BadDn of a name and of an rdn, ahead of all else.
func TestRenameBadDn(t *testing.T) {
	for _, l := range [][]api.Entry{company(t), nil} {
		for _, old := range []bool{true, false} {
			for _, name := range noNames {
				for _, rdn := range append(noRdns, "cn=q", "dc=q", "o=x") {
					if got := told(change.Rename(l, name, rdn, old)); got != refused(api.BadDn) {
						t.Errorf("9.3: Rename of %.40q to %.40q: %s", name, rdn, got)
					}
				}
			}
			for _, rdn := range noRdns {
				for _, name := range []string{"cn=eve,o=x", "o=x", "o=z", "ou=b,o=x", "o=y"} {
					if got := told(change.Rename(l, name, rdn, old)); got != refused(api.BadDn) {
						t.Errorf("9.3: Rename of %q to %.40q: %s", name, rdn, got)
					}
				}
			}
		}
	}
}

// TestRenameRefused: 9.3, NoObject, NotLeaf, EntryExists, and which counts first.
func TestRenameRefused(t *testing.T) {
	l := treeOf(t, append(company(t), en("cn=Gus,o=x", "cn:Gus", "objectclass:person", "sn:Lee"), en("sn=Lee,o=x", "cn:Lee", "objectclass:person", "sn:Lee"), en(`ou=p\,q,o=x`, "objectclass:organizationalunit", "ou:p,q"))...)
	was := text(l)
	for _, old := range []bool{true, false} {
		for _, rdn := range []string{"cn=q", "dc=q", `cn=\20`, "ou=a", "o=x", "uidnumber=x"} {
			for _, name := range absent {
				if got := told(change.Rename(l, name, rdn, old)); got != refused(api.NoObject) {
					t.Errorf("9.3: Rename of %.40q to %q: %s", name, rdn, got)
				}
			}
			for _, name := range []string{"o=x", "O=X", "ou=a,o=x", "OU=In,OU=A,o=x"} {
				if got := told(change.Rename(l, name, rdn, old)); got != refused(api.NotLeaf) {
					t.Errorf("9.3: Rename of %q to %q: %s", name, rdn, got)
				}
			}
		}
		for i, c := range []struct {
			name, rdn string
		}{
			{"cn=ann,ou=a,o=x", "cn=Bob"}, {"cn=ann,ou=a,o=x", "CN=BOB"}, {"cn=ann,ou=a,o=x", `cn=\20\62ob`}, {"ou=b,o=x", "ou=a"}, {"ou=b,o=x", `OU=P\2CQ`}, {"o=y", "o=X"}, {"cn=gus,o=x", "sn=LEE"},
			// Ahead of what Check says of it.
			{"ou=b,o=x", "cn=eve"}, {"cn=eve,o=x", "ou=A"}, {"cn=bob,ou=a,o=x", "ou=IN"}, {"cn=eve,o=x", "SN=lee"},
		} {
			if got := told(change.Rename(l, c.name, c.rdn, old)); got != refused(api.EntryExists) {
				t.Errorf("9.3: Rename %d: %s", i, got)
			}
		}
	}
	if text(l) != was {
		t.Error("R3: the tree")
	}
}

// TestRenameCheck: 9.3, what Check says of what comes of it.
func TestRenameCheck(t *testing.T) {
	cy := en("cn=Cy,o=x", "cn:Cy|"+numbered(1, 39), "objectclass:person", "sn:S")
	l := treeOf(t, append(company(t), cy, en("uidnumber=5,o=x", "cn:c", "objectclass:person|posix", "sn:s", "uid:u", "uidnumber:5"), en("description=d,o=x", "cn:c", "description:d", "objectclass:person", "sn:s"))...)
	for i, c := range []struct {
		name, rdn string
		old       bool
		code      int
	}{
		{"cn=eve,o=x", "dc=q", true, api.UndefinedType}, {"cn=eve,o=x", "dc=q", false, api.UndefinedType}, {"cn=eve,o=x", "dc=eve", true, api.UndefinedType}, {"cn=eve,o=x", "Zz-9=q", false, api.UndefinedType},
		{"cn=eve,o=x", `cn=\20`, true, api.BadDn}, {"cn=eve,o=x", `cn=\20\20`, false, api.BadDn}, {"cn=eve,o=x", `dc=\20`, false, api.BadDn}, {"uidnumber=5,o=x", `uidnumber=\20`, false, api.BadDn},
		{"cn=eve,o=x", "sn=s", true, api.BadClass}, {"cn=eve,o=x", "sn=T", true, api.BadClass}, {"cn=eve,o=x", "mail=m", true, api.BadClass}, {"cn=eve,o=x", "mail=m", false, api.BadClass}, {"o=y", "ou=y", false, api.BadClass}, {"o=y", "description=y", true, api.BadClass}, {"cn=eve,o=x", "objectclass=none", false, api.BadClass}, {"cn=eve,o=x", "objectclass=posix", false, api.BadClass}, {"cn=eve,o=x", "objectclass=organizationalunit", false, api.BadClass},
		{"cn=cy,o=x", "cn=new", false, api.Constraint}, {"cn=cy,o=x", "cn=new", true, api.Success}, {"cn=cy,o=x", "cn=V7", false, api.Success}, {"cn=cy,o=x", "cn=CY", false, api.Success},
		{"uidnumber=5,o=x", "uidnumber=6", false, api.Constraint}, {"uidnumber=5,o=x", "uidnumber=05", false, api.Constraint}, {"uidnumber=5,o=x", "uidnumber=05", true, api.BadSyntax}, {"uidnumber=5,o=x", "uidnumber=x", true, api.BadSyntax}, {"uidnumber=5,o=x", "uidnumber=6", true, api.Success}, {"uidnumber=5,o=x", `uidnumber=\205`, true, api.BadSyntax}, {"uidnumber=5,o=x", "uid=U", true, api.BadClass}, {"uidnumber=5,o=x", "uid=U", false, api.Success}, {"cn=eve,o=x", "member=x", false, api.BadSyntax}, {"cn=eve,o=x", `member=cn\=a`, false, api.BadClass}, {"cn=eve,o=x", "uidnumber=6", false, api.BadClass},
		{"description=d,o=x", "cn=C", true, api.Success}, {"description=d,o=x", "objectclass=PERSON", true, api.Success},
	} {
		d, code := change.Rename(l, c.name, c.rdn, c.old)
		if code != c.code || code != api.Success && told(d, code) != refused(code) {
			t.Errorf("9.3: Rename %d: %s", i, told(d, code))
		}
		if code == api.Success {
			behind(t, l, d)
		}
	}
}

// TestRename: 9.3, what comes of an entry, with the old value gone and with it kept.
func TestRename(t *testing.T) {
	l := treeOf(t, append(company(t), en(`CN=Cy\, Lee,OU=A,o=x`, "cn:Cyan|CY,  lee|Zoe", "description:cy, lee", "objectclass:inetorgperson|top", "sn:Lee|Cy, Lee|q", "uid:7"), en("userpassword=Pw,o=x", "cn:c", "objectclass:person", "sn:s", "userpassword:Pw|x"), unit("one", "o=y"), en("uid=Pw,ou=one,o=y", "cn:c", "objectclass:inetorgperson", "sn:Pw", "uid:pw|PX"))...)
	const cy = `cn=CY\2C lee,ou=a,o=X`
	const cyKey = `cn=cy\, lee,ou=a,o=x`
	const cyTail = ";objectclass:inetorgperson|top;sn:Lee|Cy, Lee|q;uid:7"
	const pw = "userpassword=PW,o=x"
	for i, c := range []struct {
		name, rdn string
		old       bool
		gone      string
		dn, attrs string
	}{
		// The same type: gone, kept, there already.
		{cy, "cn=New", true, cyKey, "cn=New,OU=A,o=x", "cn:Cyan|Zoe|New;description:cy, lee" + cyTail},
		{cy, "Cn=New", false, cyKey, "Cn=New,OU=A,o=x", "cn:Cyan|CY,  lee|Zoe|New;description:cy, lee" + cyTail},
		{cy, "cn=ZOE", true, cyKey, "cn=ZOE,OU=A,o=x", "cn:Cyan|Zoe;description:cy, lee" + cyTail},
		{cy, "cn=ZOE", false, cyKey, "cn=ZOE,OU=A,o=x", "cn:Cyan|CY,  lee|Zoe;description:cy, lee" + cyTail},
		// In other letters, and the same Key again.
		{cy, `cn=CY\, LEE`, true, cyKey, `cn=CY\, LEE,OU=A,o=x`, "cn:Cyan|CY,  lee|Zoe;description:cy, lee" + cyTail},
		{cy, `cn=CY\, LEE`, false, cyKey, `cn=CY\, LEE,OU=A,o=x`, "cn:Cyan|CY,  lee|Zoe;description:cy, lee" + cyTail},
		{cy, `cN=\20c\79\2C  lee\20`, true, cyKey, `cN=\ cy\,  lee\ ,OU=A,o=x`, "cn:Cyan|CY,  lee|Zoe;description:cy, lee" + cyTail},
		{"cn=eve,o=x", "cn=Eve", true, "cn=eve,o=x", "cn=Eve,o=x", "cn:Eve;objectclass:person;sn:S"},
		{"cn=eve,o=x", "CN=EVE", true, "cn=eve,o=x", "CN=EVE,o=x", "cn:Eve;objectclass:person;sn:S"},
		{"o=y", "o=z", true, "", "", ""},
		// Another type, with a value like the old one's, or another.
		{cy, `sn=CY\, Lee`, true, cyKey, `sn=CY\, Lee,OU=A,o=x`, "cn:Cyan|Zoe;description:cy, lee" + cyTail},
		{cy, `sn=CY\, Lee`, false, cyKey, `sn=CY\, Lee,OU=A,o=x`, "cn:Cyan|CY,  lee|Zoe;description:cy, lee" + cyTail},
		{cy, "SN=new", true, cyKey, "SN=new,OU=A,o=x", "cn:Cyan|Zoe;description:cy, lee" + strings.Replace(cyTail, "|q", "|q|new", 1)},
		{cy, "mail=m", true, cyKey, "mail=m,OU=A,o=x", "cn:Cyan|Zoe;description:cy, lee;mail:m" + cyTail},
		{cy, "userPassword=m", false, cyKey, "userPassword=m,OU=A,o=x", "cn:Cyan|CY,  lee|Zoe;description:cy, lee" + cyTail + ";userpassword:m"},
		{cy, "uid=7", true, cyKey, "uid=7,OU=A,o=x", "cn:Cyan|Zoe;description:cy, lee" + cyTail},
		{cy, "description=d", true, cyKey, "description=d,OU=A,o=x", "cn:Cyan|Zoe;description:cy, lee|d" + cyTail},
		{cy, "objectclass=Top", false, cyKey, "objectclass=Top,OU=A,o=x", "cn:Cyan|CY,  lee|Zoe;description:cy, lee" + cyTail},
		{cy, "objectclass=Person", false, cyKey, "objectclass=Person,OU=A,o=x", "cn:Cyan|CY,  lee|Zoe;description:cy, lee;objectclass:inetorgperson|top|Person;sn:Lee|Cy, Lee|q;uid:7"},
		// What is behind a mark is told by its one text; the value has none.
		{cy, `cn=\41\,\"\#\20`, true, cyKey, `cn=A\,\"#\ ,OU=A,o=x`, `cn:Cyan|Zoe|A,"# ;description:cy, lee` + cyTail},
		{cy, `cn=\E9\00`, true, cyKey, `cn=\e9\00,OU=A,o=x`, "cn:Cyan|Zoe|\xe9\x00;description:cy, lee" + cyTail},
		// Keys have small letters, these values' norms have not.
		{pw, "userpassword=pw", true, "userpassword=pw,o=x", "userpassword=pw,o=x", "cn:c;objectclass:person;sn:s;userpassword:x|pw"},
		{pw, "userpassword=pw", false, "userpassword=pw,o=x", "userpassword=pw,o=x", "cn:c;objectclass:person;sn:s;userpassword:Pw|x|pw"},
		{pw, "USERPASSWORD=Pw", true, "userpassword=pw,o=x", "USERPASSWORD=Pw,o=x", "cn:c;objectclass:person;sn:s;userpassword:Pw|x"},
		{pw, "userpassword=x", true, "userpassword=pw,o=x", "userpassword=x,o=x", "cn:c;objectclass:person;sn:s;userpassword:x"},
		{pw, "userpassword=X", true, "userpassword=pw,o=x", "userpassword=X,o=x", "cn:c;objectclass:person;sn:s;userpassword:x|X"},
		{pw, "cn=C", true, "userpassword=pw,o=x", "cn=C,o=x", "cn:c;objectclass:person;sn:s;userpassword:x"},
		{"uid=PW,OU=one,o=y", "uid=Px", true, "uid=pw,ou=one,o=y", "uid=Px,ou=one,o=y", "cn:c;objectclass:inetorgperson;sn:Pw;uid:PX"},
		{"uid=PW,OU=one,o=y", "sn=pw", true, "uid=pw,ou=one,o=y", "sn=pw,ou=one,o=y", "cn:c;objectclass:inetorgperson;sn:Pw;uid:PX"},
		{"ou=b,o=x", "ou=New", true, "ou=b,o=x", "ou=New,o=x", "objectclass:organizationalunit;ou:New"},
		{"ou=b,o=x", "ou=New", false, "ou=b,o=x", "ou=New,o=x", "objectclass:organizationalunit;ou:b|New"},
		{"ou=b,o=x", "ou=one", false, "ou=b,o=x", "ou=one,o=x", "objectclass:organizationalunit;ou:b|one"},
	} {
		was := text(l)
		d, code := change.Rename(l, c.name, c.rdn, c.old)
		want := refused(api.NotLeaf)
		if c.gone != "" {
			want = told(api.Delta{Gone: c.gone, Entry: en(c.dn, strings.Split(c.attrs, ";")...)}, api.Success)
		}
		if got := told(d, code); got != want || text(l) != was {
			t.Errorf("9.3: Rename %d: %s", i, got)
			continue
		}
		if code == api.Success && len(behind(t, l, d)) != len(l) {
			t.Error("9.3: Rename made more, or fewer, of the tree", i)
		}
	}
}

// TestRenameMost: 9.3, 9.4, where there are as many entries as may be, or as many parts, one is renamed all the same.
func TestRenameMost(t *testing.T) {
	full := many(t, api.MaxEntries)
	for _, name := range []string{"o=1000", "o=1100", "o=1199"} {
		for _, rdn := range []string{"o=0", "O=1100x", "o=z"} {
			d, code := change.Rename(full, name, rdn, true)
			if code != api.Success || d.Gone != name {
				t.Errorf("9.3: Rename of %q to %q: %s", name, rdn, told(d, code))
				continue
			}
			if next := behind(t, full, d); len(next) != api.MaxEntries || tree.Find(next, name) != -1 || tree.Find(next, strings.ToLower(rdn)) < 0 {
				t.Errorf("9.3: Rename of %q to %q", name, rdn)
			}
		}
	}
	deep := []api.Entry{org("x")}
	name := "o=x"
	for i := range api.MaxRdns - 1 {
		ou := fmt.Sprint("U", i)
		deep = append(deep, unit(ou, name))
		name = "ou=" + ou + "," + name
	}
	l := treeOf(t, deep...)
	d, code := change.Rename(l, strings.ToUpper(name), "OU=new", false)
	if code != api.Success || d.Gone != strings.ToLower(name) || d.Entry.Dn != "OU=new"+strings.TrimPrefix(name, "ou=U6") {
		t.Fatalf("9.3: Rename of %q: %s", name, told(d, code))
	}
	behind(t, l, d)
	if got := told(change.Rename(l, "ou=u0,o=x", "ou=u0", true)); got != refused(api.NotLeaf) {
		t.Errorf("9.3: Rename of one with kids: %s", got)
	}
}

// TestRenameBack: 9.3, renamed and renamed back, with the old value gone each time, an entry is what it was, but for the place of the value.
func TestRenameBack(t *testing.T) {
	l := company(t)
	for _, name := range []string{"cn=Ann,ou=a,o=x", "cn=Bob,ou=A,O=x", "o=y", "ou=b,o=x"} {
		first, _, _ := strings.Cut(name, ",")
		typ, _, _ := strings.Cut(name, "=")
		there, code := change.Rename(l, name, typ+"=other", true)
		if code != api.Success {
			t.Fatalf("9.3: Rename of %q: %d", name, code)
		}
		next := behind(t, l, there)
		back, code := change.Rename(next, there.Entry.Dn, first, true)
		if code != api.Success || !tree.Same(behind(t, next, back), l) {
			t.Errorf("9.3: Rename of %q and back: %s", name, told(back, code))
		}
		if !entry.Has(there.Entry, typ, "OTHER") || len(entry.Vals(there.Entry, typ)) != 1 {
			t.Errorf("9.3: Rename of %q: %s", name, told(there, api.Success))
		}
	}
}
