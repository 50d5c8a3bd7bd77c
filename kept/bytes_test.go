package kept_test

import (
	"encoding/asn1"
	"math/bits"
	"slices"
	"strings"
	"testing"

	"brook/api"
	"brook/ber"
	"brook/kept"
)

// wire makes a tag, a length and what has that length.
func wire(tag byte, parts ...string) string {
	s := strings.Join(parts, "")
	n := len(s)
	switch {
	case n < 128:
		return string([]byte{tag, byte(n)}) + s
	case n < 1<<8:
		return string([]byte{tag, 0x81, byte(n)}) + s
	case n < 1<<16:
		return string([]byte{tag, 0x82, byte(n >> 8), byte(n)}) + s
	}
	return string([]byte{tag, 0x83, byte(n >> 16), byte(n >> 8), byte(n)}) + s
}

// num makes a number by the library's means.
func num(n int) string {
	b, err := asn1.Marshal(n)
	if err != nil {
		panic(err)
	}
	return string(b)
}

func flag(is bool) string {
	b, err := asn1.Marshal(is)
	if err != nil {
		panic(err)
	}
	return string(b)
}

func entryBytes(e api.Entry) string {
	attrs := ""
	for _, a := range e.Attrs {
		vals := ""
		for _, v := range a.Vals {
			vals += wire(4, v)
		}
		attrs += wire(0x30, wire(4, a.Type), wire(0x31, vals))
	}
	return wire(0x30, wire(4, e.Dn), wire(0x30, attrs))
}

func deltaBytes(d api.Delta) string {
	e := ""
	if d.Entry.Dn != "" || len(d.Entry.Attrs) > 0 {
		e = entryBytes(d.Entry)
	}
	return wire(0x30, num(d.Csn.Epoch), num(d.Csn.N), wire(4, d.Gone), e)
}

// bytesOf is Put by the words of 14.3.
func bytesOf(r api.Record) string {
	switch r.Kind {
	case api.KDelta:
		return wire(0x30, num(1), deltaBytes(r.Delta))
	case api.KMeta:
		return wire(0x30, num(2), num(r.Epoch), num(r.Parent), num(r.From), num(r.To), flag(r.Lead), flag(r.Reload))
	case api.KFull:
		var deltas, tree strings.Builder
		for _, d := range r.Deltas {
			deltas.WriteString(deltaBytes(d))
		}
		for _, e := range r.Tree {
			tree.WriteString(entryBytes(e))
		}
		return wire(0x30, num(3), num(r.Csn.Epoch), num(r.Csn.N), wire(0x30, deltas.String()), wire(0x30, tree.String()))
	}
	return wire(0x30, num(4), num(r.N))
}

// TestPut: 14.3, 14.4, of each kind.
func TestPut(t *testing.T) {
	for _, r := range append(records(), full(at(0, 0), many(200)), full(at(7, 1<<40), company(), row(8, 1<<40, 400)...)) {
		mayIs(t, r, true)
		s := kept.Put(r)
		if s != bytesOf(r) {
			t.Errorf("14.3: Put of %s: %.300x", short(r), s)
		}
		if got, ok := kept.Get(s); !ok || whole(got) != whole(r) || !kept.Same(got, r) {
			t.Errorf("14.4: Get of Put of %s: %v, %s", short(r), ok, short(got))
		}
	}
	for _, c := range []struct {
		r    api.Record
		want string
	}{
		{api.Record{Kind: api.KPurge, N: 5}, "\x30\x06\x02\x01\x04\x02\x01\x05"},
		{api.Record{Kind: api.KPurge, N: 128}, "\x30\x07\x02\x01\x04\x02\x02\x00\x80"},
		{api.Record{Kind: api.KMeta, Epoch: 3, Lead: true, Parent: -1, To: 24}, "\x30\x15\x02\x01\x02\x02\x01\x03\x02\x01\xff\x02\x01\x00\x02\x01\x18\x01\x01\xff\x01\x01\x00"},
		{api.Record{Kind: api.KDelta, Delta: out(1, 2, "o=x")}, "\x30\x10\x02\x01\x01\x30\x0b\x02\x01\x01\x02\x01\x02\x04\x03o=x"},
		{api.Record{Kind: api.KFull, Csn: at(1, 2)}, "\x30\x0d\x02\x01\x03\x02\x01\x01\x02\x01\x02\x30\x00\x30\x00"},
	} {
		if s := kept.Put(c.r); s != c.want {
			t.Errorf("14.3: Put of %s: %x", short(c.r), s)
		}
	}
}

// TestPutNot: 14.3, of what may not be there are no bytes.
func TestPutNot(t *testing.T) {
	for i, r := range []api.Record{{}, {Kind: 5}, {Kind: -1, N: 5}, {Kind: api.KDelta}, {Kind: api.KPurge, N: -1}, {Kind: api.KPurge, N: 5, From: 1}, {Kind: api.KMeta, Parent: -2}, full(at(0, 0), list(en("")))} {
		mayIs(t, r, false)
		if s := kept.Put(r); s != "" {
			t.Errorf("14.3: Put %d: %x", i, s)
		}
		// Its bytes, if it had some, may be those of another one.
		getIs(t, bytesOf(r))
	}
}

// cursor goes through bytes; bad: something else stood there.
type cursor struct {
	s   string
	bad bool
}

// take tells the content of the next one, of a tag.
func (c *cursor) take(tag byte) string {
	if c.bad || len(c.s) < 2 || c.s[0] != tag {
		c.bad = true
		return ""
	}
	n, start := int(c.s[1]), 2
	if n >= 128 {
		start += n - 128
		if start < 3 || start > 5 || start > len(c.s) {
			c.bad = true
			return ""
		}
		n = 0
		for _, b := range []byte(c.s[2:start]) {
			n = n*256 + int(b)
		}
	}
	if start+n > len(c.s) || n > api.MaxSize || !strings.HasPrefix(c.s, wire(tag, c.s[start:start+n])) {
		c.bad = true
		return ""
	}
	content := c.s[start : start+n]
	c.s = c.s[start+n:]
	return content
}

func (c *cursor) num() int {
	n := 0
	if rest, err := asn1.Unmarshal([]byte(wire(2, c.take(2))), &n); err != nil || len(rest) > 0 {
		c.bad = true
	}
	return n
}

func (c *cursor) flag() bool {
	s := c.take(1)
	c.bad = c.bad || s != "\xff" && s != "\x00"
	return s == "\xff"
}

// in goes through all of a content.
func (c *cursor) in(s string, do func(x *cursor)) {
	x := &cursor{s: s, bad: c.bad}
	do(x)
	c.bad = x.bad || x.s != ""
}

func (c *cursor) csn() api.Csn { return at(c.num(), c.num()) }

func (c *cursor) entry() (e api.Entry) {
	c.in(c.take(0x30), func(x *cursor) {
		e.Dn = x.take(4)
		x.in(x.take(0x30), func(l *cursor) {
			for l.s != "" && !l.bad {
				l.in(l.take(0x30), func(y *cursor) {
					a := api.Attr{Type: y.take(4)}
					y.in(y.take(0x31), func(vals *cursor) {
						for vals.s != "" && !vals.bad {
							a.Vals = append(a.Vals, vals.take(4))
						}
					})
					e.Attrs = append(e.Attrs, a)
				})
			}
		})
	})
	return e
}

func (c *cursor) delta() (d api.Delta) {
	c.in(c.take(0x30), func(x *cursor) {
		d = out(x.num(), x.num(), x.take(4))
		if x.s != "" {
			d.Entry = x.entry()
			x.bad = x.bad || d.Entry.Dn == "" && len(d.Entry.Attrs) == 0
		}
	})
	return d
}

// wantedGet is Get by the words of 14.3.
func wantedGet(s string) (r api.Record, ok bool) {
	c := &cursor{s: s}
	c.in(c.take(0x30), func(x *cursor) {
		r.Kind = x.num()
		switch r.Kind {
		case api.KDelta:
			r.Delta = x.delta()
		case api.KMeta:
			r.Epoch, r.Parent, r.From, r.To, r.Lead, r.Reload = x.num(), x.num(), x.num(), x.num(), x.flag(), x.flag()
		case api.KFull:
			r.Csn = x.csn()
			x.in(x.take(0x30), func(l *cursor) {
				for l.s != "" && !l.bad {
					r.Deltas = append(r.Deltas, l.delta())
				}
			})
			x.in(x.take(0x30), func(l *cursor) {
				for l.s != "" && !l.bad {
					r.Tree = append(r.Tree, l.entry())
				}
			})
		case api.KPurge:
			r.N = x.num()
		}
	})
	if c.bad || c.s != "" || !wantedMay(r) {
		return api.Record{}, false
	}
	return r, true
}

// getIs holds Get against the words of 14.3, and tells whether there was a record.
func getIs(t *testing.T, s string) bool {
	t.Helper()
	want, is := wantedGet(s)
	got, ok := kept.Get(s)
	if ok != is || whole(got) != whole(want) {
		t.Errorf("14.3: Get of %.300x: %v, %s", s, ok, short(got))
	}
	if ok && (kept.Put(got) != s || !kept.May(got)) {
		t.Errorf("14.3: Put of Get of %.300x: %s", s, short(got))
	}
	return ok
}

// TestGetCut: 14.3, bytes cut at each place, and longer ones.
func TestGetCut(t *testing.T) {
	for _, r := range records() {
		s := kept.Put(r)
		if !getIs(t, s) {
			t.Errorf("14.4: of %s", short(r))
		}
		for i := range s {
			if getIs(t, s[:i]) || getIs(t, s[i+1:]) {
				t.Errorf("14.3: Get of a piece of %x, %d", s, i)
			}
			getIs(t, s[:i]+s[i+1:])
		}
		for _, more := range []string{"\x00", "\xff", "0", "\x04\x00", "\x30\x00", "\x02\x01\x00", s, strings.Repeat("\x00", 300)} {
			if getIs(t, s+more) || getIs(t, more+s) {
				t.Errorf("14.3: Get of more than %x: %.20x", s, more)
			}
			// Within the record, too.
			getIs(t, wire(0x30, inside(s)+more))
			getIs(t, wire(0x30, more+inside(s)))
		}
		if getIs(t, wire(0x30, s)) || getIs(t, wire(4, s)) || getIs(t, wire(0x31, inside(s))) || getIs(t, inside(s)) {
			t.Errorf("14.3: Get of %x in other bytes", s)
		}
	}
}

// inside tells the content of bytes.
func inside(s string) string { return (&cursor{s: s}).take(s[0]) }

// bytesFor are those that a byte is turned into: in what is long a few alone.
func bytesFor(was byte, long bool) []byte {
	l := []byte("\x00\x01\x02\x04\x30\x31\x7f\x80\x81\xff,=aAx ")
	for i := range 8 {
		l = append(l, was^1<<i)
	}
	if !long {
		l = nil
		for b := range 256 {
			l = append(l, byte(b))
		}
	}
	return slices.DeleteFunc(l, func(b byte) bool { return b == was })
}

// TestGetTurned: 14.3, each byte turned into others.
func TestGetTurned(t *testing.T) {
	seen := map[bool]int{}
	for _, r := range records() {
		s := []byte(kept.Put(r))
		for i, was := range s {
			for _, s[i] = range bytesFor(was, len(s) > 100) {
				seen[getIs(t, string(s))]++
			}
			s[i] = was
		}
	}
	if seen[true] < 1000 || seen[false] < 10000 {
		t.Error("the test's own: too few", seen)
	}
}

// TestGetShort: 14.3, all short bytes of a few.
func TestGetShort(t *testing.T) {
	some, got := "\x00\x01\x02\x03\x04\x05\x06\x30\x80\x81\xff", 0
	var all func(s string, left int)
	all = func(s string, left int) {
		if left == 0 {
			if getIs(t, s) {
				got++
			}
			return
		}
		for i := range len(some) {
			all(s+some[i:i+1], left-1)
		}
	}
	for n := range 5 {
		all("", n)
		all("\x30\x05\x02\x01", n)
		all("\x30\x06\x02\x01\x04", n)
		all("\x30\x07\x02\x01\x04\x02", n)
		all("\x30\x0d\x02\x01\x03\x02\x01\x00\x02\x01\x00", n)
	}
	if got < 10 {
		t.Error("the test's own: too few", got)
	}
}

// places tells how many tlvs t has.
func places(t api.Tlv) int {
	n := 1
	for _, x := range t.L {
		n += places(x)
	}
	return n
}

// turnedAt makes the bytes of t, in which those of the tlv at a place are what do makes of it and its content.
func turnedAt(t api.Tlv, place *int, do func(t api.Tlv, content string) string) string {
	mine := *place == 0
	*place--
	s := t.S
	for _, x := range t.L {
		s += turnedAt(x, place, do)
	}
	if mine {
		return do(t, s)
	}
	return wire(byte(t.Tag), s)
}

// each makes of the bytes of a record those in which one tlv is another one, for each of its tlvs.
func each(s string, do func(t api.Tlv, content string) string) []string {
	t, _, _ := ber.Get(s, 0)
	var l []string
	for i := range places(t) {
		place := i
		l = append(l, turnedAt(t, &place, do))
	}
	return l
}

// TestGetLengths: 14.3, lengths that are not in as few bytes as may be.
func TestGetLengths(t *testing.T) {
	for _, r := range records() {
		for _, more := range []int{1, 2, 3, 4} {
			for _, x := range each(kept.Put(r), func(x api.Tlv, s string) string {
				// As many bytes as its length has, and more.
				length := (bits.Len(uint(len(s)))+7)/8 + more
				if len(s) < 128 {
					length = more
				}
				head := []byte{byte(x.Tag), byte(128 + length)}
				for i := range length {
					head = append(head, byte(len(s)>>(8*(length-1-i))))
				}
				return string(head) + s
			}) {
				if getIs(t, x) {
					t.Errorf("14.3: Get of a longer length: %x", x)
				}
			}
		}
	}
}

// leaves makes of the bytes of a record those in which one leaf of a tag has another content.
func leaves(s string, tag int, do func(content string) string) []string {
	l := each(s, func(x api.Tlv, content string) string {
		if x.Tag == tag {
			content = do(content)
		}
		return wire(byte(x.Tag), content)
	})
	return slices.DeleteFunc(l, func(x string) bool { return x == s })
}

// TestGetNums: 14.3, numbers in more bytes than needed, of which but one more may be another number.
func TestGetNums(t *testing.T) {
	for _, r := range records() {
		for _, more := range []string{"\x00", "\xff", "\x00\x00", "\xff\xff", "\xff\xff\xff\xff\xff\xff\xff", "\x00\x00\x00\x00\x00\x00\x00\x00"} {
			for _, x := range leaves(kept.Put(r), 2, func(s string) string { return more + s }) {
				if getIs(t, x) && len(more) > 1 {
					t.Errorf("14.3: Get of a longer number: %x", x)
				}
			}
		}
		for _, x := range leaves(kept.Put(r), 2, func(string) string { return "" }) {
			if getIs(t, x) {
				t.Errorf("14.3: Get of a number of no bytes: %x", x)
			}
		}
	}
}

// TestGetFlags: 14.3, bools of other bytes than 255 and 0.
func TestGetFlags(t *testing.T) {
	for _, r := range records() {
		s := kept.Put(r)
		for b := range 256 {
			one := string([]byte{byte(b)})
			for _, is := range []string{one, one + "\xff", "\xff" + one, "\x00" + one, ""} {
				for _, x := range leaves(s, 1, func(string) string { return is }) {
					if getIs(t, x) != (is == "\x00" || is == "\xff") {
						t.Errorf("14.3: Get of another bool: %x", x)
					}
				}
			}
		}
	}
}

// TestGetTags: 14.3, each tag at each place, what stands elsewhere, is not there, or stands there twice.
func TestGetTags(t *testing.T) {
	for _, r := range records() {
		s := kept.Put(r)
		for tag := range 256 {
			for _, x := range each(s, func(_ api.Tlv, content string) string { return wire(byte(tag), content) }) {
				if getIs(t, x) != (x == s) {
					t.Errorf("14.3: Get of another tag: %x", x)
				}
			}
		}
		whole, _, _ := ber.Get(s, 0)
		for _, x := range turned(whole) {
			getIs(t, ber.Put(x))
		}
	}
}

// TestGetZero: 14.3, an entry that is zero and stands there; no delta, or two, or one that is none.
func TestGetZero(t *testing.T) {
	zero := entryBytes(api.Entry{})
	none := wire(0x30)
	for i, s := range []string{
		wire(0x30, num(1), wire(0x30, num(1), num(1), wire(4, "o=x"), zero)), wire(0x30, num(1), wire(0x30, num(1), num(1), wire(4, ""), zero)), wire(0x30, num(1), wire(0x30, num(1), num(1), wire(4, ""))), wire(0x30, num(1), wire(0x30, num(1), num(1), wire(4, "o=x"), none)),
		wire(0x30, num(1), wire(0x30, num(1), num(1), wire(4, "o=x"), entryBytes(org("x")), entryBytes(org("x")))), wire(0x30, num(1), wire(0x30, num(1), num(1), wire(4, "o=x"), entryBytes(org("x")), zero)), wire(0x30, num(1), wire(0x30, num(1), num(1), wire(4, "o=x"), wire(4))),
		wire(0x30, num(1)), wire(0x30, num(1), none), wire(0x30, num(1), deltaBytes(out(1, 1, "o=x")), deltaBytes(out(1, 2, "o=x"))), wire(0x30, num(1), deltaBytes(out(1, 0, "o=x"))),
		wire(0x30, num(3), num(0), num(0), wire(0x30), wire(0x30, zero)), wire(0x30, num(3), num(0), num(0), wire(0x30, none), wire(0x30)), wire(0x30, num(3), num(0), num(0), wire(0x30)), wire(0x30, num(3), num(0), num(0)), wire(0x30, num(3), num(0), wire(0x30), wire(0x30)), wire(0x30, num(3), num(0), num(0), wire(0x30), wire(0x30), wire(0x30)), wire(0x30, num(3), num(0), num(0), wire(0x31), wire(0x30)), wire(0x30, num(3), num(0), num(0), wire(0x30), wire(4)),
		wire(0x30, num(2)), wire(0x30, num(4)), wire(0x30, num(4), num(5), num(5)), wire(0x30, num(4), num(-1)), wire(0x30, num(4), num(1<<52+1)), wire(0x30, num(0)), wire(0x30, num(5)), wire(0x30, num(5), num(5)), wire(0x30, num(-4), num(5)), wire(0x30, num(256+4), num(5)), wire(0x30), "", "\x30", wire(4, "x"), num(4) + num(5), wire(0x30, num(4), wire(4, "\x05")), wire(0x30, wire(4, "\x04"), num(5)),
		wire(0x30, num(2), num(1), num(0), num(0), num(0), flag(true)), wire(0x30, num(2), num(1), num(0), num(0), flag(true), flag(true)), wire(0x30, num(2), num(1), num(0), num(0), num(0), flag(true), flag(true), flag(true)), wire(0x30, num(2), flag(true), flag(true), num(1), num(0), num(0), num(0)), wire(0x30, num(2), num(1), num(8), num(0), num(0), flag(true), flag(true)), wire(0x30, num(2), num(1), num(-2), num(0), num(0), flag(true), flag(true)), wire(0x30, num(2), num(1), num(0), num(25), num(0), flag(true), flag(true)), wire(0x30, num(2), num(1), num(0), num(0), num(25), flag(true), flag(true)),
	} {
		if getIs(t, s) {
			t.Errorf("14.3: Get %d of %x", i, s)
		}
	}
}

// TestGetMany: 14.3, of deltas and entries more than there may be.
func TestGetMany(t *testing.T) {
	for _, n := range []int{0, 1, 399, 400, 401, 5000} {
		if getIs(t, bytesOf(full(at(1, 1), nil, row(1, 1, n)...))) != (n <= 400) {
			t.Error("14.3: Get of deltas", n)
		}
	}
	for _, n := range []int{199, 200, 201, 5000} {
		if getIs(t, bytesOf(full(at(1, 1), many(n)))) != (n <= 200) {
			t.Error("14.3: Get of entries", n)
		}
	}
	l := row(1, 1, 6)
	slices.Reverse(l)
	if getIs(t, bytesOf(full(at(1, 1), nil, l...))) || getIs(t, bytesOf(full(at(1, 1), list(org("y"), org("x"))))) || getIs(t, bytesOf(full(at(1, 1), list(unit("a", "o=x"))))) {
		t.Error("14.3: Get of what may not be")
	}
}
