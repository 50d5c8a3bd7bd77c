package ber_test

import (
	"strings"
	"testing"

	"brook/api"
	"brook/ber"
)

func leaf(tag int, s string) api.Tlv { return api.Tlv{Tag: tag, S: s} }

func list(tag int, l ...api.Tlv) api.Tlv { return api.Tlv{Tag: tag, L: l} }

func text(n int) string { return strings.Repeat("x", n) }

// nest is n lists in one another, the innermost around l.
func nest(n int, l ...api.Tlv) api.Tlv {
	t := list(0x30, l...)
	for range n - 1 {
		t = list(0x30, t)
	}
	return t
}

// wrap lays n lists around a content, whatever it is.
func wrap(content string, n int) string {
	for range n {
		content = "\x30" + string(rune(len(content))) + content
	}
	return content
}

// dice is a small generator: the same numbers in each run.
type dice uint32

func (d *dice) below(n int) int {
	*d = *d*1664525 + 1013904223
	return int(*d>>8) % n
}

// tlv throws one that may be, in which at most deep lists stand in one another.
func (d *dice) tlv(deep int) api.Tlv {
	tag := d.below(8)<<5 | d.below(31)
	if deep == 0 {
		tag &^= 0x20
	}
	if tag&0x20 == 0 {
		b := make([]byte, d.below(6)*d.below(30))
		for i := range b {
			b[i] = byte(d.below(256))
		}
		return leaf(tag, string(b))
	}
	t := api.Tlv{Tag: tag}
	for range d.below(5) {
		t.L = append(t.L, d.tlv(deep-1))
	}
	return t
}

// TestMayTag: 1.1, each tag, alone, in a list, and as a list.
func TestMayTag(t *testing.T) {
	for tag := -300; tag <= 600; tag++ {
		want := tag >= 0 && tag <= 255 && tag%32 != 31
		for i, x := range []api.Tlv{leaf(tag, ""), list(0x30, leaf(4, ""), leaf(tag, "")), nest(11, leaf(tag, ""))} {
			if ber.May(x) != want || ber.Put(x) != "" != want {
				t.Error("1.1: tag", tag, i)
			}
		}
	}
	for _, tag := range []int{1<<8 | 4, 1<<32 | 4, 1<<63 - 28, -1 << 63, -252} {
		if ber.May(leaf(tag, "")) || ber.Put(leaf(tag, "")) != "" {
			t.Error("1.1: tag", tag)
		}
	}
}

// TestMayContent: 1.1, bytes stand in the one kind, others in the other.
func TestMayContent(t *testing.T) {
	for tag := range 256 {
		if tag%32 == 31 {
			continue
		}
		isList := tag/32%2 == 1
		if ber.May(leaf(tag, "x")) == isList {
			t.Error("1.1: bytes", tag)
		}
		if ber.May(list(tag, leaf(4, "x"))) != isList {
			t.Error("1.1: others", tag)
		}
		both := api.Tlv{Tag: tag, S: "x", L: []api.Tlv{leaf(4, "x")}}
		if ber.May(both) || ber.Put(both) != "" || ber.May(list(0x30, both)) {
			t.Error("1.1: bytes and others", tag)
		}
		if empty := (api.Tlv{Tag: tag, L: []api.Tlv{}}); !ber.May(empty) || ber.Put(empty) != string([]byte{byte(tag), 0}) {
			t.Error("1.1: empty", tag)
		}
	}
}

// TestMayDeep: 1.1, MaxDeep, of lists with and without something in them.
func TestMayDeep(t *testing.T) {
	for n := 1; n <= 20; n++ {
		want := n <= api.MaxDeep
		late := list(0x30, leaf(4, "a"), leaf(4, "b"))
		if n > 1 {
			late.L = append(late.L, nest(n-1))
		}
		for i, x := range []api.Tlv{nest(n), nest(n, leaf(4, "x")), late} {
			if ber.May(x) != want || ber.Put(x) != "" != want {
				t.Error("1.1: deep", n, i)
			}
		}
	}
	if x := nest(1<<16 - 1); ber.May(x) || ber.Put(x) != "" {
		t.Error("1.1: very deep")
	}
}

// TestMaySize: 1.1, MaxSize, in one piece and in many.
func TestMaySize(t *testing.T) {
	many := make([]api.Tlv, api.MaxSize/2)
	for i := range many {
		many[i].Tag = 4
	}
	for i, c := range []struct {
		t    api.Tlv
		size int // of what Put tells; 0: it may not be
	}{
		{leaf(4, text(api.MaxSize)), api.MaxSize + 5},
		{leaf(4, text(api.MaxSize+1)), 0},
		{list(0x30, leaf(4, text(api.MaxSize-5))), api.MaxSize + 5},
		{list(0x30, leaf(4, text(api.MaxSize-4))), 0},
		{list(0x30, leaf(4, text(api.MaxSize))), 0},
		{list(0x30, leaf(4, text(api.MaxSize-7)), leaf(4, "")), api.MaxSize + 5},
		{list(0x30, leaf(4, text(api.MaxSize-7)), leaf(4, "x")), 0},
		{list(0x30, leaf(4, text(1<<19)), leaf(4, text(1<<19-10))), api.MaxSize + 5},
		{list(0x30, leaf(4, text(1<<19)), leaf(4, text(1<<19-9))), 0},
		{list(0x30, many...), api.MaxSize + 5},
		{list(0x30, append([]api.Tlv{leaf(4, "x")}, many[1:]...)...), 0},
		{list(0x30, append([]api.Tlv{leaf(4, "")}, many...)...), 0},
		{list(0x30, list(0x30, many[:api.MaxSize/2-3]...)), api.MaxSize + 4},
		{list(0x30, list(0x30, many[:api.MaxSize/2-2]...)), 0},
	} {
		if s := ber.Put(c.t); ber.May(c.t) != (c.size > 0) || len(s) != c.size {
			t.Error("1.1: size", i, len(s))
		}
	}
}

// TestMayEnds: R1, much in little memory; it is told without going through all of it.
func TestMayEnds(t *testing.T) {
	x := leaf(4, text(20))
	for range api.MaxDeep {
		l := make([]api.Tlv, 1000)
		for i := range l {
			l[i] = x
		}
		x = list(0x30, l...)
	}
	if ber.May(x) || ber.Put(x) != "" {
		t.Error("1.1: much")
	}
}

// TestPutLength: 1.1, the bytes of the length.
func TestPutLength(t *testing.T) {
	for n, want := range map[int]string{
		0: "\x00", 1: "\x01", 126: "\x7e", 127: "\x7f", 128: "\x81\x80", 129: "\x81\x81", 254: "\x81\xfe", 255: "\x81\xff",
		256: "\x82\x01\x00", 257: "\x82\x01\x01", 65535: "\x82\xff\xff", 65536: "\x83\x01\x00\x00", 65537: "\x83\x01\x00\x01",
		1<<20 - 1: "\x83\x0f\xff\xff", 1 << 20: "\x83\x10\x00\x00",
	} {
		if s := ber.Put(leaf(4, text(n))); s != "\x04"+want+text(n) {
			t.Error("1.1: length", n)
		}
		// The same content as a list: of leaves without bytes, and one with a byte where the number is odd.
		if n == 1 {
			continue
		}
		var l []api.Tlv
		content := strings.Repeat("\x04\x00", n/2)
		for range n / 2 {
			l = append(l, leaf(4, ""))
		}
		if n%2 == 1 {
			l[n/2-1] = leaf(4, "y")
			content = content[:n-3] + "\x04\x01y"
		}
		if s := ber.Put(list(0x30, l...)); s != "\x30"+want+content {
			t.Error("1.1: length of a list", n)
		}
	}
}

// TestPutContent: 1.1, the bytes of S, or of each of L, as they stand.
func TestPutContent(t *testing.T) {
	for i, c := range []struct {
		t    api.Tlv
		want string
	}{
		{leaf(4, "ab"), "\x04\x02ab"},
		{leaf(0, "\x00"), "\x00\x01\x00"},
		{leaf(0xde, "\xff\x80é"), "\xde\x04\xff\x80\xc3\xa9"},
		{list(0xa0, leaf(1, "a"), leaf(2, ""), leaf(1, "b")), "\xa0\x08\x01\x01a\x02\x00\x01\x01b"},
		{list(0x30, list(0x31, leaf(4, "a")), list(0x20), leaf(4, "b")), "\x30\x0a\x31\x03\x04\x01a\x20\x00\x04\x01b"},
		{list(0x30, leaf(4, text(128))), "\x30\x81\x83\x04\x81\x80" + text(128)},
	} {
		if s := ber.Put(c.t); s != c.want {
			t.Errorf("1.1: Put %d: %x", i, s)
		}
	}
}

// TestGetErrors: 1.2, what is said first.
func TestGetErrors(t *testing.T) {
	const most = -1 << 63
	for i, c := range []struct {
		s  string
		at int
		e  api.Errno
	}{
		{"", -1, api.ErrArg}, {"", 1, api.ErrArg}, {"\x04\x00", -1, api.ErrArg}, {"\x04\x00", -2, api.ErrArg}, {"\x04\x00", 3, api.ErrArg}, {"\x04\x00", most, api.ErrArg}, {"\x04\x00", -(most + 1), api.ErrArg},
		{"", 0, api.ErrMore}, {"\x04\x00", 2, api.ErrMore}, {"\x1f\x00", 2, api.ErrMore},
		{"\x1f", 0, api.ErrForm}, {"\x3f", 0, api.ErrForm}, {"\x5f\x00", 0, api.ErrForm}, {"\xff", 0, api.ErrForm}, {"\x04\x00\xbf", 2, api.ErrForm},
		{"\x04", 0, api.ErrMore}, {"\x30", 0, api.ErrMore}, {"\xfe", 0, api.ErrMore},
		{"\x04\x80", 0, api.ErrForm}, {"\x04\x84", 0, api.ErrForm}, {"\x04\x84\x00\x00\x00\x01x", 0, api.ErrForm}, {"\x04\xff", 0, api.ErrForm}, {"\x30\x80\x00\x00", 0, api.ErrForm},
		{"\x04\x81", 0, api.ErrMore}, {"\x04\x82", 0, api.ErrMore}, {"\x04\x82\x00", 0, api.ErrMore}, {"\x04\x83", 0, api.ErrMore}, {"\x04\x83\x00\x00", 0, api.ErrMore}, {"\x04\x83\xff\xff", 0, api.ErrMore},
		{"\x04\x81\x00", 0, api.ErrForm}, {"\x04\x81\x7f", 0, api.ErrForm}, {"\x04\x81\x01x", 0, api.ErrForm}, {"\x04\x82\x00\x80", 0, api.ErrForm}, {"\x04\x82\x00\x00", 0, api.ErrForm}, {"\x04\x83\x00\x01\x00", 0, api.ErrForm}, {"\x04\x83\x00\xff\xff", 0, api.ErrForm},
		{"\x04\x83\x10\x00\x01", 0, api.ErrForm}, {"\x04\x83\x80\x00\x00", 0, api.ErrForm}, {"\x04\x83\xff\xff\xff", 0, api.ErrForm},
		{"\x04\x81\x80", 0, api.ErrMore}, {"\x04\x82\x01\x00", 0, api.ErrMore}, {"\x04\x83\x01\x00\x00", 0, api.ErrMore}, {"\x04\x83\x10\x00\x00", 0, api.ErrMore}, {"\x04\x01", 0, api.ErrMore}, {"\x04\x7f", 0, api.ErrMore}, {"\x04\x02a", 0, api.ErrMore}, {"\x04\x81\x80" + text(127), 0, api.ErrMore},
		// What is wrong in a content is not looked at ahead of the whole of it.
		{"\x30\x03\x1f\x00", 0, api.ErrMore}, {"\x30\x05\x04\x80\x00\x00", 0, api.ErrMore},
		{"\x30\x02\x1f\x00", 0, api.ErrForm}, {"\x30\x01\x04", 0, api.ErrForm}, {"\x30\x01\x04\x00", 0, api.ErrForm}, {"\x30\x02\x04\x01x", 0, api.ErrForm}, {"\x30\x03\x04\x00\x04", 0, api.ErrForm}, {"\x30\x02\x04\x81", 0, api.ErrForm}, {"\x30\x03\x04\x81\x80" + text(128), 0, api.ErrForm}, {"\x30\x02\x04\x80", 0, api.ErrForm}, {"\x30\x04\x04\x81\x01x", 0, api.ErrForm},
		{"\x30\x04\x30\x02\x30\x01", 0, api.ErrForm}, {"\x30\x04\x04\x00\x30\x01\x04\x00", 0, api.ErrForm},
		{wrap("", 13), 0, api.ErrForm}, {wrap("\x04\x00", 13), 0, api.ErrForm}, {wrap("", 30), 0, api.ErrForm}, {wrap("\x04", 12), 0, api.ErrForm}, {"\x30\x1a\x04\x00" + wrap("", 12), 0, api.ErrForm},
	} {
		x, next, e := ber.Get(c.s, c.at)
		if e != c.e || next != 0 || x.Tag != 0 || x.S != "" || x.L != nil {
			t.Errorf("1.2: %d: %x at %d: %d, %d", i, c.s, c.at, e, next)
		}
	}
}

// TestGetTakes: 1.2, as much as may be, and no more of the text than the tlv.
func TestGetTakes(t *testing.T) {
	for i, c := range []struct {
		s    string
		at   int
		next int
		want api.Tlv
	}{
		{"\x04\x00", 0, 2, leaf(4, "")}, {"\x00\x00", 0, 2, leaf(0, "")}, {"\x20\x00", 0, 2, list(0x20)}, {"\xfe\x00", 0, 2, list(0xfe)},
		{"\x04\x02abc", 0, 4, leaf(4, "ab")}, {"\x1f\xff\x04\x01a\x1f", 2, 5, leaf(4, "a")}, {"\x04\x02\x04\x00", 2, 4, leaf(4, "")}, {"\x04\x02\x04\x00", 0, 4, leaf(4, "\x04\x00")},
		{"\x30\x02\x04\x00\x04", 0, 4, list(0x30, leaf(4, ""))},
		{wrap("", 12), 0, 24, nest(12)}, {wrap("\x04\x01x", 12), 0, 27, nest(12, leaf(4, "x"))}, {wrap("", 13), 2, 26, nest(12)}, {"\x30\x18\x04\x00" + wrap("", 11), 0, 26, list(0x30, leaf(4, ""), nest(11))},
		{"\x04\x83\x10\x00\x00" + text(1<<20), 0, 1<<20 + 5, leaf(4, text(1<<20))},
		{"\x04\x82\x01\x00" + text(300), 0, 260, leaf(4, text(256))}, {"\x04\x83\x01\x00\x00" + text(65536), 0, 65541, leaf(4, text(65536))}, {"\x04\x82\xff\xff" + text(65536), 0, 65539, leaf(4, text(65535))},
	} {
		x, next, e := ber.Get(c.s, c.at)
		if e != api.OK || next != c.next || !ber.Same(x, c.want) {
			t.Error("1.2: Get", i, e, next)
		}
	}
}

// TestGetShort: 1.2 and 1.4, of all short texts of some bytes: what is told has that Put, and what stands behind it changes nothing.
func TestGetShort(t *testing.T) {
	const bytes = "\x00\x01\x02\x03\x04\x1f\x30\x7f\x80\x81\x82\xff"
	var walk func(s string)
	walk = func(s string) {
		x, next, e := ber.Get(s, 0)
		if e == api.OK && (!ber.May(x) || ber.Put(x) != s[:next]) {
			t.Errorf("1.2: %x", s)
		}
		if e != api.OK && e != api.ErrMore && e != api.ErrForm {
			t.Errorf("1.2: %x: %d", s, e)
		}
		if len(s) == 5 {
			return
		}
		for i := range len(bytes) {
			longer := s + bytes[i:i+1]
			y, place, err := ber.Get(longer, 0)
			if e != api.ErrMore && (err != e || place != next || !ber.Same(x, y)) {
				t.Errorf("1.2: behind it: %x", longer)
			}
			walk(longer)
		}
	}
	walk("")
}

// TestRound: 1.4, Get of Put, and of its beginnings.
func TestRound(t *testing.T) {
	d := dice(1)
	for range 600 {
		x := d.tlv(d.below(api.MaxDeep + 1))
		s := ber.Put(x)
		if !ber.May(x) || s == "" {
			t.Fatal("1.1: may be", x)
		}
		for _, ahead := range []string{"", "\x1f", "\x30\x02"} {
			y, next, e := ber.Get(ahead+s+"\xff", len(ahead))
			if e != api.OK || next != len(ahead)+len(s) || !ber.Same(x, y) || ber.Put(y) != s {
				t.Errorf("1.4: %x", s)
			}
		}
		for n := range len(s) {
			if y, next, e := ber.Get(s[:n], 0); e != api.ErrMore || next != 0 || !ber.Same(y, api.Tlv{}) {
				t.Errorf("1.4: a beginning: %x", s[:n])
			}
		}
	}
}

// TestRoundLong: 1.4, where the length gets another byte.
func TestRoundLong(t *testing.T) {
	for _, n := range []int{0, 127, 128, 255, 256, 65535, 65536, api.MaxSize} {
		// Eight lists, where they are long, take 42 bytes more: the outermost content has n then.
		for _, x := range []api.Tlv{leaf(4, text(n)), nest(8, leaf(0, text(max(0, n-42))), leaf(1, ""))} {
			s := ber.Put(x)
			if y, next, e := ber.Get(s, 0); e != api.OK || next != len(s) || !ber.Same(x, y) {
				t.Error("1.4:", n, e, next)
			}
			for _, short := range []int{0, 1, 2, 3, 4, 5, len(s) / 2, len(s) - 1} {
				if short < len(s) {
					if _, next, e := ber.Get(s[:short], 0); e != api.ErrMore || next != 0 {
						t.Error("1.4: a beginning", n, short, e)
					}
				}
			}
		}
	}
}

// TestIntBytes: 1.3, numbers around the ends of what so many bytes hold.
func TestIntBytes(t *testing.T) {
	for n, want := range map[int]string{
		0: "\x00", 1: "\x01", 2: "\x02", -1: "\xff", -2: "\xfe", 127: "\x7f", 128: "\x00\x80", -127: "\x81", -128: "\x80", -129: "\xff\x7f", 255: "\x00\xff", 256: "\x01\x00", -255: "\xff\x01", -256: "\xff\x00", -257: "\xfe\xff",
		32767: "\x7f\xff", 32768: "\x00\x80\x00", -32768: "\x80\x00", -32769: "\xff\x7f\xff", 1<<31 - 1: "\x7f\xff\xff\xff", 1 << 31: "\x00\x80\x00\x00\x00", -1 << 31: "\x80\x00\x00\x00", 1 << 52: "\x10\x00\x00\x00\x00\x00\x00", 1<<55 - 1: "\x7f\xff\xff\xff\xff\xff\xff", 1 << 55: "\x00\x80\x00\x00\x00\x00\x00\x00",
		1<<63 - 1: "\x7f\xff\xff\xff\xff\xff\xff\xff", 1<<63 - 2: "\x7f\xff\xff\xff\xff\xff\xff\xfe", -1 << 63: "\x80\x00\x00\x00\x00\x00\x00\x00", -1<<63 + 1: "\x80\x00\x00\x00\x00\x00\x00\x01",
	} {
		if s := ber.Int(n); s != want {
			t.Errorf("1.3: Int of %d: %x", n, s)
		}
		if x, ok := ber.ReadInt(want); !ok || x != n {
			t.Errorf("1.3: ReadInt of %x: %d", want, x)
		}
	}
	for k := range 64 {
		for _, n := range []int{1<<k - 1, 1 << k, 1<<k + 1, -1 << k, -1<<k - 1, -1<<k + 1} {
			if x, ok := ber.ReadInt(ber.Int(n)); !ok || x != n {
				t.Error("1.3: there and back", n, x)
			}
		}
	}
}

// TestReadInt: 1.3, of all texts of one byte and of two; those that are no number.
func TestReadInt(t *testing.T) {
	for a := range 256 {
		if n, ok := ber.ReadInt(string([]byte{byte(a)})); !ok || n != int(int8(a)) {
			t.Error("1.3: one byte", a, n)
		}
		for b := range 256 {
			want := int(int16(a<<8 | b))
			short := want >= -128 && want <= 127
			n, ok := ber.ReadInt(string([]byte{byte(a), byte(b)}))
			if ok == short || ok && n != want || !ok && n != 0 {
				t.Error("1.3: two bytes", a, b, n)
			}
		}
	}
	for i, s := range []string{"", "\x00\x00\x00", "\x00\x7f\xff", "\xff\x80\x00", "\xff\xff\xff", "\x00\x7f\xff\xff\xff\xff\xff\xff", "\xff\x80\x00\x00\x00\x00\x00\x00", "\x00\x80\x00\x00\x00\x00\x00\x00\x00", "\xff\x7f\xff\xff\xff\xff\xff\xff\xff", "\x01\x00\x00\x00\x00\x00\x00\x00\x00", "123456789", "\x00\x00\x00\x00\x00\x00\x00\x00\x01", "\xff\xff\xff\xff\xff\xff\xff\xff\xff", text(1 << 16)} {
		if n, ok := ber.ReadInt(s); ok || n != 0 {
			t.Error("1.3: none", i, n)
		}
	}
}

// TestSame: 1.3, alike in all, whether it may be or not.
func TestSame(t *testing.T) {
	alike := []api.Tlv{
		{}, leaf(4, "a"), leaf(4, "b"), leaf(4, ""), leaf(5, "a"), leaf(-5, "a"), leaf(260, "a"), leaf(4, "A"), leaf(4, "ab"),
		list(0x30), list(0x31), list(0x30, leaf(4, "a")), list(0x30, leaf(4, "b")), list(0x30, leaf(5, "a")), list(0x30, leaf(4, "a"), leaf(4, "b")), list(0x30, leaf(4, "b"), leaf(4, "a")), list(0x30, list(0x30)), list(0x30, list(0x30, leaf(4, "a"))), list(4, leaf(4, "a")),
		{Tag: 0x30, S: "a", L: []api.Tlv{leaf(4, "a")}}, nest(13), nest(14), nest(13, leaf(4, "")),
	}
	for i, a := range alike {
		for j, b := range alike {
			if ber.Same(a, b) != (i == j) {
				t.Error("1.3: Same", i, j)
			}
		}
	}
	if !ber.Same(api.Tlv{Tag: 4, L: []api.Tlv{}}, leaf(4, "")) || !ber.Same(list(0x30, api.Tlv{Tag: 4}), list(0x30, api.Tlv{Tag: 4, L: []api.Tlv{}})) {
		t.Error("1.3: Same, of no list and an empty one")
	}
	if !ber.Same(nest(1<<16-1), nest(1<<16-1)) || ber.Same(nest(1<<16-1), nest(1<<16-2)) {
		t.Error("1.3: Same, very deep")
	}
}

// TestMemory: R3, what is handed in stays as it is; who writes into what is told changes nothing else of it.
func TestMemory(t *testing.T) {
	room := []api.Tlv{leaf(4, "a"), list(0x31, leaf(4, "b")), leaf(4, "spare")}
	x := api.Tlv{Tag: 0x30, L: room[:2]}
	s := ber.Put(x)
	if !ber.May(x) || !ber.Same(x, list(0x30, leaf(4, "a"), list(0x31, leaf(4, "b")))) || room[2].S != "spare" {
		t.Error("R3: what is handed in")
	}
	room[0].S = "other"
	if s != ber.Put(list(0x30, leaf(4, "a"), list(0x31, leaf(4, "b")))) {
		t.Error("R3: what Put told")
	}
	var l []api.Tlv
	for range 20 {
		l = append(l, list(0x31, leaf(4, "a"), list(0x32), leaf(4, "c")))
	}
	want := list(0x30, l...)
	s = ber.Put(want)
	y, _, _ := ber.Get(s, 0)
	for i := range y.L {
		// Each list but this one stays, whatever is laid into its spare room.
		spare := y.L[i].L
		for range 5 {
			spare = append(spare, leaf(9, "z"))
		}
		spare[0] = leaf(9, "z")
		y.L[i].L = append([]api.Tlv{leaf(4, "a")}, y.L[i].L[1:]...)
		if z, _, _ := ber.Get(s, 0); !ber.Same(y, want) || !ber.Same(z, want) {
			t.Fatal("R3: what Get told", i)
		}
	}
}
