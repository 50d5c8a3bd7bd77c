package ber

import (
	"strings"
	"sync/atomic"

	"brook/api"
)

// mostLong is how many bytes of its own the length MaxSize has.
const mostLong = 3

// Get reads the tlv that stands in s at a place.
func Get(s string, at int) (t api.Tlv, next int, e api.Errno) {
	if at < 0 || at > len(s) {
		return api.Tlv{}, 0, api.ErrArg
	}
	r := &reader{s: s[at:]}
	t, e = r.tlv(0)
	if e != api.OK {
		return api.Tlv{}, 0, e
	}
	return t, at + r.count(), api.OK
}

// reader goes through a text; read counts the bytes that are behind it.
type reader struct {
	s    string
	read atomic.Int64
}

func (r *reader) count() int {
	return int(r.read.Load())
}

func (r *reader) left() int {
	return len(r.s) - r.count()
}

// take reads n bytes, of which the caller knows that they are left.
func (r *reader) take(n int) string {
	end := int(r.read.Add(int64(n)))
	return r.s[end-n : end]
}

// tlv reads the next one; above is how many lists it stands in.
func (r *reader) tlv(above int) (api.Tlv, api.Errno) {
	tag, e := r.tag()
	if e != api.OK {
		return api.Tlv{}, e
	}
	n, e := r.length()
	if e != api.OK {
		return api.Tlv{}, e
	}
	if r.left() < n {
		return api.Tlv{}, api.ErrMore
	}
	content := r.take(n)
	if !isList(tag) {
		// A copy: else the answer would keep all of the text in memory.
		return api.Tlv{Tag: tag, S: strings.Clone(content)}, api.OK
	}
	l, ok := list(content, above+1)
	if !ok {
		return api.Tlv{}, api.ErrForm
	}
	return api.Tlv{Tag: tag, L: l}, api.OK
}

func (r *reader) tag() (int, api.Errno) {
	if r.left() == 0 {
		return 0, api.ErrMore
	}
	tag := int(r.take(1)[0])
	if !mayTag(tag) {
		return 0, api.ErrForm
	}
	return tag, api.OK
}

func (r *reader) length() (int, api.Errno) {
	if r.left() == 0 {
		return 0, api.ErrMore
	}
	first := int(r.take(1)[0])
	if first < longForm {
		return first, api.OK
	}
	k := first - longForm
	if k < 1 || k > mostLong {
		return 0, api.ErrForm
	}
	if r.left() < k {
		return 0, api.ErrMore
	}
	long := r.take(k)
	n := 0
	for i := range len(long) {
		n = n<<8 | int(long[i])
	}
	if long[0] == 0 || n < longForm || n > api.MaxSize {
		return 0, api.ErrForm
	}
	return n, api.OK
}

// list reads all that stands in a content. Whatever is wrong in there, more bytes behind it would not mend it.
func list(content string, deep int) ([]api.Tlv, bool) {
	if deep > api.MaxDeep {
		return nil, false
	}
	r := &reader{s: content}
	var l []api.Tlv
	for r.left() > 0 {
		t, e := r.tlv(deep)
		if e != api.OK {
			return nil, false
		}
		l = append(l, t)
	}
	return l, true
}
