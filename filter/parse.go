package filter

import (
	"strings"
	"sync/atomic"

	"brook/api"
)

// Parse reads a filter's text, as Text writes it.
func Parse(s string) (api.Filter, bool) {
	f, rest, ok := head(s, 0)
	if !ok || rest != "" {
		return api.Filter{}, false
	}
	return f, true
}

// head reads the filter at the beginning of s, and tells what is behind it; above is how many others it stands in.
func head(s string, above int) (f api.Filter, rest string, ok bool) {
	// Asked ahead of all else: a text of very many brackets is not gone through to its end.
	if above > api.MaxDeep {
		return api.Filter{}, "", false
	}
	s, ok = strings.CutPrefix(s, opens)
	if !ok {
		return api.Filter{}, "", false
	}
	for _, kind := range []int{api.FAnd, api.FOr, api.FNot} {
		if kids, ok := strings.CutPrefix(s, sign(kind)); ok {
			return holder(kind, kids, above)
		}
	}
	// No value's text holds a bracket, so the first one that closes is this filter's own.
	text, rest, ok := strings.Cut(s, closes)
	if !ok {
		return api.Filter{}, "", false
	}
	f, ok = leaf(text)
	return f, rest, ok
}

// holder reads a filter that holds others; s begins where they do.
func holder(kind int, s string, above int) (f api.Filter, rest string, ok bool) {
	r := &reader{rest: s, above: above + 1}
	var kids []api.Filter
	for !strings.HasPrefix(r.rest, closes) {
		kid, ok := r.next()
		// Asked for each one: a text of very many is not gone through to its end.
		if !ok || !mayKids(kind, r.count()) {
			return api.Filter{}, "", false
		}
		kids = append(kids, kid)
	}
	if !mayKids(kind, r.count()) {
		return api.Filter{}, "", false
	}
	return api.Filter{Kind: kind, Kids: kids}, r.rest[len(closes):], true
}

// reader reads the filters that stand in another one; read counts them, and so tells when there are too many, or too few. It is that one's own: a count for all calls would be kept.
type reader struct {
	rest  string
	above int
	read  atomic.Int64
}

func (r *reader) count() int {
	return int(r.read.Load())
}

func (r *reader) next() (api.Filter, bool) {
	f, rest, ok := head(r.rest, r.above)
	if !ok {
		return api.Filter{}, false
	}
	r.rest = rest
	r.read.Add(1)
	return f, true
}

// leaf reads what stands between the brackets of a filter that holds no others.
func leaf(text string) (api.Filter, bool) {
	at := strings.IndexAny(text, "=><")
	if at < 0 {
		return api.Filter{}, false
	}
	f, ok := asked(text[at:])
	// A copy: else the answer would keep all of the text in memory.
	f.Type = strings.Clone(text[:at])
	if !ok || !mayLeaf(f) {
		return api.Filter{}, false
	}
	return f, true
}

// asked reads what a leaf's text says behind its Type; the Type is the caller's.
func asked(text string) (api.Filter, bool) {
	if text == sign(api.FHas) {
		return api.Filter{Kind: api.FHas}, true
	}
	if l, ok := strings.CutPrefix(text, sign(api.FSub)); ok && strings.Contains(l, star) {
		return parts(l)
	}
	for _, kind := range []int{api.FEq, api.FGe, api.FLe} {
		if val, ok := strings.CutPrefix(text, sign(kind)); ok {
			val, ok = value(val)
			return api.Filter{Kind: kind, Val: val}, ok
		}
	}
	return api.Filter{}, false
}

func parts(text string) (api.Filter, bool) {
	var l []string
	// One more than may be, so that too many are seen.
	for _, part := range strings.SplitN(text, star, mostParts+1) {
		val, ok := value(part)
		if !ok {
			return api.Filter{}, false
		}
		l = append(l, val)
	}
	return api.Filter{Kind: api.FSub, Parts: l}, true
}

// value reads a text of a value, or of a part.
func value(text string) (string, bool) {
	var b []byte
	for text != "" {
		c, n := one(text)
		if n == 0 || len(b) == api.MaxVal {
			return "", false
		}
		b = append(b, c)
		text = text[n:]
	}
	return string(b), true
}

// one reads the byte that the beginning of a value's text says, and tells how many bytes of the text say it; 0: it says none.
func one(text string) (byte, int) {
	if isPlain(text[0]) {
		return text[0], 1
	}
	if text[0] != mark || len(text) < 3 {
		return 0, 0
	}
	high, low := strings.IndexByte(digits, text[1]), strings.IndexByte(digits, text[2])
	if high < 0 || low < 0 {
		return 0, 0
	}
	c := byte(high<<4 | low)
	// Text writes such a byte as it is.
	if isPlain(c) {
		return 0, 0
	}
	return c, 3
}
