package dn

import (
	"strings"

	"brook/api"
)

// Parse reads a text of a name.
func Parse(s string) ([]api.Rdn, bool) {
	var l []api.Rdn
	for more := s != ""; more; {
		var first string
		first, s, more = cut(s)
		r, ok := rdn(first)
		// Asked for each part: a text of very many is not gone through to its end.
		if !ok || len(l) == api.MaxRdns {
			return nil, false
		}
		l = append(l, r)
	}
	return l, true
}

func rdn(s string) (api.Rdn, bool) {
	name, text, _ := strings.Cut(s, "=")
	if !mayType(name) {
		return api.Rdn{}, false
	}
	val, ok := value(text)
	if !ok || !mayVal(val) {
		return api.Rdn{}, false
	}
	// A copy: else the answer would keep all of the text in memory.
	return api.Rdn{Type: strings.Clone(name), Val: val}, true
}

// value reads a text of a value, of whatever length.
func value(text string) (string, bool) {
	var b []byte
	for at := 0; at < len(text); {
		c, n := one(text, at)
		if n == 0 {
			return "", false
		}
		b = append(b, c)
		at += n
	}
	return string(b), true
}

// one reads the byte of a value that stands in its text at a place, and tells how many bytes of the text say it; 0: none stands there.
func one(text string, at int) (byte, int) {
	c := text[at]
	if c == mark {
		return behindMark(text[at+1:])
	}
	// A byte without a mark that is the text's first, or last, is the value's first, or last, too.
	if kindOf(c) == coded || needsMark(text, at) {
		return 0, 0
	}
	return c, 1
}

// behindMark reads the byte that a mark and the beginning of s say; it counts the mark, too.
func behindMark(s string) (byte, int) {
	if s == "" {
		return 0, 0
	}
	if kindOf(s[0]) >= free {
		return s[0], 2
	}
	if len(s) < 2 {
		return 0, 0
	}
	high, ok := digit(s[0])
	low, both := digit(s[1])
	if !ok || !both {
		return 0, 0
	}
	return high<<4 | low, 3
}

// digit tells how much a digit, of whatever case, says.
func digit(c byte) (byte, bool) {
	n := strings.IndexByte(digits, lower(c))
	return byte(max(n, 0)), n >= 0
}
