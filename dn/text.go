package dn

import (
	"strings"
	"sync"

	"brook/api"
)

// kind of a byte: how it stands in a value's text.
type kind byte

const (
	coded  kind = iota // as a mark and two digits
	plain              // as it is
	free               // as it is; it may be behind a mark
	atHead             // as free, but behind a mark where it is the first
	atEnds             // as free, but behind a mark where it is the first or the last
	always             // behind a mark
)

const (
	lastPlain = '~'         // bytes above it are coded
	marked    = ",+\"\\<>;" // bytes that are always behind a mark
	digits    = "0123456789abcdef"
)

// kinds is a table of what kindOf says of the bytes up to lastPlain. Special alone reads it: the calls of chapter 2 ask kindOf.
var (
	kinds     [lastPlain + 1]kind
	kindsOnce sync.Once
)

// Text makes the text of a list, whether it may be or not.
func Text(l []api.Rdn) string {
	var b strings.Builder
	for i, r := range l {
		if i > 0 {
			b.WriteByte(comma)
		}
		b.WriteString(r.Type)
		b.WriteByte('=')
		writeVal(&b, r.Val)
	}
	return b.String()
}

func writeVal(b *strings.Builder, val string) {
	for i := range len(val) {
		c := val[i]
		if kindOf(c) == coded {
			b.WriteByte(mark)
			b.WriteByte(digits[c>>4])
			b.WriteByte(digits[c&15])
			continue
		}
		if needsMark(val, i) {
			b.WriteByte(mark)
		}
		b.WriteByte(c)
	}
}

// needsMark tells whether the byte at a place of s stands behind a mark, if s is a value, or a text of one.
func needsMark(s string, at int) bool {
	switch kindOf(s[at]) {
	case always:
		return true
	case atHead:
		return at == 0
	case atEnds:
		return at == 0 || at == len(s)-1
	}
	return false
}

func kindOf(c byte) kind {
	switch {
	case c < blank || c > lastPlain:
		return coded
	case c == '=':
		return free
	case c == '#':
		return atHead
	case c == blank:
		return atEnds
	case strings.IndexByte(marked, c) >= 0:
		return always
	}
	return plain
}

func fillKinds() {
	for c := range kinds {
		kinds[c] = kindOf(byte(c))
	}
}

// Special tells whether a byte, somewhere in a value, does not stand as it is in the value's text.
func Special(c byte) bool {
	kindsOnce.Do(fillKinds)
	return c > lastPlain || kinds[c] == coded || kinds[c] >= atHead
}
