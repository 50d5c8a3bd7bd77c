// Package ber: see DOC.md, chapter 1.
package ber

import (
	"math/bits"
	"slices"

	"brook/api"
)

const (
	listBit  = 0x20 // of a tag whose content is others
	lowBits  = 0x1f // of a tag: all 1, they would say that more of the tag follows
	longForm = 128  // lengths from here on stand in bytes of their own
	topByte  = 0x80 // the first byte of a number below 0 is at least that
)

// May tells whether t may be.
func May(t api.Tlv) bool {
	_, ok := size(t, 0)
	return ok
}

// Put makes the bytes of what may be.
func Put(t api.Tlv) string {
	n, ok := size(t, 0)
	if !ok {
		return ""
	}
	b := make([]byte, len(head(t.Tag, n))+n)
	fill(b, t)
	return string(b)
}

// Int makes the bytes of a number.
func Int(n int) string {
	m := n
	if n < 0 {
		m = ^n
	}
	// The number's own bits and one that tells whether it is below 0.
	return string(number(n, bits.Len(uint(m))/8+1))
}

// ReadInt reads a number's bytes.
func ReadInt(s string) (int, bool) {
	if s == "" || len(s) > bits.UintSize/8 {
		return 0, false
	}
	n := 0
	if s[0] >= topByte {
		n = -1
	}
	for i := range len(s) {
		n = n<<8 | int(s[i])
	}
	if Int(n) != s {
		return 0, false
	}
	return n, true
}

// Same tells whether a and b are alike in all.
func Same(a, b api.Tlv) bool {
	return a.Tag == b.Tag && a.S == b.S && slices.EqualFunc(a.L, b.L, Same)
}

func mayTag(tag int) bool {
	return tag >= 0 && tag <= 255 && tag&lowBits != lowBits
}

func isList(tag int) bool {
	return tag&listBit != 0
}

// size tells how many bytes the content of t has; above is how many lists t stands in. False: t may not be.
func size(t api.Tlv, above int) (int, bool) {
	if !mayTag(t.Tag) {
		return 0, false
	}
	if !isList(t.Tag) {
		return len(t.S), len(t.L) == 0 && len(t.S) <= api.MaxSize
	}
	if t.S != "" || above >= api.MaxDeep {
		return 0, false
	}
	sum := 0
	for _, x := range t.L {
		n, ok := size(x, above+1)
		if !ok {
			return 0, false
		}
		sum += len(head(x.Tag, n)) + n
		// Asked for each one: a list that is too long is not gone through to its end.
		if sum > api.MaxSize {
			return 0, false
		}
	}
	return sum, true
}

// fill writes t at the end of b, and tells what of b is ahead of it. It goes from the back, so that a length is known when its turn comes.
func fill(b []byte, t api.Tlv) []byte {
	ahead := b[:len(b)-len(t.S)]
	copy(b[len(ahead):], t.S)
	for _, x := range slices.Backward(t.L) {
		ahead = fill(ahead, x)
	}
	h := head(t.Tag, len(b)-len(ahead))
	start := len(ahead) - len(h)
	copy(b[start:], h)
	return b[:start]
}

// head makes the bytes that stand ahead of a content of n bytes.
func head(tag, n int) []byte {
	if n < longForm {
		return []byte{byte(tag), byte(n)}
	}
	length := number(n, (bits.Len(uint(n))+7)/8)
	return append([]byte{byte(tag), byte(longForm + len(length))}, length...)
}

// number makes the last k bytes of n, the highest first.
func number(n, k int) []byte {
	b := make([]byte, k)
	for i := range b {
		b[i] = byte(n >> (8 * (k - 1 - i)))
	}
	return b
}
