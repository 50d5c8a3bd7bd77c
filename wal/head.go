package wal

import (
	"brook/api"
	"brook/strip"
)

const (
	block  = 32            // bytes of a block
	heads  = 2             // blocks of heads: the one that counts is never written over
	start  = heads * block // where the first half begins, in bytes
	digits = 7             // bytes of a number: so many are never below 0
)

// head says where records stand.
type head struct {
	turn  int // how many heads were written, with this one
	first int // where the first record stands, in bytes
	next  int // where the next one goes, in bytes
}

// none is the head of a strip of which nothing was kept yet.
func none() head { return head{0, start, start} }

// latest tells the head that counts: of those that are whole the one that was written last.
func latest(s *strip.Strip, half int) (head, api.Errno) {
	last := none()
	for i := range heads {
		b, e := s.Read(i)
		if e == api.ErrArg {
			// The strip has too few blocks for a head.
			continue
		}
		if e != api.OK {
			return head{}, e
		}
		if h := headOf(b); whole(b) && h.may(half) && h.turn > last.turn {
			last = h
		}
	}
	return last, api.OK
}

// whole tells whether a head was written to its end. Its turn's lowest byte stands first and last, and differs from that of the one written over, two turns ahead: so in one that was torn they differ.
func whole(b string) bool { return b[0] == b[block-1] }

// may tells whether a head may be: blocks that are not the layer's own may bear anything.
func (h head) may(half int) bool {
	return (h.first == start || h.first == start+half) && h.first <= h.next && h.next <= h.first+half
}

func headOf(b string) head {
	return head{value(b), value(b[digits:]), value(b[2*digits:])}
}

// text makes the block of a head.
func (h head) text() string {
	var b [block]byte
	copy(b[:], number(h.turn)+number(h.first)+number(h.next))
	b[block-1] = b[0]
	return string(b[:])
}

// number makes the bytes of a number, the lowest one first.
func number(n int) string {
	var b [digits]byte
	for i := range b {
		b[i] = byte(n >> (8 * i))
	}
	return string(b[:])
}

// value tells the number that stands first in b.
func value(b string) int {
	n := 0
	for i := range digits {
		n |= int(b[i]) << (8 * i)
	}
	return n
}
