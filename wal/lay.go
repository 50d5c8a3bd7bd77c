package wal

import (
	"strings"

	"brook/api"
	"brook/strip"
)

// size tells how many bytes records take up.
func size(l []string) int {
	n := 0
	for _, s := range l {
		n += digits + len(s)
	}
	return n
}

// join makes the bytes of records: of each one its length, and itself.
func join(l []string) string {
	var b strings.Builder
	for _, s := range l {
		b.WriteString(number(len(s)))
		b.WriteString(s)
	}
	return b.String()
}

// split tells the records of which b is made.
func split(b string) []string {
	var l []string
	for len(b) >= digits {
		// Bytes that are not the layer's own may say more than there is.
		n := min(value(b), len(b)-digits)
		l = append(l, b[digits:digits+n])
		b = b[digits+n:]
	}
	return l
}

// lay writes b at a place of the strip. The bytes beside it are written as they are: none is changed, wherever a block is torn.
func lay(s *strip.Strip, at int, b string) api.Errno {
	for b != "" {
		was, e := s.Read(at / block)
		if e != api.OK {
			return e
		}
		from := at % block
		n := min(len(b), block-from)
		if e := s.Write(at/block, was[:from]+b[:n]+was[from+n:]); e != api.OK {
			return e
		}
		at, b = at+n, b[n:]
	}
	return api.OK
}

// read reads the bytes of the strip from one place to another.
func read(s *strip.Strip, from, to int) (string, api.Errno) {
	var b strings.Builder
	for from < to {
		x, e := s.Read(from / block)
		if e != api.OK {
			return "", e
		}
		x = x[from%block : min(block, from%block+to-from)]
		b.WriteString(x)
		from += len(x)
	}
	return b.String(), api.OK
}
