package filter

import (
	"strings"

	"brook/api"
)

const (
	opens      = "("
	closes     = ")"
	star       = "*"
	mark       = '\\'
	marked     = "*()\\" // bytes from firstPlain to lastPlain that do not stand as they are
	firstPlain = ' '
	lastPlain  = '~'
	digits     = "0123456789abcdef"
)

// Text makes the text of what may be.
func Text(f api.Filter) string {
	if !May(f) {
		return ""
	}
	var b strings.Builder
	write(&b, f)
	return b.String()
}

// write leans on what May asks: what a kind does not have is empty, and writes nothing.
func write(b *strings.Builder, f api.Filter) {
	b.WriteString(opens)
	b.WriteString(f.Type)
	b.WriteString(sign(f.Kind))
	writeVal(b, f.Val)
	for i, part := range f.Parts {
		if i > 0 {
			b.WriteString(star)
		}
		writeVal(b, part)
	}
	for _, kid := range f.Kids {
		write(b, kid)
	}
	b.WriteString(closes)
}

// sign tells what stands ahead of Kids, or behind the Type.
func sign(kind int) string {
	switch kind {
	case api.FAnd:
		return "&"
	case api.FOr:
		return "|"
	case api.FNot:
		return "!"
	case api.FGe:
		return ">="
	case api.FLe:
		return "<="
	case api.FHas:
		return "=*"
	}
	return "="
}

func writeVal(b *strings.Builder, val string) {
	for i := range len(val) {
		c := val[i]
		if isPlain(c) {
			b.WriteByte(c)
			continue
		}
		b.WriteByte(mark)
		b.WriteByte(digits[c>>4])
		b.WriteByte(digits[c&15])
	}
}

// isPlain tells whether a byte of a value stands in its text as it is.
func isPlain(c byte) bool {
	return c >= firstPlain && c <= lastPlain && strings.IndexByte(marked, c) < 0
}
