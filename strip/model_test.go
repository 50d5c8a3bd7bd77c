package strip_test

import (
	"fmt"
	"math"
	"strings"
	"testing"

	"brook/api"
	"brook/strip"
)

// full makes 32 bytes of one.
func full(c string) string { return strings.Repeat(c, 32) }

// counted makes 32 bytes that differ from one another.
func counted(first byte) string {
	var b [32]byte
	for i := range b {
		b[i] = first + byte(i)
	}
	return string(b[:])
}

// edges are numbers, rising.
func edges() []int {
	return []int{math.MinInt, math.MinInt + 1, -1 << 32, -33, -2, -1, 0, 1, 2, 3, 31, 32, 33, 34, 66, 1 << 16, 1<<16 + 1, 1 << 32, 1<<32 + 1, math.MaxInt - 1, math.MaxInt}
}

// written is a change that is loose.
type written struct {
	i int
	b string
}

// model is a strip by the chapter's words: what was done for good, and what is loose, one behind the other.
type model struct {
	held  []string
	loose []written
	n     int
	crash int
	down  bool
}

func modelOf(p api.Plan) *model {
	m := &model{crash: p.Crash}
	for i := 0; i < p.Blocks && i < 65536; i++ {
		m.held = append(m.held, full("\x00"))
	}
	return m
}

func (m *model) none(i int) bool { return i < 0 || i >= len(m.held) }

func (m *model) read(i int) (string, api.Errno) {
	switch {
	case m.down:
		return "", api.ErrDown
	case m.none(i):
		return "", api.ErrArg
	}
	b := m.held[i]
	for _, w := range m.loose {
		if w.i == i {
			b = w.b
		}
	}
	return b, api.OK
}

// next counts a change; false: it is the one that is not done.
func (m *model) next() bool {
	m.n++
	m.down = m.crash >= 1 && m.n == m.crash
	return !m.down
}

func (m *model) write(i int, b string) api.Errno {
	switch {
	case m.down:
		return api.ErrDown
	case m.none(i) || len(b) != 32:
		return api.ErrArg
	case !m.next():
		return api.ErrDown
	}
	m.loose = append(m.loose, written{i, b})
	return api.OK
}

func (m *model) do(l []written) {
	for _, w := range l {
		m.held[w.i] = w.b
	}
}

func (m *model) sync() api.Errno {
	if m.down || !m.next() {
		return api.ErrDown
	}
	m.do(m.loose)
	m.loose = nil
	return api.OK
}

func (m *model) tear(n int) { m.n, m.crash = 0, n }

func (m *model) fall(p api.Plan) {
	keep, torn := 0, 0
	if p.Keep > 0 {
		keep = p.Keep % (len(m.loose) + 1)
	}
	if p.Torn > 0 {
		torn = p.Torn % 33
	}
	m.do(m.loose[:keep])
	if keep < len(m.loose) {
		w := m.loose[keep]
		m.held[w.i] = w.b[:torn] + m.held[w.i][torn:]
	}
	m.loose, m.down = nil, false
	m.tear(p.Crash)
}

// state is all that may be seen of a strip without a change of it: what it tells of blocks of each number, too.
func state(s *strip.Strip, places []int) string {
	x := fmt.Sprint(s.Size(), s.Down(), s.Loose())
	for _, i := range places {
		b, e := s.Read(i)
		x += fmt.Sprintf(" %d:%d%q", i, e, b)
	}
	return x
}

func (m *model) state(places []int) string {
	x := fmt.Sprint(len(m.held), m.down, len(m.loose))
	for _, i := range places {
		b, e := m.read(i)
		x += fmt.Sprintf(" %d:%d%q", i, e, b)
	}
	return x
}

// step is one call of a strip.
type step struct {
	what string // w, s, t, f
	i    int
	b    string
	p    api.Plan
}

func write(i int, b string) step { return step{what: "w", i: i, b: b} }

func sync() step { return step{what: "s"} }

func tear(n int) step { return step{what: "t", i: n} }

func fall(keep, torn, crash int) step {
	return step{what: "f", p: api.Plan{Keep: keep, Torn: torn, Crash: crash}}
}

func (x step) of(s *strip.Strip) api.Errno {
	switch x.what {
	case "w":
		return s.Write(x.i, x.b)
	case "s":
		return s.Sync()
	case "t":
		s.Tear(x.i)
	case "f":
		s.Fall(x.p)
	}
	return api.OK
}

func (x step) ofModel(m *model) api.Errno {
	switch x.what {
	case "w":
		return m.write(x.i, x.b)
	case "s":
		return m.sync()
	case "t":
		m.tear(x.i)
	case "f":
		m.fall(x.p)
	}
	return api.OK
}

func (x step) String() string {
	switch x.what {
	case "w":
		return fmt.Sprintf("Write(%d, %q)", x.i, x.b)
	case "s":
		return "Sync()"
	case "t":
		return fmt.Sprintf("Tear(%d)", x.i)
	}
	return fmt.Sprintf("Fall(%+v)", x.p)
}

// around are the places of a strip, and some that there are not.
func around(size int) []int {
	l := []int{math.MinInt, -size, -1, size, size + 1, math.MaxInt}
	for i := range min(size, 4) {
		l = append(l, i, size-1-i)
	}
	return l
}

// same holds a strip against the chapter's words, behind each step.
func same(t *testing.T, p api.Plan, steps ...step) {
	t.Helper()
	s, m := strip.New(p), modelOf(p)
	places := around(len(m.held))
	if state(s, places) != m.state(places) {
		t.Errorf("16.1: New(%+v): %s", p, state(s, places))
	}
	for k, x := range steps {
		got, want := x.of(s), x.ofModel(m)
		if got != want || state(s, places) != m.state(places) {
			t.Errorf("16: New(%+v), %v: %d, not %d: %s, not %s", p, steps[:k+1], got, want, state(s, places), m.state(places))
			return
		}
	}
}
