package dn

import (
	"sync"
	"testing"
)

// TestTable: the ways of chapter 2, the table of special bytes is there for the first that asks, whoever it is, and is not made again.
func TestTable(t *testing.T) {
	right := make([]bool, 16)
	var all sync.WaitGroup
	for i := range right {
		all.Go(func() {
			key, ok := Key(`CN=\ #Ann\2c,O=x`)
			right[i] = ok && key == `cn=\#ann\,,o=x`
		})
	}
	all.Wait()
	for i, ok := range right {
		if !ok {
			t.Error("2.3: at once", i)
		}
	}
	made := false
	kindsOnce.Do(func() { made = true })
	if made {
		t.Error("2: the table was not made by once")
	}
}
