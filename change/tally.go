package change

import (
	"sync/atomic"

	"brook/api"
)

// tally counts, for each code, of how many values of one mod it is said. It is that mod's own: counts for all calls would be kept.
type tally [api.Other + 1]atomic.Int64

func (t *tally) count(code int) {
	t[code].Add(1)
}

// first tells the first of codes that is said of some value; Success: none is.
func (t *tally) first(codes ...int) int {
	for _, code := range codes {
		if t[code].Load() > 0 {
			return code
		}
	}
	return api.Success
}
