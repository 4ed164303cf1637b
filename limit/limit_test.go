package limit

import "testing"

const (
	leastInt = -1 << 63
	mostInt  = 1<<63 - 1
)

func TestWithin(t *testing.T) {
	for _, c := range []struct {
		x, least, most int
		want           bool
	}{
		{0, 0, 0, true}, {1, 0, 0, false}, {-1, 0, 0, false},
		{0, 1, 16, false}, {1, 1, 16, true}, {9, 1, 16, true}, {16, 1, 16, true}, {17, 1, 16, false},
		{leastInt, 0, 3, false}, {mostInt, 0, 3, false},
		{leastInt, leastInt, mostInt, true}, {mostInt, leastInt, mostInt, true},
		{2, 3, 1, false},
	} {
		if got := Within(c.x, c.least, c.most); got != c.want {
			t.Errorf("Within(%d, %d, %d): %v", c.x, c.least, c.most, got)
		}
	}
}
