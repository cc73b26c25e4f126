package match_test

import (
	"math"
	"math/big"
	"testing"

	"larder/match"
)

// window follows the chapter's sentences in numbers without an end.
func window(start, stop int64, n int) (from, count int64) {
	size := big.NewInt(int64(n))
	if size.Sign() < 0 {
		size.SetInt64(0)
	}
	i, j := big.NewInt(start), big.NewInt(stop)
	if i.Sign() < 0 {
		i.Add(i, size)
	}
	if i.Sign() < 0 {
		i.SetInt64(0)
	}
	if j.Sign() < 0 {
		j.Add(j, size)
	}
	if j.Cmp(size) >= 0 {
		j.Sub(size, big.NewInt(1))
	}
	if i.Cmp(j) > 0 || size.Sign() == 0 || i.Cmp(size) >= 0 {
		return 0, 0
	}
	return i.Int64(), j.Sub(j, i).Int64() + 1
}

// wantWindow holds Window against the chapter's sentences.
func wantWindow(t *testing.T, start, stop int64, n int) {
	t.Helper()
	from, count := match.Window(start, stop, n)
	if i, k := window(start, stop, n); int64(from) != i || int64(count) != k {
		t.Fatalf("Window(%d, %d, %d) = %d, %d, want %d, %d", start, stop, n, from, count, i, k)
	}
}

func TestP9_3_SmallWindows(t *testing.T) {
	for n := -3; n <= 8; n++ {
		for start := int64(-12); start <= 12; start++ {
			for stop := int64(-12); stop <= 12; stop++ {
				wantWindow(t, start, stop, n)
			}
		}
	}
}

func TestP9_3_WindowsAtAllNumbers(t *testing.T) {
	var edges []int64
	for _, middle := range []int64{math.MinInt64, math.MinInt32, -4096, 0, 4096, math.MaxInt32, 1 << 62, -1 << 62, math.MaxInt64} {
		for d := int64(-3); d <= 3; d++ {
			// Around the ends this wraps to the other end, which is an edge too.
			edges = append(edges, middle+d)
		}
	}
	for _, n := range edges {
		for _, start := range edges {
			for _, stop := range edges {
				wantWindow(t, start, stop, int(n))
			}
		}
	}
}

func TestP9_3_WindowsLieInTheRow(t *testing.T) {
	for n := range 6 {
		row := make([]int, n)
		for start := int64(-8); start <= 8; start++ {
			for stop := int64(-8); stop <= 8; stop++ {
				from, count := match.Window(start, stop, n)
				clear(row)
				for i := range row[from : from+count] {
					row[from+i] = 1
				}
				for i := range row {
					fromEnd := i - n
					behind := start >= 0 && int64(i) >= start || start < 0 && int64(fromEnd) >= start
					ahead := stop >= 0 && int64(i) <= stop || stop < 0 && int64(fromEnd) <= stop
					if (row[i] == 1) != (behind && ahead) {
						t.Fatalf("Window(%d, %d, %d) = %d, %d: element %d", start, stop, n, from, count, i)
					}
				}
			}
		}
	}
}
