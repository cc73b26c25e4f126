package match

// Window tells which elements of n a range from start to stop (below 0: from the end) takes.
func Window(start, stop int64, n int) (from, count int) {
	size := int64(max(n, 0))
	// A sum of a number below 0 and one that isn't can't leave int64.
	if start < 0 {
		start = max(start+size, 0)
	}
	if stop < 0 {
		stop += size
	}
	stop = min(stop, size-1)
	// With no elements, or a start behind the last one, stop lies below start by now too.
	if start > stop {
		return 0, 0
	}
	return int(start), int(stop - start + 1)
}
