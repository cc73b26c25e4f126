package order

import "slices"

// reversed tells a list from its end on.
func reversed[T any](list []T) []T {
	found := slices.Clone(list)
	slices.Reverse(found)
	return found
}

// cut tells what stands in a list from a place on, at most so many: below 0 there is no place, and a number below 0 is all.
func cut[T any](list []T, from, count int64) []T {
	size := int64(len(list))
	if from < 0 || from >= size {
		return nil
	}
	if count < 0 || count > size-from {
		count = size - from
	}
	return list[from : from+count]
}

// kept tells those of a list that are to stay.
func kept[T any](list []T, stays func(T) bool) []T {
	var found []T
	for _, one := range list {
		if stays(one) {
			found = append(found, one)
		}
	}
	return found
}

// gathered tells what tell makes of each of a list, one behind the other.
func gathered[T, U any](list []T, tell func(T) []U) []U {
	var found []U
	for _, one := range list {
		found = append(found, tell(one)...)
	}
	return found
}

// merged makes one sorted list of two; of equal ones those of the first list stand ahead.
func merged[T any](a, b []T, compare func(a, b T) int) []T {
	found := make([]T, 0, len(a)+len(b))
	for len(a) > 0 && len(b) > 0 {
		if compare(a[0], b[0]) <= 0 {
			found, a = append(found, a[0]), a[1:]
		} else {
			found, b = append(found, b[0]), b[1:]
		}
	}
	return append(append(found, a...), b...)
}

// runs parts a sorted list into those that are equal.
func runs[T any](list []T, compare func(a, b T) int) [][]T {
	var found [][]T
	for len(list) > 0 {
		end := 1
		for end < len(list) && compare(list[0], list[end]) == 0 {
			end++
		}
		found, list = append(found, list[:end]), list[end:]
	}
	return found
}
