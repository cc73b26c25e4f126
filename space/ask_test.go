package space_test

import (
	"fmt"
	"slices"
	"strings"
	"testing"

	"larder/api"
	"larder/chain"
	"larder/heap"
	"larder/space"
	"larder/table"
)

// words tells B(n) of R9.
func words(n int) int { return 2 + (n+7)/8 }

// costOf tells by R9 what a key costs.
func costOf(key string, v api.Value) int {
	sum := 24 + words(len(key))
	switch v.Kind {
	case api.ValNone:
		return 0
	case api.ValText:
		sum += words(len(v.Text))
	case api.ValList:
		sum += 8
		for _, b := range v.List {
			sum += 6 + words(len(b))
		}
	case api.ValHash:
		sum += 40
		for _, p := range v.Pairs {
			sum += 16 + words(len(p.Field)) + words(len(p.Value))
		}
	case api.ValSet:
		sum += 40
		for _, b := range v.List {
			sum += 16 + words(len(b))
		}
	case api.ValRank:
		sum += 96
		for _, m := range v.Ranked {
			sum += 40 + 2*words(len(m.Member))
		}
	}
	return sum
}

// wantCost holds the cost of a space against the sum over its keys.
func wantCost(t *testing.T, s *space.Space) {
	t.Helper()
	sum := 0
	for db := range api.MaxDB {
		for _, key := range s.Keys(db) {
			v, _ := s.Value(db, key)
			want := costOf(string(key), v)
			if got := s.CostOf(db, key); got != want {
				t.Errorf("CostOf(%d, %q) = %d, want %d", db, key, got, want)
			}
			sum += want
		}
	}
	if got := s.Cost(); got != sum {
		t.Errorf("Cost() = %d, want %d", got, sum)
	}
}

func TestP10_15_Value(t *testing.T) {
	s := filled(t)
	for i, want := range kinds() {
		wantValue(t, s, at(0, fmt.Sprint(i)), want)
	}
	for _, p := range outOfPlace {
		v, e := s.Value(p.db, []byte(p.key))
		if show(v) != show(api.Value{}) || e != p.want {
			t.Errorf("Value(%d, %.20q): %s, %d; want %d", p.db, p.key, show(v), e, p.want)
		}
	}
	for _, p := range []api.Place{at(0, ""), at(0, "none"), at(1, "0"), at(3, wide(4096))} {
		wantNothing(t, s, p)
	}
}

func TestP10_16_DeadlineKeysSize(t *testing.T) {
	s := filled(t)
	wantDeadline(t, s, at(0, "0"), 0)
	wantDeadline(t, s, at(0, "1"), 1000)
	wantDeadline(t, s, at(1, "due"), 20)
	for _, p := range outOfPlace {
		if at, there := s.Deadline(p.db, []byte(p.key)); at != 0 || there {
			t.Errorf("Deadline(%d, ..): %d, %v", p.db, at, there)
		}
	}
	if got := fmt.Sprintf("%q", s.Keys(0)); got != `["0" "1" "2" "3" "4"]` || s.Size(0) != 5 || s.Size(1) != 1 || s.Size(2) != 0 || len(s.Keys(2)) != 0 {
		t.Errorf("Keys(0): %s; sizes %d, %d, %d", got, s.Size(0), s.Size(1), s.Size(2))
	}
	done(t, s, 6, func() {
		for _, key := range []string{"b", "", "a", "ab", "\xff", "B", "\x00"} {
			store(t, s, at(3, key), text(key))
		}
		if got := fmt.Sprintf("%q", s.Keys(3)); got != `["" "\x00" "B" "a" "ab" "b" "\xff"]` || s.Size(3) != 7 {
			t.Errorf("Keys(3): %s", got)
		}
	})
	for _, db := range []int{-1, 4, 1 << 62, -1 << 63} {
		next, keys := s.Scan(db, 0, 9)
		if len(s.Keys(db)) != 0 || s.Size(db) != 0 || next != 0 || len(keys) != 0 {
			t.Errorf("database %d: %q, %d, Scan %d, %q", db, s.Keys(db), s.Size(db), next, keys)
		}
	}
}

// TestP10_16_Scan holds it against a table of the same keys on another heap.
func TestP10_16_Scan(t *testing.T) {
	h, _ := heap.New(1 << 20)
	s := made(t, 16384)
	for db, many := range []int{0, 1, 7, 300} {
		x, _ := table.New(h, seed)
		done(t, s, 1, func() {
			for i := range many + 50 {
				store(t, s, at(db, fmt.Sprint(i)), text("x"))
				if i < many {
					x.Put([]byte(fmt.Sprint(i)), 0, 0, 0)
				}
			}
			for i := range 50 {
				s.Remove(db, []byte(fmt.Sprint(many+i)))
			}
		})
		for _, n := range []int{-1 << 63, -1, 0, 1, 2, 3, 10, 299, 300, 1 << 62} {
			told := 0
			for cursor, rounds := uint64(0), 0; rounds < 400; rounds++ {
				next, keys := s.Scan(db, cursor, n)
				wantNext, want := x.Scan(cursor, n)
				if next != wantNext || !slices.EqualFunc(keys, want, slices.Equal) {
					t.Fatalf("Scan(%d, %d, %d): %d, %q; want %d, %q", db, cursor, n, next, keys, wantNext, want)
				}
				told += len(keys)
				if cursor = next; cursor == 0 {
					break
				}
			}
			if told != many {
				t.Errorf("Scan by %d: %d keys of %d", n, told, many)
			}
		}
		for _, cursor := range []uint64{1, 1 << 63, 1<<64 - 1} {
			next, keys := s.Scan(db, cursor, 2)
			wantNext, want := x.Scan(cursor, 2)
			if next != wantNext || !slices.EqualFunc(keys, want, slices.Equal) {
				t.Errorf("Scan(%d, %d, 2): %d, %q; want %d, %q", db, cursor, next, keys, wantNext, want)
			}
		}
	}
}

func TestP10_17_Cost(t *testing.T) {
	s := made(t, 16384)
	sizes := []int{0, 1, 7, 8, 9, 16, 17, 496, 497, 4095, 4096}
	for _, n := range sizes {
		for _, m := range sizes {
			a, b := wide(n), strings.Repeat("x", m)
			values := []api.Value{text(a), list(a), list(a, b, a), hash(a, b)}
			if a != b {
				values = append(values, set(a, b), ranked(scored(a, 1), scored(b, -1)), hash(a, b, b, a))
			}
			for _, v := range values {
				done(t, s, 1, func() {
					store(t, s, at(1, wide(m)), v)
					if got, want := s.Cost(), costOf(wide(m), v); got != want || s.CostOf(1, []byte(wide(m))) != want {
						t.Errorf("cost %d, want %d", got, want)
					}
				})
				if got, want := s.Cost(), costOf(wide(m), v); got != want {
					t.Errorf("behind the Run: cost %d, want %d", got, want)
				}
				done(t, s, 1, func() { s.Remove(1, []byte(wide(m))) })
				if s.Cost() != 0 {
					t.Errorf("of nothing: cost %d", s.Cost())
				}
			}
		}
	}
	for _, p := range outOfPlace {
		if got := s.CostOf(p.db, []byte(p.key)); got != 0 {
			t.Errorf("CostOf(%d, ..): %d", p.db, got)
		}
	}
}

// TestP10_17_CostInsideARun: it follows every call and every change in place; a deadline costs nothing.
func TestP10_17_CostInsideARun(t *testing.T) {
	s := filled(t)
	done(t, s, 6, func() {
		wantCost(t, s)
		for i := range 5 {
			s.SetDeadline(0, []byte(fmt.Sprint(i)), 90)
		}
		wantCost(t, s)
		l, _ := chain.Open(s.Heap(), edit(t, s, at(0, "1"), api.ValList))
		for i := range 20 {
			l.Push(i%2 == 0, []byte(wide(i)))
			wantCost(t, s)
		}
		l.Cut(3, 15)
		l.Close()
		wantCost(t, s)
		s.Move(0, []byte("1"), 0, []byte("a longer key"))
		wantCost(t, s)
		s.Bind(0, []byte("0"), api.ValList, makeAt(t, s.Heap(), list("x")))
		wantCost(t, s)
		s.SetDeadline(0, []byte("2"), 2)
		wantCost(t, s)
	})
	wantCost(t, s)
}
