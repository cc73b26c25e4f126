package table_test

import (
	"iter"
	"math/rand"
	"slices"
	"strings"
	"testing"

	"larder/api"
	"larder/table"
	"larder/word"
)

func TestP6_5_Get(t *testing.T) {
	h := made(t, 20000)
	m := tabled(t, h, 1, "", "a", text(4096))
	ref, _ := h.Alloc(99, 1, 2)
	handle, _ := h.Root(ref)
	wantPut(t, m, "full", ref, 1<<64-1, 1<<63, true, api.OK)
	wantPut(t, m, "zero", 0, 0, 0, true, api.OK)
	h.Collect()
	ref, _ = h.At(handle)
	before := stateOf(h)
	wantGet(t, m, "", 0, 1, 100, api.OK)
	wantGet(t, m, "a", 0, 2, 200, api.OK)
	wantGet(t, m, text(4096), 0, 3, 300, api.OK)
	wantGet(t, m, "zero", 0, 0, 0, api.OK)
	wantGet(t, m, "full", ref, 1<<64-1, 1<<63, api.OK)
	for _, key := range []string{"b", "A", "a\x00", "aa", text(4095), text(4097), text(100000)} {
		wantGet(t, m, key, 0, 0, 0, api.ErrTableNone)
	}
	wantState(t, "Get", h, before)
}

// TestP6_5_TheSeedIsTheTables: two tables of other seeds have their keys in other buckets, and in another order.
func TestP6_5_TheSeedIsTheTables(t *testing.T) {
	h := made(t, 20000)
	keys := counted(30)
	for _, seed := range []uint64{0, 1, 1 << 63, 1<<64 - 1} {
		m := tabled(t, h, seed, keys...)
		h.Collect()
		wantKeys(t, m, seed, keys...)
		for i, key := range keys {
			wantGet(t, m, key, 0, uint64(i+1), uint64(100*(i+1)), api.OK)
		}
		m.Close()
	}
}

func TestP6_8_Keys(t *testing.T) {
	h := made(t, 20000)
	keys := []string{"b", "\xff", "a", "", "ab", "aa", "a\x00", "\x00", "B", text(600), "abcdefghi", "abcdefgh"}
	m := tabled(t, h, 3)
	wantKeys(t, m, 3)
	for i, key := range keys {
		wantPut(t, m, key, 0, 0, 0, true, api.OK)
		before := stateOf(h)
		wantKeys(t, m, 3, keys[:i+1]...)
		wantState(t, "Keys, All, Scan", h, before)
	}
}

// heard tells what an iterator tells, and calls do at each.
func heard(all iter.Seq[[]byte], do func(i int)) string {
	var found []string
	for key := range all {
		found = append(found, string(key))
		do(len(found) - 1)
	}
	return strings.Join(found, ",")
}

// inOrder tells keys in hash order, as heard does.
func inOrder(seed uint64, keys ...string) string { return strings.Join(byHash(seed, keys), ",") }

func TestP6_8_TheBodyChangesTheTable(t *testing.T) {
	keys := counted(40)
	h := made(t, 20000)
	m := tabled(t, h, 3, keys...)
	found := heard(m.All(), func(i int) {
		m.Put([]byte{255, byte(i)}, 0, 0, 0)
		m.Delete([]byte(keys[i]))
		m.Step()
		h.Resize(1000 + 100*i)
	})
	if found != inOrder(3, keys...) {
		t.Errorf("All over a table that is changed meanwhile told %s", found)
	}
	found = heard(m.All(), func(int) {
		for _, key := range m.Keys() {
			m.Delete(key)
		}
		h.Collect()
	})
	if strings.Count(found, ",") != 39 || m.Len() != 0 {
		t.Errorf("All over a table that is emptied meanwhile told %q", found)
	}
}

func TestP6_8_TheBodyClosesTheTable(t *testing.T) {
	h := made(t, 2000)
	m := tabled(t, h, 3, "a", "b", "c")
	all := m.All()
	found := heard(all, func(int) {
		m.Close()
		h.Collect()
		tabled(t, h, 1, "other").Close()
	})
	if found != inOrder(3, "a", "b", "c") {
		t.Errorf("All over a table that is closed meanwhile told %q", found)
	}
	if found := heard(all, func(int) {}); found != "" {
		t.Errorf("behind Close it told %q", found)
	}
	wantUsed(t, h, 1, 0, 0)
}

func TestP6_8_LeftEarly(t *testing.T) {
	h := made(t, 2000)
	m := tabled(t, h, 3, "a", "b", "c")
	all := m.All()
	want := byHash(3, []string{"a", "b", "c"})
	for stop := range 3 {
		calls := 0
		all(func(key []byte) bool {
			if string(key) != want[calls] {
				t.Errorf("call %d is told %q", calls, key)
			}
			calls++
			return calls <= stop
		})
		if calls != stop+1 {
			t.Errorf("left at %d, but called %d times", stop, calls)
		}
	}
	for range all {
		break
	}
	if got := h.Stats().Roots; got != 1 {
		t.Errorf("behind ranges that were left %d handles are in use", got)
	}
}

// TestP6_8_EachRangeBeginsAnew: an All() tells what is there when a range over it begins, not when it was asked for.
func TestP6_8_EachRangeBeginsAnew(t *testing.T) {
	h := made(t, 4000)
	m := tabled(t, h, 3)
	all := m.All()
	for i, key := range counted(12) {
		wantPut(t, m, key, 0, 0, 0, true, api.OK)
		for range 2 {
			if found := heard(all, func(int) {}); found != inOrder(3, counted(i+1)...) {
				t.Errorf("All told %q behind %d keys", found, i+1)
			}
		}
	}
	n := 12
	for key := range all {
		m.Delete(key)
		n--
		inner := 0
		for range all {
			inner++
		}
		if inner != n {
			t.Errorf("a range inside a range told %d keys, want %d", inner, n)
		}
	}
	if n != 0 {
		t.Errorf("%d keys were not told", n)
	}
}

func TestP6_8_Pulled(t *testing.T) {
	h := made(t, 2000)
	m := tabled(t, h, 3, "a", "b")
	next, stop := iter.Pull(m.All())
	defer stop()
	for _, want := range byHash(3, []string{"a", "b"}) {
		if key, ok := next(); string(key) != want || !ok {
			t.Errorf("pulled %q, %v, want %q", key, ok, want)
		}
		m.Delete([]byte(want))
	}
	if _, ok := next(); ok {
		t.Error("a third key was told")
	}
}

func TestP6_9_Scan(t *testing.T) {
	h := made(t, 40000)
	m := tabled(t, h, 11)
	var keys []string
	for _, key := range counted(150) {
		keys = append(keys, key)
		wantPut(t, m, key, 0, 0, 0, true, api.OK)
		before := stateOf(h)
		order := byHash(11, keys)
		for _, at := range []int{0, len(order) / 2, len(order) - 1} {
			hash := word.Hash(11, []byte(order[at]))
			for _, cursor := range []uint64{0, 1, hash - 1, hash, hash + 1, 1 << 62, 1<<63 - 1, 1 << 63, 3 << 62, 1<<64 - 1} {
				for _, n := range []int{least, -1, 0, 1, 2, 7, most} {
					wantScan(t, m, 11, cursor, n, keys)
				}
			}
		}
		wantState(t, "Scan", h, before)
	}
}

// TestP6_9_KeysOfOneHash: they are told together, whatever n is.
func TestP6_9_KeysOfOneHash(t *testing.T) {
	h := made(t, 20000)
	m := tabled(t, h, 6)
	var keys []string
	for _, hash := range []uint64{0, 0, 1, 1, 1, 1 << 62, 1<<62 + 1, 1<<63 - 1, 1<<63 - 1, 1 << 63, 1<<64 - 2, 1<<64 - 1, 1<<64 - 1, 1<<64 - 1} {
		key := hashed(6, hash, uint64(len(keys))*7919%64)
		keys = append(keys, key)
		wantPut(t, m, key, 0, 0, 0, true, api.OK)
		wantKeys(t, m, 6, keys...)
		for _, cursor := range []uint64{0, 1, 2, 1 << 62, 1<<63 - 2, 1<<63 - 1, 1 << 63, 1<<64 - 2, 1<<64 - 1} {
			for n := range 16 {
				wantScan(t, m, 6, cursor, n, keys)
			}
		}
	}
	if next, list := m.Scan(0, 1); next != 1 || len(list) != 2 {
		t.Errorf("Scan(0, 1): %d and %d keys", next, len(list))
	}
	if next, list := m.Scan(1<<64-1, 1); next != 0 || len(list) != 3 {
		t.Errorf("Scan at the greatest hash: %d and %d keys", next, len(list))
	}
}

// TestP6_9_WhileARehashIsOn asks at each place of rehashes to more buckets and to fewer.
func TestP6_9_WhileARehashIsOn(t *testing.T) {
	h := made(t, 1<<15)
	m, keys := rehashing(t, h, 4, 129)
	asks := func() {
		for cursor := range uint64(20) {
			wantScan(t, m, 4, cursor*(1<<64-1)/19, int(cursor), keys)
		}
	}
	asks()
	for m.Step() {
		asks()
	}
	for len(keys) > 63 {
		wantErrno(t, "Delete", m.Delete([]byte(keys[0])), api.OK)
		keys = keys[1:]
	}
	asks()
	for m.Step() {
		asks()
	}
}

// TestP6_9_ThroughChanges goes from cursor to cursor while keys come and go, the table grows and shrinks and the heap collects.
func TestP6_9_ThroughChanges(t *testing.T) {
	r := rand.New(rand.NewSource(9))
	for round := range 60 {
		h := made(t, 1<<17)
		seed := r.Uint64()
		m := tabled(t, h, seed)
		stays, told, parted := map[string]bool{}, map[string]int{}, map[string]bool{}
		for i := range 100 {
			key := "stay" + text(i)
			stays[key] = true
			wantPut(t, m, key, 0, 0, 0, true, api.OK)
		}
		for i := range uint64(10) {
			key := hashed(seed, 1<<63, i)
			stays[key] = true
			wantPut(t, m, key, 0, 0, 0, true, api.OK)
		}
		for cursor, first := uint64(0), true; first || cursor != 0; first = false {
			next, list := m.Scan(cursor, r.Intn(6))
			for _, key := range list {
				told[string(key)]++
			}
			cursor = next
			changeALot(r, m, parted, round%3)
			if r.Intn(4) == 0 {
				h.Collect()
			}
		}
		for key := range stays {
			if told[key] != 1 {
				t.Fatalf("a key that was there all the while was told %d times", told[key])
			}
		}
		for key, n := range told {
			if n > 1 && !parted[key] {
				t.Fatalf("a key that was never deleted was told %d times", n)
			}
		}
	}
}

// changeALot puts or deletes some keys, more of the one or of the other as way says, and notes what was deleted.
func changeALot(r *rand.Rand, m *table.Table, parted map[string]bool, way int) {
	for range r.Intn(40) {
		key := []byte{byte(r.Intn(2)), byte(r.Intn(200))}
		if r.Intn(10) < 2+3*way {
			m.Put(key, 0, 0, 0)
		} else if m.Delete(key) == api.OK {
			parted[string(key)] = true
		}
	}
}

func TestP6_9_NothingToTell(t *testing.T) {
	h := made(t, 2000)
	m := tabled(t, h, 2)
	for _, cursor := range []uint64{0, 1, 1 << 63, 1<<64 - 1} {
		for _, n := range []int{least, 0, 1, most} {
			if next, list := m.Scan(cursor, n); next != 0 || len(list) != 0 {
				t.Errorf("Scan(%d, %d) of an empty table: %d, %q", cursor, n, next, list)
			}
		}
	}
	wantPut(t, m, hashed(2, 5, 0), 0, 0, 0, true, api.OK)
	for _, cursor := range []uint64{6, 1 << 62, 1<<64 - 1} {
		if next, list := m.Scan(cursor, 3); next != 0 || len(list) != 0 {
			t.Errorf("Scan(%d, 3) behind the only key: %d, %q", cursor, next, list)
		}
	}
	if got := slices.Collect(m.All()); len(got) != 1 {
		t.Errorf("All tells %d keys", len(got))
	}
}
