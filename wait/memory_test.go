package wait_test

import (
	"slices"
	"testing"
	"unsafe"

	"larder/api"
	"larder/wait"
)

// lent is a place whose key's bytes can be written over behind a call, as no text of the program's own can be.
func lent(db int, key string) (place api.Place, bytes []byte) {
	bytes = []byte(key)
	return at(db, unsafe.String(unsafe.SliceData(bytes), len(bytes))), bytes
}

// spoil writes over a list and its spare room.
func spoil[T any](list []T, with T) {
	list = list[:cap(list)]
	for i := range list {
		list[i] = with
	}
}

func TestR2_PlacesAreNotKept(t *testing.T) {
	w := wait.New()
	list := keys("a", "b", "c")
	wantBlock(t, w, 1, api.ValList, list, 0, api.OK)
	spoil(list, at(2, "spoilt"))
	wantPlaces(t, w, 1, keys("a", "b", "c")...)
	wantNext(t, w, at(0, "c"), api.ValList, 1)
	wantNoNext(t, w, at(2, "spoilt"), api.ValList)
	wantRelease(t, w, 1, true)
	wantNobody(t, w)
}

func TestR2_KeysAreNotKept(t *testing.T) {
	w := wait.New()
	first, bytes := lent(1, "first")
	second, others := lent(2, "second")
	wantBlock(t, w, 1, api.ValList, []api.Place{first, second, first}, 0, api.OK)
	clear(bytes)
	clear(others)
	wantPlaces(t, w, 1, at(1, "first"), at(2, "second"), at(1, "first"))
	wantNext(t, w, at(1, "first"), api.ValList, 1)
	wantNext(t, w, at(2, "second"), api.ValList, 1)
	wantRelease(t, w, 1, true)
	wantNoNext(t, w, at(1, "first"), api.ValList)
	wantNoNext(t, w, at(2, "second"), api.ValList)
}

func TestR2_PlacesAreNotChanged(t *testing.T) {
	w := wait.New()
	spare := keys("b", "a", "b", "spare", "room")
	wantBlock(t, w, 1, api.ValList, spare[:3], 0, api.OK)
	wantBlock(t, w, 1, api.ValList, spare[:2], 0, api.ErrWaitBusy)
	wantRelease(t, w, 1, true)
	if !slices.Equal(spare, keys("b", "a", "b", "spare", "room")) {
		t.Errorf("%v", spare)
	}
}

func TestP18_7_ListsAreNew(t *testing.T) {
	w := wait.New()
	for conn := range api.MaxConns {
		block(t, w, conn, uint64(9-conn), "a", "b", "a")
	}
	wantRelease(t, w, 0, true)
	places, due, waiting := w.Places(3), w.Due(9), w.Waiting()
	spoil(w.Places(3), at(3, "spoilt"))
	spoil(w.Due(9), 77)
	spoil(w.Due(4), 77)
	spoil(w.Waiting(), 77)
	wantPlaces(t, w, 3, keys("a", "b", "a")...)
	wantDue(t, w, 9, 7, 6, 5, 4, 3, 2, 1)
	wantWaiting(t, w, 1, 2, 3, 4, 5, 6, 7)
	wantNext(t, w, at(0, "a"), api.ValList, 1)
	if !slices.Equal(places, keys("a", "b", "a")) || !slices.Equal(due, []int{7, 6, 5, 4, 3, 2, 1}) || !slices.Equal(waiting, []int{1, 2, 3, 4, 5, 6, 7}) {
		t.Errorf("%v, %v, %v", places, due, waiting)
	}
}

func TestP18_7_KeysThatAreToldAreNew(t *testing.T) {
	w := wait.New()
	block(t, w, 1, 0, "first", "second")
	other := w.Places(1)
	for _, place := range w.Places(1) {
		clear(unsafe.Slice(unsafe.StringData(place.Key), len(place.Key)))
	}
	wantPlaces(t, w, 1, keys("first", "second")...)
	wantNext(t, w, at(0, "first"), api.ValList, 1)
	if !slices.Equal(other, keys("first", "second")) {
		t.Errorf("%v", other)
	}
}

func TestP18_7_AnswersStayAsTheyWere(t *testing.T) {
	w := wait.New()
	block(t, w, 1, 5, "a", "b")
	block(t, w, 2, 4, "a")
	places, due, waiting := w.Places(1), w.Due(5), w.Waiting()
	w.Release(1)
	w.Release(2)
	block(t, w, 2, 1, "c")
	block(t, w, 1, 2, "d", "e")
	if !slices.Equal(places, keys("a", "b")) || !slices.Equal(due, []int{2, 1}) || !slices.Equal(waiting, []int{1, 2}) {
		t.Errorf("%v, %v, %v", places, due, waiting)
	}
}
