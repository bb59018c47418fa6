package lru_test

import (
	"math"
	"slices"
	"testing"

	"collator/api"
	"collator/lru"
)

func key(sum uint64, length int) api.Key { return api.Key{Sum: sum, Len: length} }

// of is a slot whose texts tell val, each in its own way.
func of(k api.Key, val string) api.Slot {
	return api.Slot{Key: k, Left: "left " + val, Right: "right " + val, Val: val}
}

func slots(l ...api.Slot) []api.Slot { return l }

// row is so many slots, with the Keys 1, 2 and so on.
func row(n int) []api.Slot {
	var l []api.Slot
	for i := range n {
		l = append(l, of(key(uint64(i+1), 7), string(rune('a'+i))))
	}
	return l
}

// wantRight is promise M1's words of Right: each two slots are held against each other.
func wantRight(l []api.Slot) bool {
	for i := range l {
		for j := range i {
			if l[i].Key.Sum == l[j].Key.Sum && l[i].Key.Len == l[j].Key.Len {
				return false
			}
		}
	}
	return true
}

// wantGet is promise M1's words of Get.
func wantGet(l []api.Slot, k api.Key) (api.Slot, []api.Slot, api.Errno) {
	if !wantRight(l) {
		return api.Slot{}, nil, 1
	}
	for i, s := range l {
		if s.Key == k {
			return s, slices.Concat(slots(s), l[:i], l[i+1:]), 0
		}
	}
	return api.Slot{}, nil, 10
}

// wantPut is promise M2's words of Put.
func wantPut(l []api.Slot, room int, s api.Slot) (now, out []api.Slot, e api.Errno) {
	if !wantRight(l) {
		return nil, nil, 1
	}
	together := slots(s)
	for _, other := range l {
		if other.Key != s.Key {
			together = append(together, other)
		}
	}
	for i, one := range together {
		if i < room {
			now = append(now, one)
		} else {
			out = append(out, one)
		}
	}
	return now, out, 0
}

// checkGet holds Get against the chapter's words, and what was handed in against what it was.
func checkGet(t *testing.T, l []api.Slot, k api.Key) {
	t.Helper()
	was := slices.Clone(l)
	s, now, e := lru.Get(l, k)
	if wantS, wantNow, wantE := wantGet(was, k); s != wantS || !slices.Equal(now, wantNow) || e != wantE {
		t.Fatalf("Get(%v, %v) = %v, %v, %d, not %v, %v, %d", was, k, s, now, e, wantS, wantNow, wantE)
	}
	if !slices.Equal(l, was) {
		t.Fatalf("Get(%v, %v) has written into it: %v", was, k, l)
	}
}

// checkPut holds Put against the chapter's words, and what was handed in against what it was.
func checkPut(t *testing.T, l []api.Slot, room int, s api.Slot) {
	t.Helper()
	was := slices.Clone(l)
	now, out, e := lru.Put(l, room, s)
	if wantNow, wantOut, wantE := wantPut(was, room, s); !slices.Equal(now, wantNow) || !slices.Equal(out, wantOut) || e != wantE {
		t.Fatalf("Put(%v, %d, %v) = %v, %v, %d, not %v, %v, %d", was, room, s, now, out, e, wantNow, wantOut, wantE)
	}
	if !slices.Equal(l, was) {
		t.Fatalf("Put(%v, %d, %v) has written into it: %v", was, room, s, l)
	}
}

// oddKeys is Keys of which each has others that are unlike it in Sum alone, and in Len alone.
func oddKeys() []api.Key {
	return []api.Key{key(0, 0), key(1, 0), key(0, 1), key(1, 1)}
}

// farKeys is Keys at the ends of their numbers' kinds, and such as come to one number if they are not told apart well.
func farKeys() []api.Key {
	return []api.Key{
		key(math.MaxUint64, -1), key(math.MaxUint64, math.MaxInt), key(math.MaxUint64, math.MinInt), key(math.MaxUint64, 0),
		key(1<<63, 0), key(1<<63-1, 0), key(1<<32, 0), key(0, 1<<32), key(0, -1), key(0, math.MaxInt), key(0, math.MinInt),
		key(2, 3), key(3, 2), key(12, 3), key(1, 23),
	}
}

// rooms is rooms around what n slots need, and far from it.
func rooms(n int) []int {
	return []int{math.MinInt, math.MinInt + 1, -2, -1, 0, 1, 2, n - 1, n, n + 1, n + 2, 1000, math.MaxInt - 1, math.MaxInt}
}

// short is all lists of at most so many slots, each one of some.
func short(length int, some []api.Slot) [][]api.Slot {
	lists := [][]api.Slot{nil, {}}
	for begin := 1; length > 0; length-- {
		end := len(lists)
		for _, l := range lists[begin:end] {
			for _, s := range some {
				lists = append(lists, append(slices.Clone(l), s))
			}
		}
		begin = end
	}
	return lists
}

// odd is slots of odd Keys; those of one Key are unlike in one text alone.
func odd() []api.Slot {
	var l []api.Slot
	for _, k := range oddKeys() {
		l = append(l, api.Slot{Key: k})
	}
	return append(l,
		api.Slot{Key: key(0, 0), Left: "x"}, api.Slot{Key: key(1, 0), Right: "x"}, api.Slot{Key: key(1, 1), Val: "x"},
	)
}
