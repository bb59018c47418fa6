package lru_test

import (
	"slices"
	"testing"
	"unsafe"

	"collator/api"
	"collator/lru"
)

// lent is a text in memory that its owner can write into.
func lent(s string) (string, func()) {
	memory := []byte(s)
	return unsafe.String(unsafe.SliceData(memory), len(memory)), func() {
		for i := range memory {
			memory[i] = '#'
		}
	}
}

// lentRow is a row whose texts its owner can write into, and its list as well.
func lentRow(n int) ([]api.Slot, func()) {
	l := row(n)
	var spoils []func()
	for i := range l {
		for _, text := range []*string{&l[i].Left, &l[i].Right, &l[i].Val} {
			mine, spoil := lent(*text)
			*text = mine
			spoils = append(spoils, spoil)
		}
	}
	return l, func() {
		for _, spoil := range spoils {
			spoil()
		}
		for i := range l {
			l[i] = api.Slot{Key: key(99, 99), Val: "spoilt"}
		}
	}
}

// roomy is a row with something written in the room behind its length.
func roomy(n, behind int) []api.Slot {
	return row(n + behind)[:n]
}

func TestWhatIsHandedInIsAsItWasM1M2(t *testing.T) {
	for n := range 6 {
		for behind := range 4 {
			l := roomy(n, behind)
			was := slices.Clone(l[:cap(l)])
			asIs := func(what string) {
				if !slices.Equal(l[:cap(l)], was) {
					t.Fatalf("%s of %d slots, %d behind: %v", what, n, behind, l[:cap(l)])
				}
			}
			lru.Right(l)
			asIs("Right")
			lru.Keys(l)
			asIs("Keys")
			for i := range n + behind + 1 {
				k := key(uint64(i+1), 7)
				lru.Get(l, k)
				asIs("Get")
				for _, room := range rooms(n) {
					lru.Put(l, room, of(k, "new"))
					asIs("Put")
				}
			}
		}
	}
}

func TestSlotsThatAreNotRightAreAsTheyWereM1M2(t *testing.T) {
	for i := range 4 {
		for j := range i {
			l := roomy(4, 3)
			l[i].Key = l[j].Key
			was := slices.Clone(l[:cap(l)])
			lru.Right(l)
			lru.Keys(l)
			for _, s := range append(row(9), of(l[i].Key, "new")) {
				lru.Get(l, s.Key)
				lru.Put(l, 2, s)
			}
			if !slices.Equal(l[:cap(l)], was) {
				t.Errorf("%d and %d of one Key: %v", j, i, l[:cap(l)])
			}
		}
	}
}

// TestNothingIsKeptM1M2 writes into what was handed in, when the answer is there.
func TestNothingIsKeptM1M2(t *testing.T) {
	for i := range 5 {
		k := key(uint64(i+1), 7)
		l, spoil := lentRow(4)
		s, now, e := lru.Get(l, k)
		spoil()
		if wantS, wantNow, wantE := wantGet(row(4), k); s != wantS || !slices.Equal(now, wantNow) || e != wantE {
			t.Errorf("Get of %v keeps what was handed in: %v, %v, %d", k, s, now, e)
		}
		for _, room := range rooms(4) {
			l, spoil := lentRow(4)
			mine, spoilMine := lent("new")
			now, out, e := lru.Put(l, room, api.Slot{Key: k, Left: mine, Right: mine, Val: mine})
			spoil()
			spoilMine()
			wantNow, wantOut, wantE := wantPut(row(4), room, api.Slot{Key: k, Left: "new", Right: "new", Val: "new"})
			if !slices.Equal(now, wantNow) || !slices.Equal(out, wantOut) || e != wantE {
				t.Errorf("Put of %v with room for %d keeps what was handed in: %v, %v, %d", k, room, now, out, e)
			}
		}
	}
	l, spoil := lentRow(4)
	keys := lru.Keys(l)
	if spoil(); !slices.Equal(keys, lru.Keys(row(4))) {
		t.Errorf("Keys keeps what was handed in: %v", keys)
	}
}

// texts is all texts of slots.
func texts(l ...api.Slot) []string {
	var all []string
	for _, s := range l {
		all = append(all, s.Left, s.Right, s.Val)
	}
	return all
}

// meet tells whether two texts have a byte of memory in common.
func meet(a, b string) bool {
	p, q := uintptr(unsafe.Pointer(unsafe.StringData(a))), uintptr(unsafe.Pointer(unsafe.StringData(b)))
	return a != "" && b != "" && p < q+uintptr(len(b)) && q < p+uintptr(len(a))
}

// apart fails if a text of an answer has memory in common with another one of it, or with one that was handed in.
func apart(t *testing.T, what string, answer, given []string) {
	t.Helper()
	for i, text := range answer {
		for _, other := range append(slices.Clone(given), answer[:i]...) {
			if meet(text, other) {
				t.Errorf("%s: %q is %q, too", what, text, other)
			}
		}
	}
}

func TestTextsAreNobodyElsesMemoryM1M2(t *testing.T) {
	for i := range 5 {
		l, s := row(4), of(key(uint64(i+1), 7), "new")
		got, now, _ := lru.Get(l, s.Key)
		apart(t, "Get", append(texts(got), texts(now...)...), texts(l...))
		for _, room := range rooms(4) {
			now, out, _ := lru.Put(l, room, s)
			apart(t, "Put", append(texts(now...), texts(out...)...), texts(append(slices.Clone(l), s)...))
		}
	}
}

// spoil writes into a list, and into its spare room.
func spoil[T any](l []T, by T) {
	l = l[:cap(l)]
	for i := range l {
		l[i] = by
	}
}

// TestListsAreNobodyElsesMemoryM1M2 writes into each list that came out, and grows it, and looks at all others.
func TestListsAreNobodyElsesMemoryM1M2(t *testing.T) {
	bad := of(key(99, 99), "spoilt")
	for n := range 6 {
		for i := range n + 1 {
			l := row(n)
			s := of(key(uint64(i+1), 7), "new")
			_, now, _ := lru.Get(l, s.Key)
			_, again, _ := lru.Get(l, s.Key)
			spoil(now, bad)
			_ = append(again, bad)
			if _, want, _ := wantGet(row(n), s.Key); !slices.Equal(l, row(n)) || !slices.Equal(again, want) {
				t.Errorf("Get %d of %d: %v, %v", i, n, l, again)
			}
			for _, room := range rooms(n) {
				checkLists(t, l, room, s, bad)
			}
		}
		l := row(n)
		keys, again := lru.Keys(l), lru.Keys(l)
		spoil(keys, bad.Key)
		if !slices.Equal(l, row(n)) || len(again) != n || slices.Contains(again, bad.Key) {
			t.Errorf("Keys of %d: %v, %v", n, l, again)
		}
	}
}

// checkLists spoils one of the two lists that Put tells, and looks at the other one.
func checkLists(t *testing.T, l []api.Slot, room int, s, bad api.Slot) {
	t.Helper()
	was := slices.Clone(l)
	wantNow, wantOut, _ := wantPut(l, room, s)
	now, out, _ := lru.Put(l, room, s)
	otherNow, otherOut, _ := lru.Put(l, room, s)
	if _ = append(now, bad); !slices.Equal(out, wantOut) {
		t.Errorf("now has grown into out: %v", out)
	}
	if _ = append(out, bad); !slices.Equal(now, wantNow) {
		t.Errorf("out has grown into now: %v", now)
	}
	if spoil(now, bad); !slices.Equal(out, wantOut) {
		t.Errorf("what was written into now is in out: %v", out)
	}
	if spoil(otherOut, bad); !slices.Equal(otherNow, wantNow) {
		t.Errorf("what was written into out is in now: %v", otherNow)
	}
	if !slices.Equal(l, was) {
		t.Errorf("what was written into an answer is in what was handed in: %v", l)
	}
}

func TestTheSameTwiceM1M2(t *testing.T) {
	for _, l := range short(3, odd()) {
		if lru.Right(l) != lru.Right(l) || !slices.Equal(lru.Keys(l), lru.Keys(l)) {
			t.Fatalf("%v: Right or Keys tells something else", l)
		}
		for _, s := range odd() {
			one, now, e := lru.Get(l, s.Key)
			two, now2, e2 := lru.Get(l, s.Key)
			if one != two || !slices.Equal(now, now2) || e != e2 {
				t.Fatalf("%v: Get tells something else", l)
			}
			now, out, e := lru.Put(l, 2, s)
			now2, out2, e2 := lru.Put(l, 2, s)
			if !slices.Equal(now, now2) || !slices.Equal(out, out2) || e != e2 {
				t.Fatalf("%v: Put tells something else", l)
			}
		}
	}
}
