package lru_test

import (
	"maps"
	"math"
	"slices"
	"testing"

	"collator/api"
	"collator/lru"
)

// TestExampleM1M2 is the chapter's example.
func TestExampleM1M2(t *testing.T) {
	a, b, c := of(key(1, 1), "a"), of(key(2, 1), "b"), of(key(3, 1), "c")
	first, out, e := lru.Put(nil, 2, a)
	if !slices.Equal(first, slots(a)) || len(out) > 0 || e != api.OK {
		t.Fatal(first, out, e)
	}
	second, out, e := lru.Put(first, 2, b)
	if !slices.Equal(second, slots(b, a)) || len(out) > 0 || e != api.OK {
		t.Fatal(second, out, e)
	}
	third, out, e := lru.Put(second, 2, c)
	if !slices.Equal(third, slots(c, b)) || !slices.Equal(out, slots(a)) || e != api.OK {
		t.Fatal(third, out, e)
	}
	s, now, e := lru.Get(third, b.Key)
	if s != b || !slices.Equal(now, slots(b, c)) || e != api.OK {
		t.Fatal(s, now, e)
	}
}

func TestRightM1(t *testing.T) {
	a := of(key(5, 5), "a")
	for _, x := range []struct {
		name string
		l    []api.Slot
		want bool
	}{
		{"no slots, and no list", nil, true},
		{"no slots", slots(), true},
		{"one", slots(a), true},
		{"one whose fields are all zero", slots(api.Slot{}), true},
		{"unlike in Sum alone", slots(of(key(5, 5), "a"), of(key(6, 5), "a")), true},
		{"unlike in Len alone", slots(of(key(5, 5), "a"), of(key(5, 6), "a")), true},
		{"Sum and Len the other way round", slots(of(key(5, 6), "a"), of(key(6, 5), "a")), true},
		{"the same slot twice", slots(a, a), false},
		{"zero slots", slots(api.Slot{}, api.Slot{}), false},
		{"one Key, another Left", slots(a, api.Slot{Key: a.Key, Left: "x", Right: a.Right, Val: a.Val}), false},
		{"one Key, another Right", slots(a, api.Slot{Key: a.Key, Left: a.Left, Right: "x", Val: a.Val}), false},
		{"one Key, another Val", slots(a, api.Slot{Key: a.Key, Left: a.Left, Right: a.Right, Val: "x"}), false},
		{"one Key, all texts others", slots(a, of(a.Key, "b")), false},
		{"one Key thrice", slots(a, a, a), false},
		{"two Keys twice", slots(a, of(key(1, 1), "b"), of(key(1, 1), "c"), a), false},
	} {
		if got := lru.Right(x.l); got != x.want {
			t.Errorf("%s: %v", x.name, got)
		}
	}
}

func TestRightOfTwoOfOneKeyAtEveryPlaceM1(t *testing.T) {
	for n := range 8 {
		if !lru.Right(row(n)) {
			t.Errorf("%d slots of unlike Keys are not right", n)
		}
		for i := range n {
			for j := range i {
				same := row(n)
				same[i] = same[j]
				others := row(n)
				others[i].Key = others[j].Key
				if lru.Right(same) || lru.Right(others) {
					t.Errorf("of %d slots, %d and %d of one Key: %v, %v", n, j, i, lru.Right(same), lru.Right(others))
				}
			}
		}
	}
}

func TestRightOfFarKeysM1(t *testing.T) {
	var l []api.Slot
	for _, k := range farKeys() {
		l = append(l, of(k, "same"))
	}
	if !lru.Right(l) {
		t.Error("slots of far Keys are not right")
	}
	for _, s := range l {
		if lru.Right(append(slices.Clone(l), s)) {
			t.Errorf("slots with %v twice are right", s.Key)
		}
	}
}

func TestGetM1(t *testing.T) {
	l := row(5)
	a, b, c, d, e := l[0], l[1], l[2], l[3], l[4]
	for _, x := range []struct {
		name string
		k    api.Key
		now  []api.Slot
	}{
		{"first", a.Key, slots(a, b, c, d, e)},
		{"second", b.Key, slots(b, a, c, d, e)},
		{"middle", c.Key, slots(c, a, b, d, e)},
		{"last but one", d.Key, slots(d, a, b, c, e)},
		{"last", e.Key, slots(e, a, b, c, d)},
	} {
		s, now, code := lru.Get(l, x.k)
		if s != x.now[0] || !slices.Equal(now, x.now) || code != api.OK {
			t.Errorf("%s: %v, %v, %d", x.name, s, now, code)
		}
	}
	s, now, code := lru.Get(l[:1], a.Key)
	if s != a || !slices.Equal(now, l[:1]) || code != api.OK {
		t.Errorf("the only one: %v, %v, %d", s, now, code)
	}
}

func TestGetOfWhatIsNotThereM1(t *testing.T) {
	for _, x := range []struct {
		name string
		l    []api.Slot
		k    api.Key
	}{
		{"another Sum", row(3), key(4, 7)},
		{"another Len", row(3), key(1, 8)},
		{"a zero Key", row(3), api.Key{}},
		{"no slots, and no list", nil, key(1, 7)},
		{"no slots", slots(), key(1, 7)},
		{"no slots, and a zero Key", nil, api.Key{}},
		{"behind the list's length", row(3)[:2], key(3, 7)},
	} {
		s, now, e := lru.Get(x.l, x.k)
		if s != (api.Slot{}) || len(now) > 0 || e != api.ErrNone {
			t.Errorf("%s: %v, %v, %d", x.name, s, now, e)
		}
	}
}

// TestGetOfSlotsThatAreNotRightM1 asks for the Key that is there twice, for those ahead of it, between and behind, and for none of them.
func TestGetOfSlotsThatAreNotRightM1(t *testing.T) {
	for i := range 5 {
		for j := range i {
			same, others := row(5), row(5)
			same[i] = same[j]
			others[i].Key = others[j].Key
			for _, l := range [][]api.Slot{same, others} {
				for _, k := range append(lru.Keys(row(5)), key(9, 9), api.Key{}) {
					s, now, e := lru.Get(l, k)
					if s != (api.Slot{}) || len(now) > 0 || e != api.ErrArg {
						t.Errorf("%v of %v: %v, %v, %d", k, l, s, now, e)
					}
				}
			}
		}
	}
}

func TestPutM2(t *testing.T) {
	l := row(3)
	a, b, c := l[0], l[1], l[2]
	for _, x := range []struct {
		name string
		s    api.Slot
		all  []api.Slot
	}{
		{"a Key that is first", of(a.Key, "new"), slots(of(a.Key, "new"), b, c)},
		{"a Key in the middle", of(b.Key, "new"), slots(of(b.Key, "new"), a, c)},
		{"a Key that is last", of(c.Key, "new"), slots(of(c.Key, "new"), a, b)},
		{"the first slot once more", a, slots(a, b, c)},
		{"the middle one once more", b, slots(b, a, c)},
		{"the last one once more", c, slots(c, a, b)},
		{"a Key that is not there", of(key(9, 9), "new"), slots(of(key(9, 9), "new"), a, b, c)},
		{"another Sum, the same texts", of(key(9, 7), "a"), slots(of(key(9, 7), "a"), a, b, c)},
		{"another Len, the same texts", of(key(1, 9), "a"), slots(of(key(1, 9), "a"), a, b, c)},
		{"a zero slot", api.Slot{}, slots(api.Slot{}, a, b, c)},
		{"a Key with empty texts", api.Slot{Key: b.Key}, slots(api.Slot{Key: b.Key}, a, c)},
	} {
		for _, room := range []int{math.MinInt, -7, -1, 0, 1, 2, 3, 4, 5, 1000, math.MaxInt} {
			n := min(max(0, room), len(x.all))
			now, out, e := lru.Put(l, room, x.s)
			if !slices.Equal(now, x.all[:n]) || !slices.Equal(out, x.all[n:]) || e != api.OK {
				t.Errorf("%s, room for %d: %v, %v, %d", x.name, room, now, out, e)
			}
		}
	}
}

func TestPutIntoNoSlotsM2(t *testing.T) {
	s := of(key(1, 2), "s")
	for _, l := range [][]api.Slot{nil, {}, row(3)[:0]} {
		for _, room := range []int{math.MinInt, -1, 0} {
			now, out, e := lru.Put(l, room, s)
			if len(now) > 0 || !slices.Equal(out, slots(s)) || e != api.OK {
				t.Errorf("room for %d: %v, %v, %d", room, now, out, e)
			}
		}
		for _, room := range []int{1, 2, math.MaxInt} {
			now, out, e := lru.Put(l, room, s)
			if !slices.Equal(now, slots(s)) || len(out) > 0 || e != api.OK {
				t.Errorf("room for %d: %v, %v, %d", room, now, out, e)
			}
		}
	}
}

// TestPutReplacesByTheKeyAloneM2 puts slots whose texts are there, or half of whose Key is: nothing goes for these. That a slot's Key is zero makes it no less there.
func TestPutReplacesByTheKeyAloneM2(t *testing.T) {
	l := slots(api.Slot{}, of(key(1, 1), "a"))
	for _, s := range slots(of(key(2, 1), "a"), api.Slot{Key: key(0, 1)}, api.Slot{Key: key(1, 0)}) {
		now, out, e := lru.Put(l, 9, s)
		if !slices.Equal(now, slots(s, l[0], l[1])) || len(out) > 0 || e != api.OK {
			t.Errorf("%v: %v, %v, %d", s, now, out, e)
		}
	}
	s := of(api.Key{}, "b")
	now, out, e := lru.Put(l, 9, s)
	if !slices.Equal(now, slots(s, l[1])) || len(out) > 0 || e != api.OK {
		t.Errorf("%v: %v, %v, %d", s, now, out, e)
	}
}

func TestPutIntoSlotsThatAreNotRightM2(t *testing.T) {
	for i := range 4 {
		for j := range i {
			same, others := row(4), row(4)
			same[i] = same[j]
			others[i].Key = others[j].Key
			for _, l := range [][]api.Slot{same, others} {
				for _, s := range append(row(4), of(key(9, 9), "new"), of(key(1, 7), "new"), api.Slot{}) {
					for _, room := range rooms(4) {
						now, out, e := lru.Put(l, room, s)
						if len(now) > 0 || len(out) > 0 || e != api.ErrArg {
							t.Fatalf("%v with room for %d into %v: %v, %v, %d", s, room, l, now, out, e)
						}
					}
				}
			}
		}
	}
}

func TestKeysM2(t *testing.T) {
	a, b := of(key(1, 2), "a"), of(key(2, 1), "b")
	for _, x := range []struct {
		name string
		l    []api.Slot
		want []api.Key
	}{
		{"no slots, and no list", nil, nil},
		{"no slots", slots(), nil},
		{"one", slots(a), []api.Key{key(1, 2)}},
		{"two", slots(a, b), []api.Key{key(1, 2), key(2, 1)}},
		{"the other way round", slots(b, a), []api.Key{key(2, 1), key(1, 2)}},
		{"not right", slots(a, b, of(a.Key, "c"), a), []api.Key{key(1, 2), key(2, 1), key(1, 2), key(1, 2)}},
		{"a zero slot", slots(a, api.Slot{}, b), []api.Key{key(1, 2), {}, key(2, 1)}},
		{"what is behind the length", slots(a, b)[:1], []api.Key{key(1, 2)}},
	} {
		if got := lru.Keys(x.l); !slices.Equal(got, x.want) {
			t.Errorf("%s: %v", x.name, got)
		}
	}
	var l []api.Slot
	for _, k := range farKeys() {
		l = append(l, of(k, ""))
	}
	if got := lru.Keys(l); !slices.Equal(got, farKeys()) {
		t.Errorf("far Keys: %v", got)
	}
}

// TestFieldsComeOutAsTheyWentInM1M2 has slots of which each field tells something else, and texts that are long, or no signs.
func TestFieldsComeOutAsTheyWentInM1M2(t *testing.T) {
	long := string(make([]byte, 1<<16))
	l := slots(
		api.Slot{Key: key(math.MaxUint64, math.MaxInt), Left: "l", Right: "r", Val: "v"},
		api.Slot{Key: key(0, -1), Left: "", Right: "\x00", Val: "\xff\xfe"},
		api.Slot{Key: key(3, 0), Left: "same", Right: "same", Val: "same"},
		api.Slot{Key: key(4, 0), Left: long, Right: long + "r", Val: long + "v"},
		api.Slot{Key: key(5, 0)},
	)
	for i, s := range l {
		checkGet(t, l, s.Key)
		checkPut(t, l[:i], 2, s)
		checkPut(t, l, 2, s)
		checkPut(t, slices.Concat(l[:i], l[i+1:]), 3, s)
	}
}

// TestFarKeysM1M2 asks for, and puts, each far Key where it is there, and where only others are, some of which are like it in all their low bits.
func TestFarKeysM1M2(t *testing.T) {
	var l []api.Slot
	for _, k := range append(farKeys(), api.Key{}) {
		l = append(l, of(k, "far"))
	}
	for i, s := range l {
		for _, list := range [][]api.Slot{l, slices.Concat(l[:i], l[i+1:])} {
			checkGet(t, list, s.Key)
			checkPut(t, list, len(list), of(s.Key, "new"))
		}
	}
}

func TestAllShortListsM1M2(t *testing.T) {
	right, wrong := 0, 0
	for _, l := range short(4, odd()) {
		if lru.Right(l) != wantRight(l) {
			t.Fatalf("Right(%v) = %v", l, lru.Right(l))
		}
		if wantRight(l) {
			right++
		} else {
			wrong++
		}
		keys := lru.Keys(l)
		if len(keys) != len(l) {
			t.Fatalf("Keys(%v) = %v", l, keys)
		}
		for i, s := range l {
			if keys[i] != s.Key {
				t.Fatalf("Keys(%v) = %v", l, keys)
			}
		}
		for _, k := range append(oddKeys(), key(2, 0), key(0, 2)) {
			checkGet(t, l, k)
		}
		for _, s := range append(odd(), of(key(0, 0), "y"), of(key(2, 0), "y")) {
			for _, room := range []int{-1, 0, 1, 2, 3, 4, 5, 6} {
				checkPut(t, l, room, s)
			}
		}
	}
	if right < 200 || wrong < 200 {
		t.Errorf("only %d lists are right, and %d are not", right, wrong)
	}
}

// TestAllPlacesM1M2 asks for, and puts, the Key at each place of longer rows, with each room around what they need.
func TestAllPlacesM1M2(t *testing.T) {
	for n := range 12 {
		l := row(n)
		for _, k := range append(lru.Keys(l), key(99, 7)) {
			checkGet(t, l, k)
			for _, room := range append(rooms(n), 3, 4, 5, 6, 7, 8) {
				checkPut(t, l, room, of(k, "new"))
			}
		}
	}
}

// TestNowAndOutAreAllM2 is that what is there and what is out is all that there is, and nothing is in both.
func TestNowAndOutAreAllM2(t *testing.T) {
	for n := range 7 {
		for i := range n + 1 {
			s := of(key(uint64(i+1), 7), "new")
			for _, room := range rooms(n) {
				now, out, e := lru.Put(row(n), room, s)
				often := make(map[api.Slot]int)
				for _, one := range append(now, out...) {
					often[one]++
				}
				want := map[api.Slot]int{s: 1}
				for j, other := range row(n) {
					if j != i {
						want[other] = 1
					}
				}
				if !maps.Equal(often, want) || e != api.OK {
					t.Fatalf("%d slots, room for %d: %v and %v, %d", n, room, now, out, e)
				}
				if len(now) > max(room, 0) || len(out) > 0 && len(now) != max(room, 0) {
					t.Fatalf("%d slots, room for %d: %d are there, %d out", n, room, len(now), len(out))
				}
			}
		}
	}
}

func TestManySlotsM1M2(t *testing.T) {
	var l []api.Slot
	for i := range 1 << 16 {
		l = append(l, api.Slot{Key: key(uint64(i/2), i%2), Val: "v"})
	}
	want := make([]api.Key, len(l))
	for i, s := range l {
		want[i] = s.Key
	}
	if !lru.Right(l) || lru.Right(append(slices.Clone(l), l[12345])) || !slices.Equal(lru.Keys(l), want) {
		t.Error("many slots are told wrong")
	}
	s, now, e := lru.Get(l, l[len(l)-1].Key)
	if s != l[len(l)-1] || now[0] != s || !slices.Equal(now[1:], l[:len(l)-1]) || e != api.OK {
		t.Errorf("Get: %v, %d", s, e)
	}
	now, out, e := lru.Put(l, 1<<15, api.Slot{Key: l[100].Key, Val: "new"})
	if now[0].Val != "new" || !slices.Equal(append(now[1:], out...), slices.Concat(l[:100], l[101:])) || len(out) != 1<<15 || e != api.OK {
		t.Errorf("Put: %d, %d, %d", len(now), len(out), e)
	}
}
