package cache_test

import (
	"math"
	"slices"
	"strconv"
	"strings"
	"testing"

	"collator/api"
	"collator/cache"
	"collator/sums"
)

// TestExampleN2N3 is the chapter's example.
func TestExampleN2N3(t *testing.T) {
	c := made(t, 1, 1, 0)
	first, e := cache.Put(c, "a", "b", "one")
	want := api.Cache{Room: 1, Parts: [][]api.Slot{{{Key: api.Key{Len: 2}, Left: "a", Right: "b", Val: "one"}}}}
	if !same(first, want) || e != api.OK {
		t.Fatal(first, e)
	}
	val, second, e := cache.Get(first, "c", "d")
	want.Clashes = 1
	if val != "" || !same(second, want) || e != api.ErrNone {
		t.Fatal(val, second, e)
	}
	third, e := cache.Put(second, "c", "d", "two")
	want.Parts = [][]api.Slot{{{Key: api.Key{Len: 2}, Left: "c", Right: "d", Val: "two"}}}
	if !same(third, want) || e != api.OK || third.Evicted != 0 {
		t.Fatal(third, e)
	}
	val, fourth, e := cache.Get(third, "a", "b")
	want.Clashes = 2
	if val != "" || !same(fourth, want) || e != api.ErrNone {
		t.Fatal(val, fourth, e)
	}
}

// TestKeysAndPartsN3 has numbers that are worked out by hand: 37 times 98, and 99, is 3725.
func TestKeysAndPartsN3(t *testing.T) {
	for _, x := range []struct {
		parts, width int
		sum          uint64
		part         int
	}{
		{1, 64, 3725, 0}, {2, 64, 3725, 1}, {3, 64, 3725, 2}, {7, 64, 3725, 1}, {16, 64, 3725, 13},
		{16, 12, 3725, 13}, {16, 11, 1677, 13}, {16, 4, 13, 13}, {16, 3, 5, 5}, {5, 3, 5, 0}, {16, 1, 1, 1}, {16, 0, 0, 0},
	} {
		c, e := cache.Put(made(t, x.parts, 16, x.width), "a", "b", "v")
		want := made(t, x.parts, 16, x.width)
		want.Parts[x.part] = []api.Slot{{Key: api.Key{Sum: x.sum, Len: 2}, Left: "a", Right: "b", Val: "v"}}
		if !same(c, want) || e != api.OK {
			t.Errorf("%d parts, %d bits: %v, %d", x.parts, x.width, c, e)
		}
	}
}

func TestNewN1(t *testing.T) {
	far := []int{math.MinInt, math.MinInt + 1, -1 << 32, -4096, -64, -16, -2, -1}
	parts := append(slices.Clone(far), 0, 1, 2, 15, 16, 17, 18, 32, 1<<32, 1<<32+1, math.MaxInt)
	rooms := append(slices.Clone(far), 0, 1, 2, 16, 17, 4095, 4096, 4097, 4098, 1<<32, 1<<32+1, math.MaxInt)
	widths := append(slices.Clone(far), 0, 1, 2, 63, 64, 65, 66, 128, 1<<32, 1<<32+1, math.MaxInt)
	for _, n := range parts {
		for _, room := range rooms {
			for _, width := range widths {
				may := n >= 1 && n <= 16 && room >= 0 && room <= 4096 && width >= 0 && width <= 64
				c, e := cache.New(n, room, width)
				want, wantE := api.Cache{}, api.ErrArg
				if may {
					want, wantE = api.Cache{Width: width, Room: room, Parts: make([][]api.Slot, n)}, api.OK
				}
				if !same(c, want) || e != wantE || cache.Right(c) != may || cache.Size(c) != 0 {
					t.Fatalf("New(%d, %d, %d) = %v, %d", n, room, width, c, e)
				}
			}
		}
	}
}

func TestRightOfWhatNewAnswersN1(t *testing.T) {
	for n := 1; n <= 16; n++ {
		for width := range 65 {
			for _, room := range []int{0, 1, 15, 16, 17, 1000, 4095, 4096} {
				c := made(t, n, room, width)
				if !cache.Right(c) || cache.Size(c) != 0 || len(c.Parts) != n {
					t.Fatalf("New(%d, %d, %d) = %v", n, room, width, c)
				}
			}
		}
	}
	for room := range 4097 {
		if c := made(t, 3, room, 5); !cache.Right(c) || c.Room != room {
			t.Fatalf("room for %d: %v", room, c)
		}
	}
}

// wrong is a cache that is wrong in one thing alone, and in which one.
type wrong struct {
	name, rule string
	c          api.Cache
}

// wrongNumbers is caches of which one number may not be.
func wrongNumbers() []wrong {
	var l []wrong
	counts := []int{math.MinInt, -mostCount, -1, mostCount + 1, 1 << 41, math.MaxInt}
	for _, base := range []api.Cache{holding(3, 9, 64), holding(3, 9, 64, some(4)...), holding(3, 9, 2, some(4)...)} {
		set := func(rule string, values []int, number func(c *api.Cache) *int) {
			for _, n := range values {
				c := copied(base)
				*number(&c) = n
				l = append(l, wrong{"another " + rule, rule, c})
			}
		}
		set("Hits", counts, func(c *api.Cache) *int { return &c.Hits })
		set("Misses", counts, func(c *api.Cache) *int { return &c.Misses })
		set("Clashes", counts, func(c *api.Cache) *int { return &c.Clashes })
		set("Evicted", counts, func(c *api.Cache) *int { return &c.Evicted })
		set("Room", []int{4097, 4098, 1 << 20}, func(c *api.Cache) *int { return &c.Room })
	}
	// Sums takes these as 0 and as 64, so that the texts' Keys are as they were.
	for _, width := range []int{math.MinInt, -64, -1} {
		c := holding(3, 9, 0, some(4)...)
		c.Width = width
		l = append(l, wrong{"a Width below 0", "Width", c})
	}
	for _, width := range []int{65, 128, math.MaxInt} {
		c := holding(3, 9, 64, some(4)...)
		c.Width = width
		l = append(l, wrong{"a Width above 64", "Width", c})
	}
	for _, room := range []int{-1, -2} {
		l = append(l, wrong{"a Room below 0", "Room", api.Cache{Room: room, Parts: make([][]api.Slot, 3)}})
	}
	return l
}

// wrongParts is caches of which the parts are too few, too many, or too full.
func wrongParts() []wrong {
	l := []wrong{
		{"no Parts, and no list", "Parts", api.Cache{Room: 4, Width: 9}},
		{"no Parts", "Parts", api.Cache{Room: 4, Width: 9, Parts: [][]api.Slot{}}},
		{"nothing at all", "Parts", api.Cache{}},
		{"17 empty Parts", "Parts", api.Cache{Room: 40, Width: 9, Parts: make([][]api.Slot, 17)}},
		{"17 Parts with slots", "Parts", holding(17, 400, 64, some(30)...)},
		{"100 empty Parts", "Parts", api.Cache{Room: 400, Width: 9, Parts: make([][]api.Slot, 100)}},
	}
	for n := 1; n <= 16; n++ {
		for i := range n {
			for _, room := range []int{0, 1, n - 1, n, n + 1, 2*n + 1} {
				l = append(l, wrong{"a part with one slot too many", "the part's room", crowded(n, room, i)})
			}
		}
	}
	return l
}

// crowded is a cache whose part i has one slot more than its room, and all others none.
func crowded(n, room, i int) api.Cache {
	c := api.Cache{Width: 64, Room: room, Parts: make([][]api.Slot, n)}
	for _, p := range some(600) {
		if s := slot(p, "v", 64); wantPart(s.Key, n) == i && len(c.Parts[i]) <= wantRoom(room, n, i) {
			c.Parts[i] = append(c.Parts[i], s)
		}
	}
	return c
}

// wrongSlots is caches of which one slot may not be, at each place.
func wrongSlots() []wrong {
	var l []wrong
	for _, width := range []int{1, 3, 64} {
		base := holding(3, 60, width, some(20)...)
		for i, part := range base.Parts {
			for j, s := range part {
				set := func(name, rule string, s api.Slot) {
					c := copied(base)
					c.Parts[i][j] = s
					l = append(l, wrong{name, rule, c})
				}
				other := s
				other.Key.Sum += 3 << 40
				set("another Sum, which is of this part, too", "the texts' Key", other)
				other = s
				// So much more is no other slot's Len.
				other.Key.Len += 9
				set("a greater Len", "the texts' Key", other)
				other = s
				other.Key.Len = -1
				set("a Len below 0", "the texts' Key", other)
				other = s
				other.Left += "x"
				set("a longer Left", "the texts' Key", other)
				other = s
				other.Right += "\x00"
				set("a longer Right", "the texts' Key", other)
				l = append(l, astray(base, i, j))
			}
		}
	}
	return append(l, wrongWidths()...)
}

// astray is a cache of which the j-th slot of the i-th part stands in the next one.
func astray(base api.Cache, i, j int) wrong {
	c := copied(base)
	s := c.Parts[i][j]
	c.Parts[i] = slices.Delete(c.Parts[i], j, j+1)
	next := (i + 1) % len(c.Parts)
	c.Parts[next] = append(c.Parts[next], s)
	return wrong{"a slot in another part", "the Key's part", c}
}

// wrongWidths is caches of which the slots have Keys of other widths.
func wrongWidths() []wrong {
	var l []wrong
	for width := range 65 {
		for _, other := range []int{width - 1, width + 1, 0, 64} {
			c := api.Cache{Width: width, Room: 3, Parts: [][]api.Slot{{slot(pair{strings.Repeat("z", 20), "z"}, "v", other)}}}
			if !wantRight(c) {
				l = append(l, wrong{"a Key of another width", "the texts' Key", c})
			}
		}
	}
	return l
}

// wrongTwice is caches of which one part has two slots of one Key, which is that of both's texts.
func wrongTwice() []wrong {
	var l []wrong
	for _, width := range []int{0, 1, 5, 64} {
		for _, x := range append(alikes(), [2]pair{{"q", "q"}, {"q", "q"}}) {
			for _, room := range []int{9, 60} {
				base := holding(3, room, width, some(5)...)
				s, other := slot(x[0], "one", width), slot(x[1], "two", width)
				i := wantPart(s.Key, 3)
				apart := slices.DeleteFunc(base.Parts[i], func(o api.Slot) bool { return o.Key == s.Key })
				apart = apart[:min(len(apart), room/3-2)]
				for j := range len(apart) + 1 {
					c := copied(base)
					c.Parts[i] = slices.Insert(append([]api.Slot{s}, apart...), j+1, other)
					l = append(l, wrong{"two slots of one Key", "one Key", c})
				}
			}
		}
	}
	return l
}

func wrongs() []wrong {
	return slices.Concat(wrongNumbers(), wrongParts(), wrongSlots(), wrongTwice())
}

// TestWrongInOneThingAloneN1N2N3 is that such a cache is not right, and that each call tells ErrArg, and nothing else, for what is there and for what is not.
func TestWrongInOneThingAloneN1N2N3(t *testing.T) {
	often := make(map[string]int)
	for _, w := range wrongs() {
		if names := broken(w.c); !slices.Equal(names, []string{w.rule}) {
			t.Fatalf("%s: %v is wrong in %v", w.name, w.c, names)
		}
		often[w.rule]++
		if cache.Right(w.c) {
			t.Fatalf("%s: %v is right", w.name, w.c)
		}
		asked := append(some(3), pair{"never", "there"}, pair{})
		for _, part := range w.c.Parts {
			for _, s := range part {
				asked = append(asked, pair{s.Left, s.Right})
			}
		}
		for _, p := range asked {
			val, c, e := cache.Get(w.c, p.left, p.right)
			if val != "" || !same(c, api.Cache{}) || e != api.ErrArg {
				t.Fatalf("%s: Get(%v, %q) = %q, %v, %d", w.name, w.c, p, val, c, e)
			}
			if c, e = cache.Put(w.c, p.left, p.right, "v"); !same(c, api.Cache{}) || e != api.ErrArg {
				t.Fatalf("%s: Put(%v, %q) = %v, %d", w.name, w.c, p, c, e)
			}
		}
		if n := cache.Size(w.c); n != wantSize(w.c) {
			t.Fatalf("%s: Size(%v) = %d", w.name, w.c, n)
		}
	}
	for _, r := range rules() {
		if often[r.name] < 5 {
			t.Errorf("only %d caches are wrong in %s", often[r.name], r.name)
		}
	}
}

// TestRightAtTheEndsN1 is caches that are at the ends of what may be.
func TestRightAtTheEndsN1(t *testing.T) {
	for _, width := range []int{0, 1, 63, 64} {
		for n := 1; n <= 16; n++ {
			c := holding(n, 4096, width, some(100)...)
			for _, count := range []int{0, 1, mostCount - 1, mostCount} {
				c.Hits, c.Misses, c.Clashes, c.Evicted = count, mostCount-count, count, mostCount-count
				if !cache.Right(c) {
					t.Fatalf("%d parts, %d bits, %d is not right", n, width, count)
				}
			}
		}
	}
	for n := 1; n <= 16; n++ {
		for i := range n {
			for _, room := range []int{1, n - 1, n, n + 1, 2*n + 1} {
				c := crowded(n, room, i)
				c.Parts[i] = c.Parts[i][:len(c.Parts[i])-1]
				if !cache.Right(c) || cache.Size(c) != wantRoom(room, n, i) {
					t.Fatalf("%v is not right", c)
				}
			}
		}
	}
}

// TestRoomOfEachPartN3 puts far more than there is room for, and looks at how many stay in each part.
func TestRoomOfEachPartN3(t *testing.T) {
	for _, x := range []struct {
		parts, room int
		want        []int
	}{
		{1, 0, []int{0}}, {1, 1, []int{1}}, {1, 7, []int{7}},
		{2, 4, []int{2, 2}}, {2, 5, []int{3, 2}}, {2, 1, []int{1, 0}},
		{3, 6, []int{2, 2, 2}}, {3, 7, []int{3, 2, 2}}, {3, 8, []int{3, 3, 2}}, {3, 2, []int{1, 1, 0}}, {3, 0, []int{0, 0, 0}},
		{4, 3, []int{1, 1, 1, 0}}, {4, 4, []int{1, 1, 1, 1}}, {5, 13, []int{3, 3, 3, 2, 2}},
		{16, 17, []int{2, 1, 1, 1, 1, 1, 1, 1, 1, 1, 1, 1, 1, 1, 1, 1}},
		{16, 15, []int{1, 1, 1, 1, 1, 1, 1, 1, 1, 1, 1, 1, 1, 1, 1, 0}},
		{16, 16, []int{1, 1, 1, 1, 1, 1, 1, 1, 1, 1, 1, 1, 1, 1, 1, 1}},
		{16, 1, []int{1, 0, 0, 0, 0, 0, 0, 0, 0, 0, 0, 0, 0, 0, 0, 0}},
	} {
		for _, width := range []int{16, 64} {
			c := made(t, x.parts, x.room, width)
			all := some(600)
			for _, p := range all {
				now, e := cache.Put(c, p.left, p.right, "v")
				if e != api.OK || !cache.Right(now) {
					t.Fatalf("Put of %q into %v: %v, %d", p, c, now, e)
				}
				c = now
			}
			var got []int
			for _, part := range c.Parts {
				got = append(got, len(part))
			}
			if !slices.Equal(got, x.want) || cache.Size(c) != x.room || c.Evicted != len(all)-x.room {
				t.Errorf("%d parts, room for %d: %v, %d are out", x.parts, x.room, got, c.Evicted)
			}
		}
	}
}

// TestAllRoomsAndPartsN3 puts into each part, with each room around how many parts there are.
func TestAllRoomsAndPartsN3(t *testing.T) {
	for n := 1; n <= 16; n++ {
		for room := range 3*n + 2 {
			c := made(t, n, room, 64)
			for _, p := range some(80) {
				checkPut(t, c, p, "v")
				c, _ = cache.Put(c, p.left, p.right, "v")
			}
			if !cache.Right(c) {
				t.Fatalf("%d parts, room for %d: %v", n, room, c)
			}
		}
	}
}

func TestGetN2(t *testing.T) {
	for width := range 65 {
		for _, n := range []int{1, 2, 5, 16} {
			c := holding(n, 4096, width, append(some(12), pair{}, pair{"", "r"}, pair{"l", ""})...)
			c.Hits, c.Misses, c.Clashes, c.Evicted = 10, 20, 30, 40
			for _, part := range c.Parts {
				for _, s := range part {
					val, now, e := cache.Get(c, s.Left, s.Right)
					if val != "of "+s.Left+","+s.Right || now.Hits != 11 || e != api.OK {
						t.Fatalf("%d bits: Get(%v, %q, %q) = %q, %d, %d", width, c, s.Left, s.Right, val, now.Hits, e)
					}
					checkGet(t, c, pair{s.Left, s.Right})
				}
			}
			for _, p := range append(some(30), pair{"never", "there"}, pair{"", "l"}, pair{"r", ""}, pair{"aa", ""}, pair{"", "aa"}) {
				checkGet(t, c, p)
			}
		}
	}
}

// TestGetOfWhatHasTheKeyOfOthersN2 asks for texts whose Key is there, in front and behind, by all widths.
func TestGetOfWhatHasTheKeyOfOthersN2(t *testing.T) {
	for width := range 65 {
		for _, x := range alikes() {
			for _, turn := range [][2]pair{x, {x[1], x[0]}} {
				here, other := turn[0], turn[1]
				if sums.Both(here.left, here.right, 64) != sums.Both(other.left, other.right, 64) {
					t.Fatalf("%q and %q have two Keys", here, other)
				}
				for _, n := range []int{1, 3, 16} {
					c := holding(n, 400, width, slices.Concat(some(3), []pair{here}, []pair{{"other", "length"}})...)
					val, now, e := cache.Get(c, other.left, other.right)
					want := copied(c)
					want.Clashes = 1
					if val != "" || !same(now, want) || e != api.ErrNone {
						t.Fatalf("%d bits: Get(%v, %q) = %q, %v, %d", width, c, other, val, now, e)
					}
					val, now, e = cache.Get(now, here.left, here.right)
					if val != "of "+here.left+","+here.right || now.Hits != 1 || now.Clashes != 1 || e != api.OK {
						t.Fatalf("%d bits: Get(%v, %q) = %q, %v, %d", width, c, here, val, now, e)
					}
				}
			}
		}
	}
}

// TestGetIsAMissOrAClashN2 has texts of which the Keys are unlike in Sum alone or in Len alone: both are misses.
func TestGetIsAMissOrAClashN2(t *testing.T) {
	for _, x := range []struct {
		name            string
		width           int
		p               pair
		misses, clashes int
	}{
		{"another Sum", 64, pair{"a", "c"}, 1, 0},
		{"another Sum, of one bit", 1, pair{"a", "c"}, 1, 0},
		{"the same Sum, of one bit", 1, pair{"a", "d"}, 0, 1},
		{"the same Sum, of one bit, and another Left", 1, pair{"c", "b"}, 0, 1},
		{"another Len, of no bits", 0, pair{"a", "bb"}, 1, 0},
		{"no texts, of no bits", 0, pair{"", ""}, 1, 0},
		{"the same Len, of no bits", 0, pair{"x", "y"}, 0, 1},
		{"the texts side by side, of no bits", 0, pair{"ab", ""}, 0, 1},
		{"the texts side by side, the other way, of no bits", 0, pair{"", "ab"}, 0, 1},
		{"the texts side by side, of all bits", 64, pair{"ab", ""}, 1, 0},
		{"Left and Right the other way round, of no bits", 0, pair{"b", "a"}, 0, 1},
		{"Left and Right the other way round, of all bits", 64, pair{"b", "a"}, 1, 0},
	} {
		c := holding(1, 4, x.width, pair{"a", "b"})
		val, now, e := cache.Get(c, x.p.left, x.p.right)
		want := copied(c)
		want.Misses, want.Clashes = x.misses, x.clashes
		if val != "" || !same(now, want) || e != api.ErrNone {
			t.Errorf("%s: %q, %v, %d", x.name, val, now, e)
		}
	}
}

// TestGetBringsToTheFrontOfItsPartN2 asks at each place of each part: the others stay as they are, and all other parts.
func TestGetBringsToTheFrontOfItsPartN2(t *testing.T) {
	for _, n := range []int{1, 2, 3, 16} {
		c := holding(n, 4096, 64, some(40)...)
		for i, part := range c.Parts {
			for j, s := range part {
				_, now, e := cache.Get(c, s.Left, s.Right)
				want := copied(c)
				want.Hits = 1
				want.Parts[i] = slices.Concat([]api.Slot{s}, part[:j], part[j+1:])
				if !same(now, want) || e != api.OK {
					t.Fatalf("Get of %v: %v, %d, not %v", s, now, e, want)
				}
			}
		}
	}
}

// TestPutN3 puts what is there, what is not, and what has the Key of others, at each place, where there is room and where there is none.
func TestPutN3(t *testing.T) {
	for _, width := range []int{0, 1, 2, 6, 64} {
		for _, x := range alikes() {
			for behind := range 4 {
				pairs := slices.Concat(some(9), []pair{x[0]}, some(13)[9:9+behind])
				for _, room := range []int{0, 1, 3, 6, 9, 12, 39, 42, 400} {
					c := holding(3, room, width, pairs...)
					c.Evicted = 5
					for _, p := range append(some(14), x[0], x[1], pair{}, pair{"a", "much longer text"}) {
						checkPut(t, c, p, "new")
					}
				}
			}
		}
	}
}

func TestPutInPlaceOfOthersN3(t *testing.T) {
	for width := range 65 {
		for _, x := range alikes() {
			full := holding(1, 4, width, pair{"first", "one"}, x[0], pair{"the", "second one"})
			full.Room = len(full.Parts[0])
			for _, room := range []int{full.Room, full.Room + 1} {
				c := copied(full)
				c.Room = room
				now, e := cache.Put(c, x[1].left, x[1].right, "new")
				want := copied(c)
				s := slot(x[1], "new", width)
				want.Parts[0] = append([]api.Slot{s}, apartFrom(c.Parts[0], s.Key)...)
				if !same(now, want) || e != api.OK || now.Evicted != 0 || len(now.Parts[0]) != full.Room {
					t.Fatalf("%d bits, room for %d: %v, %d", width, room, now, e)
				}
			}
		}
	}
}

func TestPutOnceMoreN3(t *testing.T) {
	c := holding(1, 3, 64, some(3)...)
	for i, p := range some(3) {
		for _, val := range []string{"", "new", "of " + p.left + "," + p.right} {
			now, e := cache.Put(c, p.left, p.right, val)
			want := copied(c)
			s := slot(p, val, 64)
			want.Parts[0] = slices.Insert(slices.Delete(want.Parts[0], 2-i, 3-i), 0, s)
			if !same(now, want) || e != api.OK {
				t.Errorf("%q once more: %v, %d", p, now, e)
			}
		}
	}
}

// TestPutWithoutRoomN3 is that what finds no room in its part is out, and counted, while other parts have room.
func TestPutWithoutRoomN3(t *testing.T) {
	for n := 1; n <= 16; n++ {
		for room := range n {
			for _, p := range some(30) {
				i := wantPart(sums.Both(p.left, p.right, 64), n)
				c := made(t, n, room, 64)
				now, e := cache.Put(c, p.left, p.right, "v")
				want := made(t, n, room, 64)
				if i < room {
					want.Parts[i] = []api.Slot{slot(p, "v", 64)}
				} else {
					want.Evicted = 1
				}
				if !same(now, want) || e != api.OK {
					t.Fatalf("%d parts, room for %d: %v, %d", n, room, now, e)
				}
			}
		}
	}
}

// TestEvictedIsTheOldestN3 is that the last slot of a full part goes, and of no other one.
func TestEvictedIsTheOldestN3(t *testing.T) {
	for _, n := range []int{1, 2, 3} {
		c := holding(n, 6, 64, some(60)...)
		if cache.Size(c) != 6 {
			t.Fatalf("%v is not full", c)
		}
		for step, p := range some(90)[60:] {
			i := wantPart(sums.Both(p.left, p.right, 64), n)
			now, e := cache.Put(c, p.left, p.right, "new")
			want := copied(c)
			want.Parts[i] = append([]api.Slot{slot(p, "new", 64)}, c.Parts[i][:6/n-1]...)
			want.Evicted = step + 1
			if !same(now, want) || e != api.OK {
				t.Fatalf("%v, %d, not %v", now, e, want)
			}
			c = now
		}
	}
}

// TestCountsN2N3 has each count at its bound, one below, and at others, when it is counted and when it is not.
func TestCountsN2N3(t *testing.T) {
	base := holding(1, 2, 0, pair{"a", "b"}, pair{"c", ""})
	for _, n := range []int{0, 1, 2, 41, 1<<31 - 1, 1 << 31, 1<<32 - 1, 1 << 32, mostCount - 2, mostCount - 1, mostCount} {
		more := min(n+1, mostCount)
		for _, x := range []struct {
			name string
			do   func(c api.Cache) api.Cache
			want [4]int
		}{
			{"a hit", func(c api.Cache) api.Cache { _, c, _ = cache.Get(c, "a", "b"); return c }, [4]int{more, n, n, n}},
			{"a miss", func(c api.Cache) api.Cache { _, c, _ = cache.Get(c, "abc", ""); return c }, [4]int{n, more, n, n}},
			{"a clash", func(c api.Cache) api.Cache { _, c, _ = cache.Get(c, "x", "y"); return c }, [4]int{n, n, more, n}},
			{"one is out", func(c api.Cache) api.Cache { c, _ = cache.Put(c, "abc", "", ""); return c }, [4]int{n, n, n, more}},
			{"none is out", func(c api.Cache) api.Cache { c, _ = cache.Put(c, "x", "y", ""); return c }, [4]int{n, n, n, n}},
		} {
			c := copied(base)
			c.Hits, c.Misses, c.Clashes, c.Evicted = n, n, n, n
			now := x.do(c)
			if got := [4]int{now.Hits, now.Misses, now.Clashes, now.Evicted}; got != x.want || !cache.Right(now) {
				t.Errorf("%s at %d: %v", x.name, n, got)
			}
		}
	}
}

// TestEachCountIsItsOwnN2N3 has four unlike counts.
func TestEachCountIsItsOwnN2N3(t *testing.T) {
	c := holding(1, 2, 0, pair{"a", "b"}, pair{"c", ""})
	c.Hits, c.Misses, c.Clashes, c.Evicted = 100, mostCount, 300, 400
	for _, p := range []pair{{"a", "b"}, {"abc", ""}, {"x", "y"}, {"", "c"}, {"c", ""}} {
		checkGet(t, c, p)
		checkPut(t, c, p, "new")
	}
}

func TestSizeN1(t *testing.T) {
	slots := make([]api.Slot, 5000)
	for _, x := range []struct {
		name string
		c    api.Cache
		want int
	}{
		{"nothing", api.Cache{}, 0},
		{"no slots", made(t, 16, 4096, 64), 0},
		{"one slot", holding(3, 5, 9, pair{"a", "b"}), 1},
		{"several, in several parts", holding(3, 60, 64, some(20)...), 20},
		{"several, in one part", holding(1, 60, 64, some(20)...), 20},
		{"as many as there is room for", holding(4, 10, 64, some(60)...), 10},
		{"no room", holding(4, 0, 64, some(60)...), 0},
		{"not right: zero slots", api.Cache{Parts: [][]api.Slot{slots[:3], nil, slots[:4], {}}}, 7},
		{"not right: too many slots", api.Cache{Parts: [][]api.Slot{slots, slots}}, 10000},
		{"not right: too many parts", api.Cache{Room: 9, Parts: slices.Repeat([][]api.Slot{slots[:2]}, 20)}, 40},
		{"not right: a Room below 0", api.Cache{Room: -5, Parts: [][]api.Slot{slots[:2]}}, 2},
		{"not right: counts below 0", api.Cache{Hits: -5, Misses: -5, Parts: [][]api.Slot{slots[:2]}}, 2},
		{"what is behind the length", api.Cache{Room: 9, Parts: [][]api.Slot{slots[:2:9], slots[:0:9]}}, 2},
	} {
		if got := cache.Size(x.c); got != x.want {
			t.Errorf("%s: %d", x.name, got)
		}
	}
}

// TestTextsComeOutAsTheyWentInN2N3 has texts that are empty, long, or no signs, and such whose Sum is greater than an int.
func TestTextsComeOutAsTheyWentInN2N3(t *testing.T) {
	long := strings.Repeat("line\n", 2000)
	pairs := []pair{
		{"", ""}, {"\x00", ""}, {"", "\x00"}, {"\x00", "\x00"}, {"\xff\xfe", "\x80"}, {long, long}, {long, ""}, {long + "x", long},
		{"\u00e9", "e\u0301"}, {"a\r\n", "a\n"},
	}
	high := 0
	for i := range 60 {
		p := pair{strings.Repeat("z", 13+i), strings.Repeat("y", i)}
		if sums.Both(p.left, p.right, 64).Sum > math.MaxInt {
			high++
		}
		pairs = append(pairs, p)
	}
	if high < 10 {
		t.Fatalf("only %d Sums are greater than an int", high)
	}
	for _, n := range []int{1, 2, 3, 7, 16} {
		for _, width := range []int{5, 63, 64} {
			c := made(t, n, 4096, width)
			for i, p := range pairs {
				val := []string{"", "v", "\x00\xff", long}[i%4]
				checkPut(t, c, p, val)
				c, _ = cache.Put(c, p.left, p.right, val)
				got, _, e := cache.Get(c, p.left, p.right)
				if got != val || e != api.OK {
					t.Fatalf("%d parts, %d bits: %q, %d", n, width, got, e)
				}
			}
			for _, p := range pairs {
				checkGet(t, c, p)
			}
		}
	}
}

// oddSlots is slots of few bits, right ones and such as may not be.
func oddSlots(width int) []api.Slot {
	return []api.Slot{
		{}, slot(pair{}, "v", width), slot(pair{"a", ""}, "v", width), slot(pair{"", "a"}, "w", width), slot(pair{"b", ""}, "", width),
		{Key: api.Key{Sum: 2, Len: 1}, Left: "a"},
		{Key: api.Key{Sum: 0, Len: 2}, Left: "b"},
	}
}

// shortLists is all lists of at most so many slots, each one of some.
func shortLists(length int, some []api.Slot) [][]api.Slot {
	lists := [][]api.Slot{nil}
	for begin := 0; length > 0; length-- {
		end := len(lists)
		for _, l := range lists[begin:end] {
			for _, s := range some {
				lists = append(lists, append(slices.Clone(l), s))
			}
		}
		begin = end
	}
	return lists
}

// TestAllSmallCachesN1N2N3 is all caches of one or two short parts of odd slots.
func TestAllSmallCachesN1N2N3(t *testing.T) {
	right, not := 0, 0
	try := func(c api.Cache) {
		for room := range 5 {
			c.Room = room
			if wantRight(c) {
				right++
			} else {
				not++
			}
			for _, p := range []pair{{}, {"a", ""}, {"", "a"}, {"b", ""}, {"", "b"}, {"a", "b"}} {
				check(t, c, p, "new")
			}
		}
	}
	for _, width := range []int{0, 1, 2, 64} {
		for _, l := range shortLists(3, oddSlots(width)) {
			try(api.Cache{Width: width, Parts: [][]api.Slot{l}})
		}
		few := shortLists(2, oddSlots(width)[1:6])
		for _, one := range few {
			for _, two := range few {
				try(api.Cache{Width: width, Parts: [][]api.Slot{one, two}})
			}
		}
	}
	if right < 500 || not < 5000 {
		t.Errorf("only %d caches are right, and %d are not", right, not)
	}
}

// TestMuchN1N2N3 fills caches of all the room that there may be.
func TestMuchN1N2N3(t *testing.T) {
	for _, n := range []int{1, 16} {
		c := api.Cache{Width: 64, Room: 4096, Parts: make([][]api.Slot, n)}
		for i := 0; wantSize(c) < 4096; i++ {
			p := pair{strconv.Itoa(i), strconv.Itoa(i % 7)}
			s := slot(p, "v", 64)
			if part := wantPart(s.Key, n); len(c.Parts[part]) < 4096/n && !slices.Contains(keys(c.Parts[part]), s.Key) {
				c.Parts[part] = append(c.Parts[part], s)
			}
		}
		if !cache.Right(c) || cache.Size(c) != 4096 {
			t.Fatalf("%d parts: %d slots", n, cache.Size(c))
		}
		last := c.Parts[n-1][4096/n-1]
		checkGet(t, c, pair{last.Left, last.Right})
		checkPut(t, c, pair{last.Left, last.Right}, "new")
		checkPut(t, c, pair{"one", "more"}, "new")
		c.Room--
		if cache.Right(c) {
			t.Errorf("%d parts: a slot too many is right", n)
		}
	}
}
