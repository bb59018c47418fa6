package cache_test

import (
	"slices"
	"testing"

	"collator/api"
	"collator/cache"
	"collator/sums"
)

const mostCount = 1 << 40

// pair is two texts of which something may be known.
type pair struct{ left, right string }

// alikes is pairs that are unlike in Left alone, in Right alone, in both, and in where the one ends and the other one begins; each has the Key of the one beside it, by all widths.
func alikes() [][2]pair {
	return [][2]pair{
		{{"Aa", "r"}, {"BB", "r"}},
		{{"l", "Aa"}, {"l", "BB"}},
		{{"a", "z"}, {"b", "U"}},
		{{"x!#>/>?*,>&;<#4", ""}, {"x", "!#>/>?*,>&;<#4"}},
	}
}

// slot is what the words of N2 and N3 make of texts.
func slot(p pair, val string, width int) api.Slot {
	return api.Slot{Key: sums.Both(p.left, p.right, width), Left: p.left, Right: p.right, Val: val}
}

// wantRoom is the chapter's words of a part's room.
func wantRoom(room, n, i int) int {
	each, left := 0, room
	for left >= n {
		each, left = each+1, left-n
	}
	if i < left {
		return each + 1
	}
	return each
}

// wantPart is the chapter's words of a key's part: modulo as if by taking away.
func wantPart(k api.Key, n int) int {
	return int(k.Sum - k.Sum/uint64(n)*uint64(n))
}

// rule is one of the things that make a cache right.
type rule struct {
	name  string
	holds func(c api.Cache) bool
}

// rules is the chapter's words of what is right, one by one.
func rules() []rule {
	return []rule{
		{"Parts", func(c api.Cache) bool { return len(c.Parts) >= 1 && len(c.Parts) <= 16 }},
		{"Room", func(c api.Cache) bool { return c.Room >= 0 && c.Room <= 4096 }},
		{"Width", func(c api.Cache) bool { return c.Width >= 0 && c.Width <= 64 }},
		{"Hits", func(c api.Cache) bool { return c.Hits >= 0 && c.Hits <= mostCount }},
		{"Misses", func(c api.Cache) bool { return c.Misses >= 0 && c.Misses <= mostCount }},
		{"Clashes", func(c api.Cache) bool { return c.Clashes >= 0 && c.Clashes <= mostCount }},
		{"Evicted", func(c api.Cache) bool { return c.Evicted >= 0 && c.Evicted <= mostCount }},
		{"one Key", ofEachSlot(func(c api.Cache, i, j int) bool {
			return !slices.Contains(keys(c.Parts[i][:j]), c.Parts[i][j].Key)
		})},
		{"the part's room", func(c api.Cache) bool {
			for i, part := range c.Parts {
				if len(part) > wantRoom(c.Room, len(c.Parts), i) {
					return false
				}
			}
			return true
		}},
		{"the texts' Key", ofEachSlot(func(c api.Cache, i, j int) bool {
			s := c.Parts[i][j]
			return s.Key == sums.Both(s.Left, s.Right, c.Width)
		})},
		{"the Key's part", ofEachSlot(func(c api.Cache, i, j int) bool {
			return i == wantPart(c.Parts[i][j].Key, len(c.Parts))
		})},
	}
}

// ofEachSlot is what holds where it holds of the j-th slot of the i-th part, whichever these are.
func ofEachSlot(holds func(c api.Cache, i, j int) bool) func(c api.Cache) bool {
	return func(c api.Cache) bool {
		for i, part := range c.Parts {
			for j := range part {
				if !holds(c, i, j) {
					return false
				}
			}
		}
		return true
	}
}

func keys(l []api.Slot) []api.Key {
	var all []api.Key
	for _, s := range l {
		all = append(all, s.Key)
	}
	return all
}

// broken is the names of the rules that don't hold.
func broken(c api.Cache) []string {
	var names []string
	for _, r := range rules() {
		if !r.holds(c) {
			names = append(names, r.name)
		}
	}
	return names
}

func wantRight(c api.Cache) bool { return len(broken(c)) == 0 }

// copied is a cache with lists of its own.
func copied(c api.Cache) api.Cache {
	parts := make([][]api.Slot, len(c.Parts))
	for i, part := range c.Parts {
		parts[i] = slices.Clone(part)
	}
	c.Parts = parts
	return c
}

// same tells whether two caches are the same: lists without elements may be nil or not.
func same(a, b api.Cache) bool {
	return a.Width == b.Width && a.Room == b.Room && a.Hits == b.Hits && a.Misses == b.Misses &&
		a.Clashes == b.Clashes && a.Evicted == b.Evicted &&
		slices.EqualFunc(a.Parts, b.Parts, slices.Equal[[]api.Slot])
}

// counted is n, counted so many times more.
func counted(n, more int) int {
	for range more {
		if n < mostCount {
			n++
		}
	}
	return n
}

// apartFrom is the slots of a list whose Key is another one.
func apartFrom(l []api.Slot, k api.Key) []api.Slot {
	var others []api.Slot
	for _, s := range l {
		if s.Key != k {
			others = append(others, s)
		}
	}
	return others
}

// wantGet is promise N2's words.
func wantGet(c api.Cache, p pair) (string, api.Cache, api.Errno) {
	if !wantRight(c) {
		return "", api.Cache{}, 1
	}
	c = copied(c)
	k := sums.Both(p.left, p.right, c.Width)
	i := wantPart(k, len(c.Parts))
	for _, s := range c.Parts[i] {
		if s.Key != k {
			continue
		}
		if s.Left != p.left || s.Right != p.right {
			c.Clashes = counted(c.Clashes, 1)
			return "", c, 10
		}
		c.Parts[i] = append([]api.Slot{s}, apartFrom(c.Parts[i], k)...)
		c.Hits = counted(c.Hits, 1)
		return s.Val, c, 0
	}
	c.Misses = counted(c.Misses, 1)
	return "", c, 10
}

// wantPut is promise N3's words.
func wantPut(c api.Cache, p pair, val string) (api.Cache, api.Errno) {
	if !wantRight(c) {
		return api.Cache{}, 1
	}
	c = copied(c)
	s := slot(p, val, c.Width)
	i := wantPart(s.Key, len(c.Parts))
	together := append([]api.Slot{s}, apartFrom(c.Parts[i], s.Key)...)
	stay := min(len(together), wantRoom(c.Room, len(c.Parts), i))
	c.Parts[i] = together[:stay]
	c.Evicted = counted(c.Evicted, len(together)-stay)
	return c, 0
}

// wantSize counts slot by slot.
func wantSize(c api.Cache) int {
	n := 0
	for _, part := range c.Parts {
		for range part {
			n++
		}
	}
	return n
}

// checkGet holds Get against the chapter's words, and what was handed in against what it was.
func checkGet(t *testing.T, c api.Cache, p pair) {
	t.Helper()
	was := copied(c)
	val, now, e := cache.Get(c, p.left, p.right)
	if wantVal, wantNow, wantE := wantGet(was, p); val != wantVal || !same(now, wantNow) || e != wantE {
		t.Fatalf("Get(%v, %q) = %q, %v, %d, not %q, %v, %d", was, p, val, now, e, wantVal, wantNow, wantE)
	}
	if !same(c, was) {
		t.Fatalf("Get(%v, %q) has written into it: %v", was, p, c)
	}
}

// checkPut holds Put against the chapter's words, and what was handed in against what it was.
func checkPut(t *testing.T, c api.Cache, p pair, val string) {
	t.Helper()
	was := copied(c)
	now, e := cache.Put(c, p.left, p.right, val)
	if wantNow, wantE := wantPut(was, p, val); !same(now, wantNow) || e != wantE {
		t.Fatalf("Put(%v, %q, %q) = %v, %d, not %v, %d", was, p, val, now, e, wantNow, wantE)
	}
	if !same(c, was) {
		t.Fatalf("Put(%v, %q, %q) has written into it: %v", was, p, val, c)
	}
}

// check holds all calls against the chapter's words.
func check(t *testing.T, c api.Cache, p pair, val string) {
	t.Helper()
	if cache.Right(c) != wantRight(c) {
		t.Fatalf("Right(%v) = %v", c, cache.Right(c))
	}
	if cache.Size(c) != wantSize(c) {
		t.Fatalf("Size(%v) = %d", c, cache.Size(c))
	}
	checkGet(t, c, p)
	checkPut(t, c, p, val)
}

// made is a cache that New tells.
func made(t *testing.T, parts, room, width int) api.Cache {
	t.Helper()
	c, e := cache.New(parts, room, width)
	if e != api.OK {
		t.Fatalf("New(%d, %d, %d): %d", parts, room, width, e)
	}
	return c
}

// holding is a cache whose slots are written down by the chapter's words alone: those of the pairs, the last one in front, as far as there is room.
func holding(parts, room, width int, pairs ...pair) api.Cache {
	c := api.Cache{Width: width, Room: room, Parts: make([][]api.Slot, parts)}
	for _, p := range pairs {
		c, _ = wantPut(c, p, "of "+p.left+","+p.right)
	}
	c.Evicted = 0
	return c
}

// some is so many pairs, unlike one another, of which many have one length.
func some(n int) []pair {
	var l []pair
	for i := range n {
		left, right := string(rune('a'+i%26)), string(rune('a'+i/26%26))
		l = append(l, pair{left + left[:i/5%2], right})
	}
	return l
}
