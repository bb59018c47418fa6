package cache_test

import (
	"slices"
	"testing"
	"unsafe"

	"collator/api"
	"collator/cache"
)

// lent is a text in memory that its owner can write into.
func lent(s string) (string, func()) {
	memory := []byte(s)
	return unsafe.String(unsafe.SliceData(memory), len(memory)), func() {
		for i := range memory {
			memory[i] = '#'
		}
	}
}

// bad is what is written into lists that others own.
func bad() api.Slot { return slot(pair{"spoilt", "spoilt"}, "spoilt", 64) }

// spoilLists writes into all lists of a cache, spare room too.
func spoilLists(c api.Cache) {
	for _, part := range c.Parts {
		part = part[:cap(part)]
		for i := range part {
			part[i] = bad()
		}
	}
	parts := c.Parts[:cap(c.Parts)]
	for i := range parts {
		parts[i] = []api.Slot{bad()}
	}
}

// lentCache is a copy of a cache whose texts and lists its owner can write into.
func lentCache(c api.Cache) (api.Cache, func()) {
	c = copied(c)
	var spoils []func()
	for _, part := range c.Parts {
		for j := range part {
			for _, text := range []*string{&part[j].Left, &part[j].Right, &part[j].Val} {
				mine, spoil := lent(*text)
				*text = mine
				spoils = append(spoils, spoil)
			}
		}
	}
	return c, func() {
		for _, spoil := range spoils {
			spoil()
		}
		spoilLists(c)
	}
}

// roomy is a copy of a cache with something written in the room behind the length of each list.
func roomy(c api.Cache, behind int) api.Cache {
	parts := make([][]api.Slot, len(c.Parts)+behind)
	for i := range parts {
		n := 0
		if i < len(c.Parts) {
			n = len(c.Parts[i])
			parts[i] = slices.Clone(c.Parts[i])
		}
		for range behind {
			parts[i] = append(parts[i], bad())
		}
		parts[i] = parts[i][:n]
	}
	c.Parts = parts[:len(c.Parts)]
	return c
}

// whole is a cache's lists to the ends of their memory.
func whole(c api.Cache) [][]api.Slot {
	var all [][]api.Slot
	for _, part := range c.Parts[:cap(c.Parts)] {
		all = append(all, slices.Clone(part[:cap(part)]))
	}
	return all
}

// several is caches of several kinds: full ones and such as have room, of few parts and of many, of no bits and of many, and ones that are not right.
func several() []api.Cache {
	twice := holding(1, 9, 64, some(3)...)
	twice.Parts[0] = append(twice.Parts[0], twice.Parts[0][1])
	away := holding(2, 9, 64, some(5)...)
	away.Parts[0], away.Parts[1] = away.Parts[1], away.Parts[0]
	return []api.Cache{
		holding(1, 0, 64), holding(3, 9, 64), holding(1, 1, 0, some(2)...), holding(1, 3, 64, some(3)...), holding(1, 9, 64, some(3)...),
		holding(3, 3, 64, some(9)...), holding(3, 8, 3, some(9)...), holding(5, 60, 64, some(9)...), holding(16, 7, 64, some(9)...),
		twice, away, {}, {Parts: make([][]api.Slot, 17), Room: 9},
	}
}

// asked is texts that several caches have, that they have not, and whose Key is there with others, by few bits.
func asked() []pair {
	return append(some(10), pair{"never", "there"}, pair{}, pair{"c", "c"}, pair{"x", "a"})
}

func TestWhatIsHandedInIsAsItWasN1N2N3(t *testing.T) {
	for i, base := range several() {
		for behind := range 4 {
			c := roomy(base, behind)
			was := whole(c)
			asIs := func(what string) {
				t.Helper()
				if !slices.EqualFunc(whole(c), was, slices.Equal[[]api.Slot]) {
					t.Fatalf("%s of cache %d, %d behind: %v", what, i, behind, whole(c))
				}
			}
			cache.Right(c)
			asIs("Right")
			cache.Size(c)
			asIs("Size")
			for _, p := range asked() {
				cache.Get(c, p.left, p.right)
				asIs("Get")
				cache.Put(c, p.left, p.right, "new")
				asIs("Put")
			}
		}
	}
}

// TestNothingIsKeptN2N3 writes into what was handed in, when the answer is there.
func TestNothingIsKeptN2N3(t *testing.T) {
	for i, base := range several() {
		for _, p := range asked() {
			c, spoil := lentCache(base)
			left, spoilLeft := lent(p.left)
			right, spoilRight := lent(p.right)
			val, spoilVal := lent("new")
			got, now, e := cache.Get(c, left, right)
			next, nextE := cache.Put(c, left, right, val)
			for _, s := range []func(){spoil, spoilLeft, spoilRight, spoilVal} {
				s()
			}
			if wantVal, wantNow, wantE := wantGet(base, p); got != wantVal || !same(now, wantNow) || e != wantE {
				t.Fatalf("Get of %q, of cache %d, keeps what was handed in: %q, %v, %d", p, i, got, now, e)
			}
			if wantNow, wantE := wantPut(base, p, "new"); !same(next, wantNow) || nextE != wantE {
				t.Fatalf("Put of %q, into cache %d, keeps what was handed in: %v, %d", p, i, next, nextE)
			}
		}
	}
}

// texts is all texts of a cache.
func texts(c api.Cache) []string {
	var all []string
	for _, part := range c.Parts {
		for _, s := range part {
			all = append(all, s.Left, s.Right, s.Val)
		}
	}
	return all
}

// meet tells whether two texts have a byte of memory in common.
func meet(a, b string) bool {
	p, q := uintptr(unsafe.Pointer(unsafe.StringData(a))), uintptr(unsafe.Pointer(unsafe.StringData(b)))
	return a != "" && b != "" && p < q+uintptr(len(b)) && q < p+uintptr(len(a))
}

// apart fails if a text of an answer has memory in common with another one of it, or with one that was handed in.
func apart(t *testing.T, what string, answer, given []string) {
	t.Helper()
	for i, text := range answer {
		for _, other := range slices.Concat(given, answer[:i]) {
			if meet(text, other) {
				t.Fatalf("%s: %q is %q, too", what, text, other)
			}
		}
	}
}

func TestTextsAreNobodyElsesMemoryN2N3(t *testing.T) {
	for _, c := range several() {
		for _, p := range asked() {
			val, now, _ := cache.Get(c, p.left, p.right)
			given := append(texts(c), p.left, p.right)
			apart(t, "Get", append(texts(now), val), given)
			next, _ := cache.Put(c, p.left, p.right, "new")
			apart(t, "Put", texts(next), append(given, "new"))
			apart(t, "Put behind Get", texts(next), append(texts(now), val))
		}
	}
	// One text that is handed in three times comes out as three.
	text := "the same text"
	c, _ := cache.Put(made(t, 1, 1, 64), text, text, text)
	apart(t, "Put of one text", texts(c), []string{text})
}

// grow appends to each list of a cache.
func grow(c api.Cache) {
	for _, part := range c.Parts {
		_ = append(part, bad(), bad(), bad())
	}
	_ = append(c.Parts, []api.Slot{bad()}, nil)
}

// TestListsAreNobodyElsesMemoryN2N3 grows each cache that came out, and writes into it, and looks at all others.
func TestListsAreNobodyElsesMemoryN2N3(t *testing.T) {
	for i, base := range several() {
		for _, p := range asked() {
			c := roomy(base, 2)
			was := whole(c)
			_, got, _ := cache.Get(c, p.left, p.right)
			_, gotAgain, _ := cache.Get(c, p.left, p.right)
			put, _ := cache.Put(c, p.left, p.right, "new")
			putAgain, _ := cache.Put(c, p.left, p.right, "new")
			_, wantGot, _ := wantGet(base, p)
			wantPut, _ := wantPut(base, p, "new")
			grow(got)
			grow(put)
			if !same(got, wantGot) || !same(put, wantPut) {
				t.Fatalf("cache %d, %q: one list has grown into another one: %v, %v", i, p, got, put)
			}
			spoilLists(got)
			spoilLists(put)
			if !same(gotAgain, wantGot) || !same(putAgain, wantPut) {
				t.Fatalf("cache %d, %q: what was written into one answer is in another one: %v, %v", i, p, gotAgain, putAgain)
			}
			if !slices.EqualFunc(whole(c), was, slices.Equal[[]api.Slot]) {
				t.Fatalf("cache %d, %q: what was written into an answer is in what was handed in: %v", i, p, c)
			}
		}
	}
}

// TestEachPartIsItsOwnN1N2N3 writes into one list of a cache, and looks at its others.
func TestEachPartIsItsOwnN1N2N3(t *testing.T) {
	base := holding(4, 60, 64, some(20)...)
	for i := range 4 {
		fresh := made(t, 4, 9, 64)
		_, got, _ := cache.Get(base, "a", "a")
		put, _ := cache.Put(base, "never", "there", "new")
		for _, c := range []api.Cache{fresh, got, put} {
			was := copied(c)
			part := append(c.Parts[i], bad(), bad(), bad())
			spoilLists(api.Cache{Parts: [][]api.Slot{part}})
			spoilLists(api.Cache{Parts: [][]api.Slot{c.Parts[i]}})
			was.Parts[i], c.Parts[i] = nil, nil
			if !same(c, was) {
				t.Fatalf("what was written into part %d is elsewhere: %v, not %v", i, c, was)
			}
		}
	}
}

func TestNewIsNewMemoryN1(t *testing.T) {
	for _, n := range []int{1, 2, 16} {
		one, two := made(t, n, 40, 5), made(t, n, 40, 5)
		grow(one)
		spoilLists(one)
		if want := (api.Cache{Width: 5, Room: 40, Parts: make([][]api.Slot, n)}); !same(two, want) {
			t.Errorf("%d parts: what was written into one cache is in another one: %v", n, two)
		}
	}
}

func TestTheSameTwiceN1N2N3(t *testing.T) {
	for i, c := range several() {
		if cache.Right(c) != cache.Right(c) || cache.Size(c) != cache.Size(c) {
			t.Fatalf("cache %d: Right or Size tells something else", i)
		}
		for _, p := range asked() {
			val, now, e := cache.Get(c, p.left, p.right)
			val2, now2, e2 := cache.Get(c, p.left, p.right)
			if val != val2 || !same(now, now2) || e != e2 {
				t.Fatalf("cache %d, %q: Get tells something else", i, p)
			}
			now, e = cache.Put(c, p.left, p.right, "new")
			now2, e2 = cache.Put(c, p.left, p.right, "new")
			if !same(now, now2) || e != e2 {
				t.Fatalf("cache %d, %q: Put tells something else", i, p)
			}
		}
	}
}
