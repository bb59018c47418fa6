package cache_test

import (
	"math/rand"
	"slices"
	"strconv"
	"strings"
	"testing"

	"collator/api"
	"collator/cache"
	"collator/sums"
)

// account is what a plain reader would write down: what was put last for just two texts; by each Key whose it is, and when it was asked for or put last; and the counts.
type account struct {
	parts, room, width int
	clock              int
	last               map[pair]string
	owner              map[api.Key]pair
	when               map[api.Key]int
	hits, misses       int
	clashes, evicted   int
}

func open(parts, room, width int) *account {
	return &account{
		parts: parts, room: room, width: width,
		last: map[pair]string{}, owner: map[api.Key]pair{}, when: map[api.Key]int{},
	}
}

// key is that of all bits, of which those above the width are taken away.
func (a *account) key(p pair) api.Key {
	k := sums.Both(p.left, p.right, 64)
	if a.width < 64 {
		k.Sum %= 1 << a.width
	}
	return k
}

// touch notes that a Key was asked for, or put.
func (a *account) touch(k api.Key) {
	a.clock++
	a.when[k] = a.clock
}

// get notes that texts are asked for, and tells what is known of them.
func (a *account) get(p pair) (string, bool) {
	k := a.key(p)
	owner, there := a.owner[k]
	switch {
	case !there:
		a.misses++
		return "", false
	case owner != p:
		a.clashes++
		return "", false
	}
	a.hits++
	a.touch(k)
	return a.last[p], true
}

// of is the Keys that are in a part.
func (a *account) of(part int) []api.Key {
	var l []api.Key
	for k := range a.owner {
		if wantPart(k, a.parts) == part {
			l = append(l, k)
		}
	}
	return l
}

// put notes what texts have come to; of the part, that which was asked for, or put, longest ago goes, one by one.
func (a *account) put(p pair, val string) {
	k := a.key(p)
	a.touch(k)
	a.last[p], a.owner[k] = val, p
	i := wantPart(k, a.parts)
	for left := a.of(i); len(left) > wantRoom(a.room, a.parts, i); left = a.of(i) {
		oldest := slices.MinFunc(left, func(k, o api.Key) int { return a.when[k] - a.when[o] })
		delete(a.owner, oldest)
		a.evicted++
	}
}

// cache is the account as a cache; of each part what was asked for, or put, last stands first.
func (a *account) cache() api.Cache {
	c := api.Cache{
		Width: a.width, Room: a.room, Parts: make([][]api.Slot, a.parts),
		Hits: a.hits, Misses: a.misses, Clashes: a.clashes, Evicted: a.evicted,
	}
	for i := range c.Parts {
		keys := a.of(i)
		slices.SortFunc(keys, func(k, o api.Key) int { return a.when[o] - a.when[k] })
		for _, k := range keys {
			p := a.owner[k]
			c.Parts[i] = append(c.Parts[i], api.Slot{Key: k, Left: p.left, Right: p.right, Val: a.last[p]})
		}
	}
	return c
}

// journey is one row of Gets and Puts, and the account beside it.
type journey struct {
	t *testing.T
	a *account
	c api.Cache
}

func set(t *testing.T, parts, room, width int) *journey {
	t.Helper()
	return &journey{t, open(parts, room, width), made(t, parts, room, width)}
}

func (j *journey) get(p pair) {
	j.t.Helper()
	val, now, e := cache.Get(j.c, p.left, p.right)
	last, put := j.a.last[p]
	if e == api.OK && (!put || val != last) {
		j.t.Fatalf("Get of %q: %q, but what was put last is %q, %v", p, val, last, put)
	}
	want, there := j.a.get(p)
	if val != want || there != (e == api.OK) || !there && e != api.ErrNone {
		j.t.Fatalf("Get of %q: %q, %d, not %q, %v", p, val, e, want, there)
	}
	j.c = now
}

func (j *journey) put(p pair, val string) {
	j.t.Helper()
	now, e := cache.Put(j.c, p.left, p.right, val)
	if e != api.OK {
		j.t.Fatalf("Put of %q: %d", p, e)
	}
	j.a.put(p, val)
	j.c = now
	if n := cache.Size(now); n > j.a.room {
		j.t.Fatalf("there are %d slots, with room for %d", n, j.a.room)
	}
}

// same fails if what is there is not what the account has there.
func (j *journey) same() {
	j.t.Helper()
	if want := j.a.cache(); !same(j.c, want) || !cache.Right(j.c) {
		j.t.Fatalf("there is %v, not %v", j.c, want)
	}
}

// raw is so many pairs of short texts; many have one length, and many have one Key by all widths.
func raw(n int) []pair {
	var l []pair
	for _, x := range alikes() {
		l = append(l, x[0], x[1])
	}
	for i := range n {
		text := strconv.FormatInt(int64(i), 3)
		l = append(l, pair{text[:i%len(text)], text[i%len(text):]})
	}
	return l[:n]
}

// travel goes so many steps of chance.
func (j *journey) travel(chance *rand.Rand, steps int, some []pair) {
	j.t.Helper()
	for i := range steps {
		p := some[chance.Intn(len(some))]
		if chance.Intn(2) == 0 {
			j.get(p)
		} else {
			j.put(p, strconv.Itoa(i%23))
		}
		j.same()
	}
}

// TestManyRowsBesideAnAccountN4 has all widths, by few and by many texts, with much room and with little.
func TestManyRowsBesideAnAccountN4(t *testing.T) {
	chance := rand.New(rand.NewSource(14))
	var hits, misses, clashes, evicted int
	for width := range 65 {
		for range 8 {
			parts := 1 + chance.Intn(16)
			j := set(t, parts, chance.Intn(3*parts+2), width)
			j.travel(chance, 120, raw(1+chance.Intn(40)))
			hits, misses = hits+j.a.hits, misses+j.a.misses
			clashes, evicted = clashes+j.a.clashes, evicted+j.a.evicted
		}
	}
	if hits < 3000 || misses < 3000 || clashes < 1000 || evicted < 3000 {
		t.Errorf("too few of a kind: %d hits, %d misses, %d clashes, %d out", hits, misses, clashes, evicted)
	}
}

// TestFewBitsN4 has few keys for many texts, so that nearly all are others' as well.
func TestFewBitsN4(t *testing.T) {
	chance := rand.New(rand.NewSource(41))
	hits, clashes := 0, 0
	for width := range 4 {
		for parts := 1; parts <= 4; parts++ {
			for _, room := range []int{0, 1, 2, 3, 5, 8, 40} {
				j := set(t, parts, room, width)
				j.travel(chance, 300, raw(60))
				hits, clashes = hits+j.a.hits, clashes+j.a.clashes
			}
		}
	}
	if hits < 1000 || clashes < 3000 {
		t.Errorf("too few of a kind: %d hits, %d clashes", hits, clashes)
	}
}

// TestMuchRoomN4 has room for some hundred slots, of texts of which some are asked for far more often than others.
func TestMuchRoomN4(t *testing.T) {
	chance := rand.New(rand.NewSource(4))
	for _, parts := range []int{1, 7} {
		some := raw(600)
		j := set(t, parts, 200, 64)
		for i := range 2000 {
			j.put(some[min(chance.Intn(len(some)), chance.Intn(len(some)))], strconv.Itoa(i))
			j.get(some[chance.Intn(len(some))])
			if i%100 == 99 {
				j.same()
			}
		}
		if cache.Size(j.c) < 190 || j.a.evicted < 200 || j.a.hits < 200 {
			t.Errorf("%d parts: %d are there, %d are out, %d hits", parts, cache.Size(j.c), j.a.evicted, j.a.hits)
		}
	}
}

// TestAllShortRowsN4 goes all rows of five steps of four pairs, three of which have one Key by no bits, and two by all.
func TestAllShortRowsN4(t *testing.T) {
	some := []pair{{"Aa", ""}, {"BB", ""}, {"", "xy"}, {"x", ""}}
	for _, x := range [][3]int{{1, 1, 0}, {1, 2, 0}, {1, 2, 64}, {2, 1, 64}, {2, 3, 1}} {
		for n := range 8 * 8 * 8 * 8 * 8 {
			j := set(t, x[0], x[1], x[2])
			for step := n + 8*8*8*8*8; step > 1; step /= 8 {
				if p := some[step%4]; step%8 < 4 {
					j.get(p)
				} else {
					j.put(p, strconv.Itoa(step%5))
				}
			}
			j.same()
		}
	}
}

// TestMoreBitsTellNoLessN4 has room for all texts: a cache of fewer bits tells nothing that one of more bits does not tell, and both tell what was put last.
func TestMoreBitsTellNoLessN4(t *testing.T) {
	chance := rand.New(rand.NewSource(40))
	for range 10 {
		some := raw(50)
		var rows []*journey
		for width := range 65 {
			rows = append(rows, set(t, 1+width%3, 200, width))
		}
		told := make([]int, len(rows))
		for i := range 60 {
			asked, put := some[chance.Intn(len(some))], some[chance.Intn(len(some))]
			for width, j := range rows {
				hits := j.a.hits
				j.put(put, strconv.Itoa(i))
				j.get(asked)
				told[width] = j.a.hits - hits
			}
			if !slices.IsSorted(told) {
				t.Fatalf("of %q fewer bits tell more: %v", asked, told)
			}
		}
		for _, j := range rows {
			j.same()
		}
	}
}

// TestWhatWasPutIsThereN4 has room for all, and Keys that are unlike: nothing is ever forgotten.
func TestWhatWasPutIsThereN4(t *testing.T) {
	c := made(t, 5, 4096, 64)
	for i := range 120 {
		text := strings.Repeat("x", i)
		c, _ = cache.Put(c, text, "y", strconv.Itoa(i))
		for k := range i + 1 {
			val, now, e := cache.Get(c, strings.Repeat("x", k), "y")
			if val != strconv.Itoa(k) || e != api.OK {
				t.Fatalf("%d of %d: %q, %d", k, i, val, e)
			}
			c = now
		}
	}
	if c.Hits != 120*121/2 || c.Misses != 0 || c.Clashes != 0 || c.Evicted != 0 || cache.Size(c) != 120 {
		t.Errorf("%d hits, %d misses, %d clashes, %d out", c.Hits, c.Misses, c.Clashes, c.Evicted)
	}
}
