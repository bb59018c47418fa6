package lru_test

import (
	"cmp"
	"math/rand"
	"slices"
	"strconv"
	"testing"

	"collator/api"
	"collator/lru"
)

// account is what a plain reader would write down: by each Key what was put last, when it was asked for or put last, and whether it is there.
type account struct {
	clock int
	last  map[api.Key]api.Slot
	when  map[api.Key]int
	there map[api.Key]bool
}

func open() *account {
	return &account{0, map[api.Key]api.Slot{}, map[api.Key]int{}, map[api.Key]bool{}}
}

// touch notes that a Key was asked for, or put.
func (a *account) touch(k api.Key) {
	a.clock++
	a.when[k] = a.clock
}

// put notes a slot, and tells the Keys that have to go: one by one that which was asked for, or put, longest ago.
func (a *account) put(room int, s api.Slot) []api.Key {
	a.touch(s.Key)
	a.last[s.Key], a.there[s.Key] = s, true
	var gone []api.Key
	for len(a.there) > max(room, 0) {
		oldest := s.Key
		for k := range a.there {
			if a.when[k] < a.when[oldest] {
				oldest = k
			}
		}
		delete(a.there, oldest)
		gone = append(gone, oldest)
	}
	slices.Reverse(gone)
	return gone
}

// slots is what the account has there, what was asked for, or put, last first.
func (a *account) slots() []api.Slot {
	var l []api.Slot
	for k := range a.there {
		l = append(l, a.last[k])
	}
	slices.SortFunc(l, func(s, o api.Slot) int { return cmp.Compare(a.when[o.Key], a.when[s.Key]) })
	return l
}

// journey is one row of Gets and Puts, and what has come of it.
type journey struct {
	t          *testing.T
	a          *account
	l          []api.Slot
	got, lacks int
	outs       int
}

func (j *journey) get(k api.Key) {
	j.t.Helper()
	s, now, e := lru.Get(j.l, k)
	if !j.a.there[k] {
		if s != (api.Slot{}) || len(now) > 0 || e != api.ErrNone {
			j.t.Fatalf("Get of %v, which is not there: %v, %v, %d", k, s, now, e)
		}
		j.lacks++
		return
	}
	j.a.touch(k)
	if s != j.a.last[k] || e != api.OK {
		j.t.Fatalf("Get of %v: %v, %d, not %v", k, s, e, j.a.last[k])
	}
	j.l = now
	j.got++
}

func (j *journey) put(room int, s api.Slot) {
	j.t.Helper()
	now, out, e := lru.Put(j.l, room, s)
	was := j.a.slots()
	gone := j.a.put(room, s)
	if e != api.OK || len(now) > max(room, 0) || !slices.Equal(lru.Keys(out), gone) {
		j.t.Fatalf("Put of %v with room for %d into %v: %v and %v, %d, but %v goes", s, room, was, now, out, e, gone)
	}
	for _, o := range out {
		if o != j.a.last[o.Key] {
			j.t.Fatalf("%v is out, not %v", o, j.a.last[o.Key])
		}
		for _, n := range now {
			if j.a.when[o.Key] >= j.a.when[n.Key] {
				j.t.Fatalf("%v is out, and was there later than %v", o, n)
			}
		}
	}
	j.l = now
	j.outs += len(out)
}

// same fails if what is there is not what the account has there.
func (j *journey) same() {
	j.t.Helper()
	if want := j.a.slots(); !slices.Equal(j.l, want) || !lru.Right(j.l) {
		j.t.Fatalf("there is %v, not %v", j.l, want)
	}
}

// travel goes so many steps of chance, each of a Key of some, with the room that a step has.
func travel(t *testing.T, chance *rand.Rand, steps int, some []api.Key, room func() int) *journey {
	t.Helper()
	j := &journey{t: t, a: open()}
	for i := range steps {
		k := some[chance.Intn(len(some))]
		if chance.Intn(2) == 0 {
			j.get(k)
		} else {
			j.put(room(), of(k, strconv.Itoa(i%7)))
		}
		j.same()
	}
	return j
}

// manyKeys is Keys of which several have one Sum, and several one Len.
func manyKeys(n int) []api.Key {
	var l []api.Key
	for i := range n {
		l = append(l, key(uint64(i/3), i%3))
	}
	return l
}

// TestManyStepsBesideAnAccountM3 has one room for each row, as the theorem has it.
func TestManyStepsBesideAnAccountM3(t *testing.T) {
	chance := rand.New(rand.NewSource(13))
	got, lacks, outs := 0, 0, 0
	for range 400 {
		room, keys := chance.Intn(9)-1, 1+chance.Intn(12)
		j := travel(t, chance, 200, manyKeys(keys), func() int { return room })
		got, lacks, outs = got+j.got, lacks+j.lacks, outs+j.outs
	}
	if got < 10000 || lacks < 10000 || outs < 10000 {
		t.Errorf("too few of a kind: %d are got, %d are not there, %d are out", got, lacks, outs)
	}
}

// TestRoomsThatChangeM3 has another room with each Put.
func TestRoomsThatChangeM3(t *testing.T) {
	chance := rand.New(rand.NewSource(31))
	for range 200 {
		keys := 1 + chance.Intn(20)
		travel(t, chance, 200, manyKeys(keys), func() int { return chance.Intn(keys+4) - 2 })
	}
}

// TestMuchRoomM3 has room for some hundred slots, of Keys of which some are asked for far more often than others.
func TestMuchRoomM3(t *testing.T) {
	chance := rand.New(rand.NewSource(7))
	keys := manyKeys(600)
	j := &journey{t: t, a: open()}
	for i := range 5000 {
		k := keys[min(chance.Intn(len(keys)), chance.Intn(len(keys)))]
		j.put(300, of(k, strconv.Itoa(i)))
		j.get(keys[chance.Intn(len(keys))])
		if i%50 == 0 {
			j.same()
		}
	}
	j.same()
	if len(j.l) != 300 || j.outs < 500 {
		t.Errorf("%d are there, %d were out", len(j.l), j.outs)
	}
}

// TestAllShortJourneysM3 goes all rows of six steps of three Keys, with room for two.
func TestAllShortJourneysM3(t *testing.T) {
	some := []api.Key{key(0, 0), key(1, 0), key(0, 1)}
	for n := range 6 * 6 * 6 * 6 * 6 * 6 {
		j := &journey{t: t, a: open()}
		for step := n + 6*6*6*6*6*6; step > 1; step /= 6 {
			if k := some[step%3]; step%6 < 3 {
				j.get(k)
			} else {
				j.put(2, of(k, strconv.Itoa(step%5)))
			}
			j.same()
		}
	}
}

// TestWhatIsAskedForStaysM3 asks for one slot ahead of each Put: it never goes, and the others go as they came.
func TestWhatIsAskedForStaysM3(t *testing.T) {
	dear := of(key(77, 7), "dear")
	l := slots(dear)
	for i := range 50 {
		s, now, e := lru.Get(l, dear.Key)
		if s != dear || e != api.OK {
			t.Fatalf("step %d: %v, %d", i, s, e)
		}
		next := of(key(uint64(i+100), 7), "next")
		kept, out, e := lru.Put(now, 3, next)
		if len(kept) != min(3, i+2) || e != api.OK {
			t.Fatalf("step %d: %v, %d", i, kept, e)
		}
		if i >= 2 && !slices.Equal(lru.Keys(out), []api.Key{key(uint64(i+98), 7)}) {
			t.Fatalf("step %d: %v is out", i, out)
		}
		l = kept
	}
}
