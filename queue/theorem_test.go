package queue_test

import (
	"math"
	"math/rand"
	"testing"

	"collator/api"
	"collator/queue"
)

// entry is what a plain reader would write down of one task that has come in: how often it was taken, and whether it was dropped.
type entry struct {
	one     api.Task
	taken   int
	dropped bool
}

// account is all tasks that came in, in the order in which they did, the room there is, and whether it was closed.
type account struct {
	entries []*entry
	room    int
	closed  bool
}

// waiting is the entries that are still there, who came first ahead.
func (a *account) waiting() []*entry {
	var l []*entry
	for _, x := range a.entries {
		if x.taken == 0 && !x.dropped {
			l = append(l, x)
		}
	}
	return l
}

// queue is what the account has there.
func (a *account) queue() api.Queue {
	q := api.Queue{Room: a.room, Closed: a.closed}
	for _, x := range a.waiting() {
		q.Tasks = append(q.Tasks, x.one)
	}
	return q
}

// call is one of a journey's: n is a count of tasks for Put, and a Req for Drop.
type call struct {
	what string
	n    int
}

// journey is one row of calls, and the account beside it.
type journey struct {
	t     *testing.T
	a     account
	q     api.Queue
	steps []call
	// next numbers the tasks, so that no two of a journey are the same.
	next int
	// What has come of it, so that a test can tell whether there was enough of each kind.
	ins, outs, refused, taken, none, dropped, idle int
}

// setOut is a journey with a new queue.
func setOut(t *testing.T, room int) *journey {
	t.Helper()
	q, e := queue.New(room)
	if e != api.OK {
		t.Fatalf("New(%d): %d", room, e)
	}
	return &journey{t: t, q: q, a: account{room: room}}
}

// note writes down a call, for who looks for what has gone wrong.
func (j *journey) note(what string, n int) { j.steps = append(j.steps, call{what, n}) }

// put puts one task of each of these Reqs.
func (j *journey) put(reqs ...int) {
	j.t.Helper()
	j.note("Put", len(reqs))
	var l []api.Task
	for _, req := range reqs {
		l = append(l, task(req, j.next))
		j.next++
	}
	n, now, e := queue.Put(j.q, l...)
	if j.a.closed {
		if n != 0 || !nothing(now) || e != api.ErrClosed {
			j.t.Fatalf("%v: %d, %v, %d behind the end", j.steps, n, now, e)
		}
		j.refused++
		return
	}
	want := min(len(l), j.a.room-len(j.a.waiting()))
	if n != want || e != api.OK {
		j.t.Fatalf("%v: %d, %d, not %d", j.steps, n, e, want)
	}
	for i, one := range l {
		if i < want {
			j.a.entries = append(j.a.entries, &entry{one: one})
		}
	}
	j.q = now
	j.ins += want
	j.outs += len(l) - want
}

func (j *journey) take() {
	j.t.Helper()
	j.note("Take", 0)
	one, now, e := queue.Take(j.q)
	wait := j.a.waiting()
	if len(wait) == 0 {
		if one != (api.Task{}) || !nothing(now) || e != api.ErrNone {
			j.t.Fatalf("%v: %v, %v, %d of none", j.steps, one, now, e)
		}
		j.none++
		return
	}
	if one != wait[0].one || e != api.OK {
		j.t.Fatalf("%v: %v, %d, but it is %v's turn", j.steps, one, e, wait[0].one)
	}
	wait[0].taken++
	j.q = now
	j.taken++
}

func (j *journey) drop(req int) {
	j.t.Helper()
	j.note("Drop", req)
	n, now, e := queue.Drop(j.q, req)
	want := 0
	for _, x := range j.a.waiting() {
		if x.one.Req == req {
			x.dropped = true
			want++
		}
	}
	if n != want || e != api.OK {
		j.t.Fatalf("%v: %d, %d, not %d", j.steps, n, e, want)
	}
	if j.q = now; want == 0 {
		j.idle++
	}
	j.dropped += want
}

func (j *journey) close() {
	j.t.Helper()
	j.note("Close", 0)
	now, e := queue.Close(j.q)
	if e != api.OK {
		j.t.Fatalf("%v: %d", j.steps, e)
	}
	j.a.closed = true
	j.q = now
}

// same fails if what is there is not what the account has there, or if there is more than there is room for.
func (j *journey) same() {
	j.t.Helper()
	if want := j.a.queue(); !same(j.q, want) || !queue.Right(j.q) || len(j.q.Tasks) > j.a.room {
		j.t.Fatalf("%v: there is %v, not %v", j.steps, j.q, want)
	}
}

// end takes all that is left, and looks at what has become of each task.
func (j *journey) end() {
	j.t.Helper()
	for range len(j.q.Tasks) + 1 {
		j.take()
		j.same()
	}
	for _, x := range j.a.entries {
		if x.dropped == (x.taken > 0) || x.taken > 1 {
			j.t.Fatalf("%v: %v was taken %d times, dropped %v", j.steps, x.one, x.taken, x.dropped)
		}
	}
}

// travel goes so many steps of chance; one in so many closes the queue.
func (j *journey) travel(chance *rand.Rand, steps int, reqs []int, end int) {
	j.t.Helper()
	for range steps {
		req := func() int { return reqs[chance.Intn(len(reqs))] }
		switch chance.Intn(7) {
		case 0, 1:
			l := make([]int, chance.Intn(6))
			for i := range l {
				l[i] = req()
			}
			j.put(l...)
		case 2:
			l := make([]int, chance.Intn(j.a.room+3))
			for i := range l {
				l[i] = req()
			}
			j.put(l...)
		case 3, 4, 5:
			j.take()
		default:
			j.drop(req())
		}
		if j.same(); chance.Intn(end) == 0 {
			j.close()
			j.same()
		}
	}
}

// TestManyRowsBesideAnAccountP3 has little room and much, few Reqs and many, and odd ones.
func TestManyRowsBesideAnAccountP3(t *testing.T) {
	chance := rand.New(rand.NewSource(48))
	var sum journey
	for range 1200 {
		reqs := far()
		chance.Shuffle(len(reqs), func(i, j int) { reqs[i], reqs[j] = reqs[j], reqs[i] })
		j := setOut(t, []int{0, 1, 2, 3, 7, 20, 60, 4096}[chance.Intn(8)])
		if j.a.room == 4096 {
			j.put(make([]int, chance.Intn(2)*4090)...)
			j.travel(chance, 3, reqs[:4], 20)
		} else {
			j.travel(chance, 100, reqs[:1+chance.Intn(len(reqs))], 100)
			j.end()
		}
		sum.ins, sum.outs, sum.refused = sum.ins+j.ins, sum.outs+j.outs, sum.refused+j.refused
		sum.taken, sum.none = sum.taken+j.taken, sum.none+j.none
		sum.dropped, sum.idle = sum.dropped+j.dropped, sum.idle+j.idle
	}
	if sum.ins < 50000 || sum.outs < 50000 || sum.refused < 5000 || sum.taken < 10000 || sum.none < 5000 || sum.dropped < 10000 || sum.idle < 5000 {
		t.Errorf("too few of a kind: %d came in, %d did not, %d were refused, %d taken, %d times none, %d dropped, %d times none",
			sum.ins, sum.outs, sum.refused, sum.taken, sum.none, sum.dropped, sum.idle)
	}
}

// step does the n-th of all steps, and tells how many there are.
func (j *journey) step(n int, reqs []int) int {
	most := 6 + len(reqs)
	switch kind := n % most; kind {
	case 0:
		j.take()
	case 1:
		j.close()
	case 2:
		j.put()
	case 3:
		j.put(reqs[0])
	case 4:
		j.put(reqs[len(reqs)-1])
	case 5:
		j.put(reqs[len(reqs)-1], reqs[0], reqs[0])
	default:
		j.drop(reqs[kind-6])
	}
	return most
}

// TestAllShortRowsP3 goes all rows of five steps, with little room, by few Reqs.
func TestAllShortRowsP3(t *testing.T) {
	const length = 5
	for _, reqs := range [][]int{{0, 1}, {math.MinInt, math.MaxInt}} {
		all := 1
		for range length {
			all *= 6 + len(reqs)
		}
		for room := range 5 {
			for n := range all {
				j := setOut(t, room)
				for range length {
					n /= j.step(n, reqs)
					j.same()
				}
				j.end()
			}
		}
	}
}

// TestInOrderEachOnceP3 puts and takes in turn through queues of many rooms: by the answers alone all tasks that came in come out in order, each once, but those that were dropped.
func TestInOrderEachOnceP3(t *testing.T) {
	chance := rand.New(rand.NewSource(483))
	for round := range 300 {
		room := 1 + chance.Intn(30)
		q, _ := queue.New(room)
		var out []int
		gone := make(map[int]bool)
		in := 0
		for steps := 0; in < 200 || len(q.Tasks) > 0; steps++ {
			if steps > 10000 {
				t.Fatalf("round %d: %d came in, and %d are still there", round, in, len(q.Tasks))
			}
			var l []api.Task
			for i := range chance.Intn(12) {
				// A Slot tells how many came in ahead, if this one comes in.
				l = append(l, task((in+i)%7, in+i))
			}
			if in < 200 {
				n, now, e := queue.Put(q, l...)
				if e != api.OK || len(now.Tasks) > room {
					t.Fatalf("round %d: %d tasks in a room of %d, %d", round, len(now.Tasks), room, e)
				}
				q, in = now, in+n
			}
			if req := chance.Intn(60); req < 7 {
				for _, one := range q.Tasks {
					if one.Req == req {
						gone[one.Slot] = true
					}
				}
				_, q, _ = queue.Drop(q, req)
			}
			for range chance.Intn(12) {
				one, now, e := queue.Take(q)
				if e == api.ErrNone {
					break
				}
				out, q = append(out, one.Slot), now
			}
		}
		for i := range in {
			if gone[i] {
				continue
			}
			if len(out) == 0 || out[0] != i {
				t.Fatalf("round %d: behind the one that came %d-th there is %v", round, i-1, out[:min(3, len(out))])
			}
			out = out[1:]
		}
		if len(out) > 0 {
			t.Fatalf("round %d: %v came out, too", round, out)
		}
	}
}
