package queue_test

import (
	"math"
	"math/rand"
	"slices"
	"testing"

	"collator/api"
	"collator/queue"
)

// TestExampleP2 is the chapter's example.
func TestExampleP2(t *testing.T) {
	q, e := queue.New(2)
	if !same(q, open(2)) || e != api.OK {
		t.Fatal(q, e)
	}
	one, two, three := task(1, 0), task(1, 1), task(2, 0)
	n, q, e := queue.Put(q, one, two, three)
	if n != 2 || !same(q, open(2, one, two)) || e != api.OK {
		t.Fatal(n, q, e)
	}
	got, q, e := queue.Take(q)
	if got != one || !same(q, open(2, two)) || e != api.OK {
		t.Fatal(got, q, e)
	}
	got, q, e = queue.Take(q)
	if got != two || !same(q, open(2)) || e != api.OK {
		t.Fatal(got, q, e)
	}
	got, q, e = queue.Take(q)
	if got != (api.Task{}) || !nothing(q) || e != api.ErrNone {
		t.Fatal(got, q, e)
	}
}

func TestNewP1(t *testing.T) {
	for room := range 4097 {
		if q, e := queue.New(room); q.Room != room || q.Closed || len(q.Tasks) != 0 || e != api.OK {
			t.Errorf("New(%d) = %v, %d", room, q, e)
		}
	}
}

// farRooms is rooms that may not be.
func farRooms() []int {
	return []int{
		-1, -2, -64, -4095, -4096, -4097, math.MinInt, math.MinInt + 1, math.MinInt + 4096, math.MinInt32, -1 << 32, 4096 - 1<<32, 4096 - 1<<16,
		4097, 4098, 4160, 8192, 1 << 16, 1<<16 + 1, 1<<16 + 4096, 1 << 20, 1 << 31, math.MaxInt32, math.MaxUint32, 1 << 32, 1<<32 + 1, 1<<32 + 4096, 1 << 40, 1 << 62, math.MaxInt - 1, math.MaxInt,
	}
}

func TestNewOfRoomsThatMayNotBeP1(t *testing.T) {
	for _, room := range farRooms() {
		if q, e := queue.New(room); !nothing(q) || e != api.ErrArg {
			t.Errorf("New(%d) = %v, %d", room, q, e)
		}
	}
}

// TestRightOfNewP1 is that what New answers is right, and stays so as each of its calls leaves it.
func TestRightOfNewP1(t *testing.T) {
	for room := range 4097 {
		q, _ := queue.New(room)
		if !queue.Right(q) {
			t.Fatalf("New(%d) is not right", room)
		}
		if _, full, e := queue.Put(q, row(min(room+1, 40))...); !queue.Right(full) || e != api.OK {
			t.Fatalf("New(%d) with tasks is not right, %d", room, e)
		}
		if shut, e := queue.Close(q); !queue.Right(shut) || e != api.OK {
			t.Fatalf("New(%d), Closed, is not right, %d", room, e)
		}
	}
}

func TestRightP1(t *testing.T) {
	for _, x := range []struct {
		name string
		room int
		n    int
		want bool
	}{
		{"room 0, no tasks", 0, 0, true},
		{"room 0, one task", 0, 1, false},
		{"room 0, many tasks", 0, 50, false},
		{"room 1, no tasks", 1, 0, true},
		{"room 1, just as many", 1, 1, true},
		{"room 1, one more", 1, 2, false},
		{"room 7, no tasks", 7, 0, true},
		{"room 7, one fewer", 7, 6, true},
		{"room 7, just as many", 7, 7, true},
		{"room 7, one more", 7, 8, false},
		{"room 7, many more", 7, 500, false},
		{"room 4095, just as many", 4095, 4095, true},
		{"room 4095, one more", 4095, 4096, false},
		{"the greatest room, no tasks", 4096, 0, true},
		{"the greatest room, one task", 4096, 1, true},
		{"the greatest room, one fewer", 4096, 4095, true},
		{"the greatest room, just as many", 4096, 4096, true},
		{"the greatest room, one more", 4096, 4097, false},
		{"beyond the greatest room, no tasks", 4097, 0, false},
		{"beyond the greatest room, some tasks", 4097, 9, false},
		{"beyond the greatest room, 4096 tasks", 4097, 4096, false},
		{"beyond the greatest room, just as many", 4097, 4097, false},
		{"beyond the least room, no tasks", -1, 0, false},
		{"beyond the least room, one task", -1, 1, false},
	} {
		for _, q := range both(x.room, row(x.n)...) {
			if got := queue.Right(q); got != x.want || wantRight(q) != x.want {
				t.Errorf("%s, Closed %v: %v, and by the words %v", x.name, q.Closed, got, wantRight(q))
			}
		}
	}
	if !queue.Right(api.Queue{}) {
		t.Error("a queue that is all zero is not right")
	}
}

// TestRightOfFarRoomsP1 has rooms that may not be, with tasks and without.
func TestRightOfFarRoomsP1(t *testing.T) {
	for _, room := range farRooms() {
		for _, n := range []int{0, 1, 9, 4096, 4097} {
			for _, q := range both(room, row(n)...) {
				if queue.Right(q) {
					t.Errorf("room %d, %d tasks, Closed %v: right", room, n, q.Closed)
				}
			}
		}
	}
}

// TestRightOfWhatTasksAreP1 is that a queue is right whatever its tasks have, also the same ones many times, and that what stands behind its tasks is none of them.
func TestRightOfWhatTasksAreP1(t *testing.T) {
	for _, q := range slices.Concat(both(len(odd()), odd()...), both(9, slices.Repeat(row(1), 9)...), both(9, make([]api.Task, 9)...), both(3, row(9)[:3]...)) {
		if !queue.Right(q) {
			t.Errorf("%v is not right", shown(q))
		}
	}
}

// wrongs is queues that are not right.
func wrongs() []api.Queue {
	var l []api.Queue
	for _, room := range farRooms() {
		l = append(append(l, both(room)...), both(room, row(3)...)...)
	}
	for _, room := range []int{0, 1, 2, 3, 64, 4095, 4096} {
		l = append(append(l, both(room, row(room+1)...)...), both(room, row(room+300)...)...)
	}
	return append(l, both(4097, row(4097)...)...)
}

// TestOfQueuesThatAreNotRightP1 is that each call with one tells ErrArg, and nothing else, whatever else it is called with.
func TestOfQueuesThatAreNotRightP1(t *testing.T) {
	for _, q := range wrongs() {
		was := copied(q)
		for _, l := range [][]api.Task{nil, {}, row(1), row(3), fresh(4), make([]api.Task, 2), q.Tasks} {
			if n, now, e := queue.Put(q, l...); n != 0 || !nothing(now) || e != api.ErrArg {
				t.Fatalf("Put of %d into %v: %d, %v, %d", len(l), shown(q), n, shown(now), e)
			}
		}
		if one, now, e := queue.Take(q); one != (api.Task{}) || !nothing(now) || e != api.ErrArg {
			t.Fatalf("Take of %v: %v, %v, %d", shown(q), one, shown(now), e)
		}
		for _, req := range append(far(), 100, 99, 100-len(q.Tasks)) {
			if n, now, e := queue.Drop(q, req); n != 0 || !nothing(now) || e != api.ErrArg {
				t.Fatalf("Drop of %d from %v: %d, %v, %d", req, shown(q), n, shown(now), e)
			}
		}
		if now, e := queue.Close(q); !nothing(now) || e != api.ErrArg {
			t.Fatalf("Close of %v: %v, %d", shown(q), shown(now), e)
		}
		if !same(q, was) {
			t.Fatalf("%v was written into: %v", shown(was), shown(q))
		}
	}
}

func TestPutP2(t *testing.T) {
	a, b, c := task(1, 0), task(2, 0), task(3, 0)
	for _, x := range []struct {
		name string
		q    api.Queue
		l    []api.Task
		n    int
		want api.Queue
	}{
		{"none, without tasks", open(3), nil, 0, open(3)},
		{"none, with some", open(3, a, b), nil, 0, open(3, a, b)},
		{"none, an empty list", open(3, a, b), tasks(), 0, open(3, a, b)},
		{"none, full", open(3, a, b, c), nil, 0, open(3, a, b, c)},
		{"none, room 0", open(0), nil, 0, open(0)},
		{"one, without tasks", open(3), tasks(a), 1, open(3, a)},
		{"fewer, without tasks", open(3), tasks(b, a), 2, open(3, b, a)},
		{"just as many, without tasks", open(3), tasks(c, b, a), 3, open(3, c, b, a)},
		{"one more, without tasks", open(2), tasks(c, b, a), 2, open(2, c, b)},
		{"many more, without tasks", open(1), tasks(c, b, a, b, c, a, b), 1, open(1, c)},
		{"fewer, with some", open(5, b), tasks(c, a), 2, open(5, b, c, a)},
		{"just as many, with some", open(3, b), tasks(c, a), 2, open(3, b, c, a)},
		{"one more, with some", open(3, b, a), tasks(c, a), 1, open(3, b, a, c)},
		{"many more, with some", open(3, b, a), tasks(c, a, a, b, b, c), 1, open(3, b, a, c)},
		{"one, full", open(2, b, a), tasks(c), 0, open(2, b, a)},
		{"many, full", open(2, b, a), tasks(c, c, a, b), 0, open(2, b, a)},
		{"one, room 0", open(0), tasks(a), 0, open(0)},
		{"many, room 0", open(0), tasks(a, b, c), 0, open(0)},
		{"one that is all zero", open(2), tasks(api.Task{}), 1, open(2, api.Task{})},
		{"several that are all zero", open(3, a), make([]api.Task, 3), 2, open(3, a, api.Task{}, api.Task{})},
		{"one that is there", open(3, a), tasks(a), 1, open(3, a, a)},
		{"those that are there", open(4, a, b), tasks(a, b, a), 2, open(4, a, b, a, b)},
		{"the same one several times", open(4, a), tasks(b, b, b, b), 3, open(4, a, b, b, b)},
	} {
		if n, now, e := queue.Put(x.q, x.l...); n != x.n || !same(now, x.want) || e != api.OK {
			t.Errorf("%s: %d, %v, %d", x.name, n, now, e)
		}
	}
}

// TestPutIntoClosedP2 is that nothing comes into a queue that is Closed, be it full or not, also no tasks.
func TestPutIntoClosedP2(t *testing.T) {
	for _, q := range []api.Queue{closed(0), closed(1), closed(3), closed(3, row(1)...), closed(3, row(3)...), closed(4096), closed(4096, row(4095)...), closed(4096, row(4096)...)} {
		for _, l := range [][]api.Task{nil, {}, fresh(1), fresh(3), fresh(9), row(3), make([]api.Task, 1), fresh(5000)} {
			if n, now, e := queue.Put(q, l...); n != 0 || !nothing(now) || e != api.ErrClosed {
				t.Errorf("%d into %v: %d, %v, %d", len(l), shown(q), n, shown(now), e)
			}
		}
	}
}

// TestPutOfEachCountP2 has all small rooms, with all counts of tasks in it, and of those that come.
func TestPutOfEachCountP2(t *testing.T) {
	for room := range 9 {
		for in := range room + 1 {
			for n := range 2 * (room + 2) {
				checkPut(t, open(room, row(in)...), fresh(n)...)
				checkPut(t, closed(room, row(in)...), fresh(n)...)
			}
		}
	}
}

// TestPutOfManyP2 has great rooms, and far more tasks than there is room for.
func TestPutOfManyP2(t *testing.T) {
	for _, room := range []int{63, 64, 65, 255, 256, 257, 1000, 4095, 4096} {
		for _, in := range []int{0, 1, 62, room - 2, room - 1, room} {
			for _, n := range []int{0, 1, room - in - 1, room - in, room - in + 1, room, room + 1, 4096, 4097, 9000} {
				checkPut(t, open(room, row(in)...), fresh(max(0, n))...)
			}
		}
	}
}

// TestPutOfOddTasksP2 is that a task is put, and taken, as it is, whatever its numbers and its texts are.
func TestPutOfOddTasksP2(t *testing.T) {
	all := odd()
	for i, one := range all {
		n, q, e := queue.Put(open(3, all[(i+7)%len(all)]), one, one, one)
		if n != 2 || !same(q, open(3, all[(i+7)%len(all)], one, one)) || e != api.OK {
			t.Fatalf("%#v: %d, %#v, %d", one, n, q.Tasks, e)
		}
		_, q, _ = queue.Take(q)
		got, q, e := queue.Take(q)
		if got != one || !same(q, open(3, one)) || e != api.OK {
			t.Fatalf("%#v: %#v, %#v, %d", one, got, q.Tasks, e)
		}
	}
	n, q, e := queue.Put(open(len(all)), all...)
	if n != len(all) || !slices.Equal(q.Tasks, all) || e != api.OK {
		t.Fatalf("%d, %v, %d", n, shown(q), e)
	}
	check(t, q, far(), all, 0, 1)
}

// TestPutOfItsOwnP2 puts what is there, and what stands behind it in the same memory.
func TestPutOfItsOwnP2(t *testing.T) {
	for room := range 9 {
		for in := range room + 1 {
			all := row(20)
			for from := range 12 {
				for n := range 8 {
					was := slices.Clone(all)
					q := open(room, all[:in]...)
					wantN, want, _ := wantPut(open(room, was[:in]...), was[from:from+n]...)
					if got, now, e := queue.Put(q, all[from:from+n]...); got != wantN || !same(now, want) || e != api.OK {
						t.Fatalf("%d from %d on into %d of %d: %d, %v, %d", n, from, in, room, got, now, e)
					}
					if !slices.Equal(all, was) {
						t.Fatalf("%d from %d on into %d of %d: written into it", n, from, in, room)
					}
				}
			}
		}
	}
}

func TestTakeP2(t *testing.T) {
	a, b, c := task(3, 5), task(2, 6), task(1, 7)
	for _, x := range []struct {
		name string
		room int
		l    []api.Task
	}{
		{"one", 1, tasks(a)},
		{"one, much room", 4096, tasks(a)},
		{"two", 2, tasks(a, b)},
		{"three", 5, tasks(a, b, c)},
		{"one that is all zero", 2, tasks(api.Task{})},
		{"one that is all zero, ahead of others", 4, tasks(api.Task{}, a, b)},
		{"the same one twice", 4, tasks(a, a)},
		{"the same one ahead of others and behind", 4, tasks(a, b, c, a)},
		{"many, full", 900, row(900)},
		{"many", 4096, row(700)},
		{"as many as may be", 4096, row(4096)},
	} {
		for _, q := range both(x.room, x.l...) {
			want := copied(q)
			want.Tasks = want.Tasks[1:]
			if one, now, e := queue.Take(q); one != x.l[0] || !same(now, want) || e != api.OK {
				t.Errorf("%s, Closed %v: %v, %v, %d", x.name, q.Closed, one, shown(now), e)
			}
		}
	}
}

func TestTakeOfNoneP2(t *testing.T) {
	for _, room := range []int{0, 1, 2, 64, 4095, 4096} {
		for _, q := range slices.Concat(both(room), both(room, tasks()...), both(room, row(4)[:0]...)) {
			if one, now, e := queue.Take(q); one != (api.Task{}) || !nothing(now) || e != api.ErrNone {
				t.Errorf("room %d, Closed %v: %v, %v, %d", room, q.Closed, one, now, e)
			}
		}
	}
}

// TestTakeAllP2 takes each task of a queue, to the last one.
func TestTakeAllP2(t *testing.T) {
	for _, n := range []int{1, 2, 3, 50, 700} {
		for _, q := range slices.Concat(both(n, row(n)...), both(4096, row(n)...)) {
			for i, want := range row(n) {
				one, now, e := queue.Take(q)
				if one != want || now.Room != q.Room || now.Closed != q.Closed || !slices.Equal(now.Tasks, row(n)[i+1:]) || e != api.OK {
					t.Fatalf("%d of %d, room %d, Closed %v: %v, %v, %d", i, n, q.Room, q.Closed, one, shown(now), e)
				}
				q = now
			}
			if one, now, e := queue.Take(q); one != (api.Task{}) || !nothing(now) || e != api.ErrNone {
				t.Errorf("behind the last one of %d: %v, %v, %d", n, one, now, e)
			}
		}
	}
}

func TestDropP2(t *testing.T) {
	a, b, c, d := task(1, 0), task(2, 1), task(3, 2), task(2, 3)
	for _, x := range []struct {
		name string
		l    []api.Task
		req  int
		n    int
		want []api.Task
	}{
		{"no tasks", nil, 1, 0, nil},
		{"no tasks, 0", nil, 0, 0, nil},
		{"nobody's", tasks(a, b, c), 4, 0, tasks(a, b, c)},
		{"nobody's, a Slot", tasks(a, c), 2, 0, tasks(a, c)},
		{"nobody's, 0", tasks(a, b, c), 0, 0, tasks(a, b, c)},
		{"nobody's, below 0", tasks(a, b, c), -1, 0, tasks(a, b, c)},
		{"nobody's, far below 0", tasks(a, b, c), -2, 0, tasks(a, b, c)},
		{"nobody's, the least", tasks(a, b, c), math.MinInt, 0, tasks(a, b, c)},
		{"nobody's, the greatest", tasks(a, b, c), math.MaxInt, 0, tasks(a, b, c)},
		{"nobody's, as 1 where bits are lost", tasks(a, b, c), 1<<32 + 1, 0, tasks(a, b, c)},
		{"the first one's", tasks(a, b, c), 1, 1, tasks(b, c)},
		{"one between", tasks(a, b, c), 2, 1, tasks(a, c)},
		{"the last one's", tasks(a, b, c), 3, 1, tasks(a, b)},
		{"the only one's", tasks(a), 1, 1, nil},
		{"many's, with others between", tasks(b, a, d, c, b), 2, 3, tasks(a, c)},
		{"many's, side by side", tasks(a, b, d, b, c), 2, 3, tasks(a, c)},
		{"many's, ahead", tasks(b, d, a, c, a), 2, 2, tasks(a, c, a)},
		{"many's, behind", tasks(c, a, a, b, d), 2, 2, tasks(c, a, a)},
		{"all", tasks(b, d, b, d), 2, 4, nil},
		{"all but the first one", tasks(a, d, b, d), 2, 3, tasks(a)},
		{"all but the last one", tasks(d, b, d, c), 2, 3, tasks(c)},
		{"0, of which there is one", tasks(a, task(0, 9), c), 0, 1, tasks(a, c)},
		{"0, all zero", make([]api.Task, 3), 0, 3, nil},
		{"below 0", tasks(a, task(-1, 9), c, task(-1, 8)), -1, 2, tasks(a, c)},
		{"the least", tasks(task(math.MinInt, 1), a, task(math.MinInt, 2)), math.MinInt, 2, tasks(a)},
		{"the greatest", tasks(a, task(math.MaxInt, 1), task(math.MaxInt-1, 2)), math.MaxInt, 1, tasks(a, task(math.MaxInt-1, 2))},
	} {
		for _, room := range []int{len(x.l), len(x.l) + 1, 4096} {
			for _, q := range both(room, x.l...) {
				want := api.Queue{Room: room, Closed: q.Closed, Tasks: x.want}
				if n, now, e := queue.Drop(q, x.req); n != x.n || !same(now, want) || e != api.OK {
					t.Errorf("%s, room %d, Closed %v: %d, %v, %d", x.name, room, q.Closed, n, now, e)
				}
			}
		}
	}
}

// TestDropAtEachPlaceP2 has all rows of up to seven tasks of two Reqs.
func TestDropAtEachPlaceP2(t *testing.T) {
	for _, reqs := range [][2]int{{0, 1}, {1, -1}, {math.MinInt, math.MaxInt}, {1, 1<<32 + 1}} {
		for n := range 8 {
			for bits := range 1 << n {
				var l []api.Task
				for i := range n {
					l = append(l, task(reqs[bits>>i&1], i))
				}
				for _, q := range both(n+bits%2, l...) {
					checkDrop(t, q, reqs[0])
					checkDrop(t, q, reqs[1])
				}
			}
		}
	}
}

// TestDropOfFarReqsP2 drops each far number from tasks of all of them.
func TestDropOfFarReqsP2(t *testing.T) {
	for _, q := range slices.Concat(both(4096, odd()...), both(len(odd()), odd()...)) {
		for _, req := range append(far(), 3, -3, math.MinInt+2, math.MaxInt-2) {
			checkDrop(t, q, req)
		}
	}
}

// TestDropOfManyP2 has many tasks of each Req, in a full queue.
func TestDropOfManyP2(t *testing.T) {
	for _, some := range []int{1, 2, 3, 1000} {
		var l []api.Task
		for i := range 4096 {
			l = append(l, task(i*i%some, i))
		}
		for _, q := range both(4096, l...) {
			for req := range min(some+1, 30) {
				checkDrop(t, q, req)
			}
		}
	}
}

func TestCloseP2(t *testing.T) {
	for _, room := range []int{0, 1, 2, 3, 64, 4095, 4096} {
		for _, n := range []int{0, 1, 2, room - 1, room} {
			l := row(min(max(0, n), room))
			want := closed(room, l...)
			for _, q := range both(room, l...) {
				now, e := queue.Close(q)
				if !same(now, want) || e != api.OK {
					t.Errorf("room %d, %d tasks, Closed %v: %v, %d", room, len(l), q.Closed, shown(now), e)
				}
				if again, e := queue.Close(now); !same(again, want) || e != api.OK {
					t.Errorf("room %d, %d tasks, once more: %v, %d", room, len(l), shown(again), e)
				}
			}
		}
	}
}

// TestBehindCloseP2 is that of a queue that is Closed all may be taken and dropped, and that it stays Closed.
func TestBehindCloseP2(t *testing.T) {
	_, q, _ := queue.Put(open(6), task(1, 0), task(2, 1), task(1, 2), task(3, 3))
	q, _ = queue.Close(q)
	if n, now, e := queue.Put(q, task(4, 4)); n != 0 || !nothing(now) || e != api.ErrClosed {
		t.Fatal(n, now, e)
	}
	one, q, e := queue.Take(q)
	if one != task(1, 0) || !same(q, closed(6, task(2, 1), task(1, 2), task(3, 3))) || e != api.OK {
		t.Fatal(one, q, e)
	}
	n, q, e := queue.Drop(q, 1)
	if n != 1 || !same(q, closed(6, task(2, 1), task(3, 3))) || e != api.OK {
		t.Fatal(n, q, e)
	}
	_, q, _ = queue.Take(q)
	_, q, e = queue.Take(q)
	if !same(q, closed(6)) || e != api.OK {
		t.Fatal(q, e)
	}
	if n, now, e := queue.Put(q); n != 0 || !nothing(now) || e != api.ErrClosed {
		t.Fatal(n, now, e)
	}
}

// TestAllSmallQueuesP1P2 holds all queues of small rooms, of up to three tasks of some odd ones, right and not right, against the chapter's words.
func TestAllSmallQueuesP1P2(t *testing.T) {
	some := tasks(api.Task{}, task(0, 1), task(1, 0), task(-1, 0), api.Task{Req: 1, Right: "a"})
	rows := [][]api.Task{nil}
	for begin := 0; len(rows[len(rows)-1]) < 3; {
		end := len(rows)
		for _, l := range rows[begin:end] {
			for _, one := range some {
				rows = append(rows, append(slices.Clone(l), one))
			}
		}
		begin = end
	}
	for _, l := range rows {
		for _, room := range []int{-2, -1, 0, 1, 2, 3, 4, 4096, 4097} {
			for _, q := range both(room, l...) {
				check(t, q, []int{0, 1, -1, 2}, fresh(4), 0, 1, 2, 3, 4)
			}
		}
	}
}

// TestQueuesOfChanceP1P2 has rooms and tasks of chance, most of them right.
func TestQueuesOfChanceP1P2(t *testing.T) {
	chance := rand.New(rand.NewSource(16))
	all := odd()
	right := 0
	for range 3000 {
		chance.Shuffle(len(all), func(i, j int) { all[i], all[j] = all[j], all[i] })
		room := chance.Intn(40)
		q := api.Queue{Room: room, Closed: chance.Intn(3) == 0, Tasks: all[:max(0, room+1-chance.Intn(12))]}
		if chance.Intn(20) == 0 {
			q.Room = farRooms()[chance.Intn(len(farRooms()))]
		}
		if wantRight(q) {
			right++
		}
		check(t, q, far(), all[100:200], 0, 1, chance.Intn(20), chance.Intn(100))
	}
	if right < 2000 || right > 2900 {
		t.Errorf("%d are right", right)
	}
}

// TestFarTooManyP1P2 has so many tasks, in the queue and ahead of it, that who copies them all, or goes through them for each one, takes long.
func TestFarTooManyP1P2(t *testing.T) {
	many := make([]api.Task, 1<<21)
	for i := range many {
		many[i].Req = i
	}
	for _, q := range both(4096, many...) {
		_, _, e := queue.Put(q, many...)
		_, _, f := queue.Take(q)
		_, _, g := queue.Drop(q, 5)
		_, h := queue.Close(q)
		if queue.Right(q) || e != api.ErrArg || f != api.ErrArg || g != api.ErrArg || h != api.ErrArg {
			t.Errorf("Closed %v: %d, %d, %d, %d", q.Closed, e, f, g, h)
		}
	}
	n, q, e := queue.Put(open(4096, many[:96]...), many[96:]...)
	if n != 4000 || !slices.Equal(q.Tasks, many[:4096]) || e != api.OK {
		t.Errorf("%d, %d, %d", n, len(q.Tasks), e)
	}
}
