package queue_test

import (
	"slices"
	"strconv"
	"testing"
	"unsafe"

	"collator/api"
	"collator/queue"
)

// lent is a text in memory that its owner can write into.
func lent(s string) (string, func()) {
	memory := []byte(s)
	return unsafe.String(unsafe.SliceData(memory), len(memory)), func() {
		for i := range memory {
			memory[i] = '#'
		}
	}
}

// bad is what is written into lists that others own.
func bad() api.Task { return api.Task{Req: -99, Slot: -99, Left: "spoilt", Right: "spoilt"} }

// spoil writes into a list, spare room too.
func spoil(l []api.Task) {
	l = l[:cap(l)]
	for i := range l {
		l[i] = bad()
	}
}

// lentTasks is a copy of tasks whose texts and list their owner can write into.
func lentTasks(l []api.Task) ([]api.Task, func()) {
	l = slices.Clone(l)
	var spoils []func()
	for i := range l {
		for _, text := range []*string{&l[i].Left, &l[i].Right} {
			mine, spoil := lent(*text)
			*text = mine
			spoils = append(spoils, spoil)
		}
	}
	return l, func() {
		for _, spoil := range spoils {
			spoil()
		}
		spoil(l)
	}
}

// roomy is a copy of tasks with something written in the room behind their length.
func roomy(l []api.Task, behind int) []api.Task {
	all := make([]api.Task, len(l)+behind)
	for i := range all {
		all[i] = bad()
	}
	copy(all, l)
	return all[:len(l)]
}

// whole is a copy of a list to the end of its memory.
func whole(l []api.Task) []api.Task { return slices.Clone(l[:cap(l)]) }

// several is queues of several kinds, right ones and such as are not right.
func several() []api.Queue {
	l := slices.Concat(both(0), both(4), both(4, tasks()...), both(1, row(1)...), both(4, row(4)...), both(4096, row(6)...), both(3, make([]api.Task, 2)...))
	l = append(l, both(9, task(1, 0), task(2, 1), task(1, 2), task(1, 3), task(3, 4))...)
	l = append(l, both(9, task(1, 0), task(1, 0), task(1, 0))...)
	return append(append(l, both(2, row(3)...)...), both(-1, row(2)...)...)
}

// lists is what is put: nothing, fewer than there is room for, and more.
func lists() [][]api.Task { return [][]api.Task{nil, {}, fresh(1), fresh(3), fresh(12)} }

// reqs is which Reqs are dropped: nobody's, and such as some queues have.
func reqs() []int { return []int{7, 1, 2, 3, 0, 100, 99, 98} }

// calls is each call that answers a queue, by what it is called with, too.
func calls() map[string]func(q api.Queue) api.Queue {
	all := map[string]func(q api.Queue) api.Queue{
		"Take": func(q api.Queue) api.Queue {
			_, now, _ := queue.Take(q)
			return now
		},
		"Close": func(q api.Queue) api.Queue {
			now, _ := queue.Close(q)
			return now
		},
	}
	for i, l := range lists() {
		all["Put of list "+strconv.Itoa(i)] = func(q api.Queue) api.Queue {
			_, now, _ := queue.Put(q, l...)
			return now
		}
	}
	for _, req := range reqs() {
		all["Drop of "+strconv.Itoa(req)] = func(q api.Queue) api.Queue {
			_, now, _ := queue.Drop(q, req)
			return now
		}
	}
	return all
}

func TestWhatIsHandedInIsAsItWasP1P2(t *testing.T) {
	for i, q := range several() {
		for behind := range 4 {
			q.Tasks = roomy(q.Tasks, behind)
			was := whole(q.Tasks)
			asIs := func(what string) {
				t.Helper()
				if !slices.Equal(whole(q.Tasks), was) {
					t.Fatalf("%s of queue %d, %d behind: %v", what, i, behind, whole(q.Tasks))
				}
			}
			queue.Right(q)
			asIs("Right")
			for what, call := range calls() {
				call(q)
				asIs(what)
			}
			for _, l := range lists() {
				l = roomy(l, behind)
				given := whole(l)
				queue.Put(q, l...)
				if asIs("Put"); !slices.Equal(whole(l), given) {
					t.Fatalf("Put of %d into queue %d, %d behind: %v", len(l), i, behind, whole(l))
				}
			}
		}
	}
}

// TestNothingIsKeptP2 writes into what was handed in, when the answer is there.
func TestNothingIsKeptP2(t *testing.T) {
	for i, base := range several() {
		for _, l := range lists() {
			q, l := base, l
			wantN, want, wantE := wantPut(base, l...)
			var spoilQueue, spoilList func()
			q.Tasks, spoilQueue = lentTasks(base.Tasks)
			l, spoilList = lentTasks(l)
			n, now, e := queue.Put(q, l...)
			spoilQueue()
			spoilList()
			if n != wantN || !same(now, want) || e != wantE {
				t.Errorf("Put of %d into queue %d keeps what was handed in: %d, %v, %d", len(l), i, n, now, e)
			}
		}
		for _, req := range reqs() {
			q := base
			var spoilQueue func()
			q.Tasks, spoilQueue = lentTasks(base.Tasks)
			n, now, e := queue.Drop(q, req)
			spoilQueue()
			if wantN, want, wantE := wantDrop(base, req); n != wantN || !same(now, want) || e != wantE {
				t.Errorf("Drop of %d from queue %d keeps what was handed in: %d, %v, %d", req, i, n, now, e)
			}
		}
		q := base
		var spoilQueue func()
		q.Tasks, spoilQueue = lentTasks(base.Tasks)
		one, taken, takeE := queue.Take(q)
		shut, closeE := queue.Close(q)
		spoilQueue()
		if wantOne, want, wantE := wantTake(base); one != wantOne || !same(taken, want) || takeE != wantE {
			t.Errorf("Take of queue %d keeps what was handed in: %v, %v, %d", i, one, taken, takeE)
		}
		if want, wantE := wantClose(base); !same(shut, want) || closeE != wantE {
			t.Errorf("Close of queue %d keeps what was handed in: %v, %d", i, shut, closeE)
		}
	}
}

// texts is all texts of tasks.
func texts(l ...api.Task) []string {
	var all []string
	for _, one := range l {
		all = append(all, one.Left, one.Right)
	}
	return all
}

// meet tells whether two texts have a byte of memory in common.
func meet(a, b string) bool {
	p, q := uintptr(unsafe.Pointer(unsafe.StringData(a))), uintptr(unsafe.Pointer(unsafe.StringData(b)))
	return a != "" && b != "" && p < q+uintptr(len(b)) && q < p+uintptr(len(a))
}

// apart fails if a text of an answer has memory in common with another one of it, or with one that was handed in.
func apart(t *testing.T, what string, answer, given []string) {
	t.Helper()
	for i, text := range answer {
		for _, other := range slices.Concat(given, answer[:i]) {
			if meet(text, other) {
				t.Fatalf("%s: %q is %q, too", what, text, other)
			}
		}
	}
}

func TestTextsAreNobodyElsesMemoryP2(t *testing.T) {
	for _, q := range several() {
		for what, call := range calls() {
			apart(t, what, texts(call(q).Tasks...), texts(q.Tasks...))
		}
		for _, l := range lists() {
			_, now, _ := queue.Put(q, l...)
			apart(t, "Put", texts(now.Tasks...), texts(append(slices.Clone(q.Tasks), l...)...))
		}
		one, now, _ := queue.Take(q)
		apart(t, "Take", texts(append(slices.Clone(now.Tasks), one)...), texts(q.Tasks...))
	}
	// One text that is handed in many times comes out as many.
	text := "the same text"
	twice := api.Task{Left: text, Right: text}
	_, q, _ := queue.Put(open(9, twice), twice, twice)
	apart(t, "Put of one text", texts(q.Tasks...), []string{text})
}

// TestListsAreNobodyElsesMemoryP2 grows the queue that came out, and writes into it, and looks at all others.
func TestListsAreNobodyElsesMemoryP2(t *testing.T) {
	for i, base := range several() {
		for what, call := range calls() {
			want := copied(call(copied(base)))
			q := base
			q.Tasks = roomy(base.Tasks, 2)
			was := whole(q.Tasks)
			one, two := call(q), call(q)
			if _ = append(one.Tasks, bad(), bad(), bad()); !same(one, want) || !same(two, want) {
				t.Fatalf("%s of queue %d: one list has grown into another one: %v, %v", what, i, one, two)
			}
			if spoil(one.Tasks); !same(two, want) {
				t.Fatalf("%s of queue %d: what was written into one answer is in another one: %v", what, i, two)
			}
			if !slices.Equal(whole(q.Tasks), was) {
				t.Fatalf("%s of queue %d: what was written into an answer is in what was handed in: %v", what, i, q)
			}
			if spoil(q.Tasks); !same(two, want) {
				t.Fatalf("%s of queue %d: what was written into what was handed in is in an answer: %v", what, i, two)
			}
		}
	}
}

// TestWhatIsPutIsNobodyElsesMemoryP2 writes into a queue that came out, and looks at the list of what was put, and the other way round.
func TestWhatIsPutIsNobodyElsesMemoryP2(t *testing.T) {
	for _, in := range []int{0, 1, 4} {
		for _, n := range []int{1, 3, 12} {
			l := roomy(fresh(n), 3)
			was := whole(l)
			_, want, _ := wantPut(open(9, row(in)...), l...)
			_, one, _ := queue.Put(open(9, row(in)...), l...)
			_, two, _ := queue.Put(open(9, row(in)...), l...)
			_ = append(one.Tasks, bad(), bad(), bad())
			if spoil(one.Tasks); !slices.Equal(whole(l), was) || !same(two, want) {
				t.Errorf("%d into %d: what was written into the queue is elsewhere: %v, %v", n, in, whole(l), two)
			}
			if spoil(l); !same(two, want) {
				t.Errorf("%d into %d: what was written into what was put is in the queue: %v", n, in, two)
			}
		}
	}
}

// TestPutBehindOneAnswerP2 puts, takes, drops and closes behind one answer in several ways: none of them changes it, or another one.
func TestPutBehindOneAnswerP2(t *testing.T) {
	for i, base := range several() {
		for what, call := range calls() {
			q := call(base)
			if !queue.Right(q) || q.Closed {
				continue
			}
			was, wasWhole := copied(q), whole(q.Tasks)
			var answers, wants []api.Queue
			for n := range 4 {
				_, now, _ := queue.Put(q, fresh(9)[n:]...)
				_, want, _ := wantPut(was, fresh(9)[n:]...)
				answers, wants = append(answers, now), append(wants, want)
			}
			for _, next := range calls() {
				answers, wants = append(answers, next(q)), append(wants, copied(next(copied(was))))
			}
			for j, now := range answers {
				if !same(q, was) || !slices.Equal(whole(q.Tasks), wasWhole) || !same(now, wants[j]) {
					t.Fatalf("behind %s of queue %d: %v, and answer %d is %v, not %v", what, i, q, j, now, wants[j])
				}
				spoil(now.Tasks)
			}
		}
	}
}

// TestNewIsNobodyElsesMemoryP1 puts into two queues that New answers.
func TestNewIsNobodyElsesMemoryP1(t *testing.T) {
	one, _ := queue.New(3)
	two, _ := queue.New(3)
	_ = append(one.Tasks, bad(), bad())
	spoil(one.Tasks)
	_, one, _ = queue.Put(one, row(2)...)
	if !same(two, open(3)) || !same(one, open(3, row(2)...)) {
		t.Errorf("%v, %v", one, two)
	}
	one.Tasks[0] = bad()
	if _, now, _ := queue.Put(two, row(3)...); !same(now, open(3, row(3)...)) || !same(two, open(3)) {
		t.Errorf("%v, %v", now, two)
	}
}

func TestTheSameTwiceP1P2(t *testing.T) {
	for i, q := range several() {
		if queue.Right(q) != queue.Right(q) {
			t.Fatalf("queue %d: Right tells something else", i)
		}
		for what, call := range calls() {
			if !same(call(q), call(q)) {
				t.Fatalf("queue %d: %s tells something else", i, what)
			}
		}
		one, _, e := queue.Take(q)
		if two, _, e2 := queue.Take(q); one != two || e != e2 {
			t.Fatalf("queue %d: Take tells something else", i)
		}
	}
}
