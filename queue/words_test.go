package queue_test

import (
	"math"
	"slices"
	"testing"

	"collator/api"
	"collator/queue"
)

// task is a task that is written down in one line; its texts tell its numbers.
func task(req, slot int) api.Task {
	return api.Task{Req: req, Slot: slot, Left: "left " + name(slot), Right: "right " + name(slot)}
}

func name(n int) string { return string(rune(0x4e00 + n%5000)) }

func tasks(l ...api.Task) []api.Task { return l }

func open(room int, l ...api.Task) api.Queue { return api.Queue{Room: room, Tasks: l} }

func closed(room int, l ...api.Task) api.Queue {
	return api.Queue{Room: room, Closed: true, Tasks: l}
}

// both is such a queue, open and closed.
func both(room int, l ...api.Task) []api.Queue {
	return []api.Queue{open(room, l...), closed(room, l...)}
}

// row is so many tasks of unlike Reqs and Slots, neither of which goes up.
func row(n int) []api.Task {
	var l []api.Task
	for i := range n {
		l = append(l, task(100-i, 1000-3*i))
	}
	return l
}

// fresh is so many tasks that are in no row.
func fresh(n int) []api.Task {
	var l []api.Task
	for i := range n {
		l = append(l, task(-1-i, 2000-i))
	}
	return l
}

// copied is a queue that shares no list with the one that is handed in.
func copied(q api.Queue) api.Queue {
	q.Tasks = slices.Clone(q.Tasks)
	return q
}

// same tells whether queues are the same, where a list that is nil is one without elements.
func same(q, r api.Queue) bool {
	return q.Room == r.Room && q.Closed == r.Closed && slices.Equal(q.Tasks, r.Tasks)
}

// nothing tells whether a queue is all zero.
func nothing(q api.Queue) bool { return q.Room == 0 && !q.Closed && len(q.Tasks) == 0 }

// wantRight is the chapter's words of a queue that is right.
func wantRight(q api.Queue) bool {
	if q.Room < 0 || q.Room > 4096 {
		return false
	}
	for i := range q.Tasks {
		if i >= q.Room {
			return false
		}
	}
	return true
}

// wantPut is promise P2's words of Put, task by task.
func wantPut(q api.Queue, l ...api.Task) (int, api.Queue, api.Errno) {
	if !wantRight(q) {
		return 0, api.Queue{}, 1
	}
	if q.Closed {
		return 0, api.Queue{}, 13
	}
	n := 0
	q = copied(q)
	for _, one := range l {
		if len(q.Tasks) < q.Room {
			q.Tasks = append(q.Tasks, one)
			n++
		}
	}
	return n, q, 0
}

// wantTake is promise P2's words of Take.
func wantTake(q api.Queue) (api.Task, api.Queue, api.Errno) {
	if !wantRight(q) {
		return api.Task{}, api.Queue{}, 1
	}
	q = copied(q)
	for _, one := range q.Tasks {
		q.Tasks = slices.Delete(q.Tasks, 0, 1)
		return one, q, 0
	}
	return api.Task{}, api.Queue{}, 10
}

// wantDrop is promise P2's words of Drop.
func wantDrop(q api.Queue, req int) (int, api.Queue, api.Errno) {
	if !wantRight(q) {
		return 0, api.Queue{}, 1
	}
	n := 0
	for _, one := range q.Tasks {
		if one.Req == req {
			n++
		}
	}
	q = copied(q)
	q.Tasks = slices.DeleteFunc(q.Tasks, func(one api.Task) bool { return one.Req == req })
	return n, q, 0
}

// wantClose is promise P2's words of Close.
func wantClose(q api.Queue) (api.Queue, api.Errno) {
	if !wantRight(q) {
		return api.Queue{}, 1
	}
	return api.Queue{Room: q.Room, Closed: true, Tasks: slices.Clone(q.Tasks)}, 0
}

// shown is a queue as a failing test tells it: of a long one only the ends.
func shown(q api.Queue) any {
	if n := len(q.Tasks); n > 20 {
		return []any{q.Room, q.Closed, q.Tasks[:3], "...", n, "...", q.Tasks[n-3:]}
	}
	return q
}

// checkPut holds Put against the chapter's words, and what was handed in against what it was.
func checkPut(t *testing.T, q api.Queue, l ...api.Task) {
	t.Helper()
	was, given := copied(q), slices.Clone(l)
	n, now, e := queue.Put(q, l...)
	if wantN, want, wantE := wantPut(was, given...); n != wantN || !same(now, want) || e != wantE {
		t.Fatalf("Put of %d into %v: %d, %v, %d, not %d, %v, %d", len(l), shown(was), n, shown(now), e, wantN, shown(want), wantE)
	}
	if !same(q, was) || !slices.Equal(l, given) {
		t.Fatalf("Put of %d into %v has written into it: %v", len(l), shown(was), shown(q))
	}
}

// checkTake holds Take against the chapter's words, and what was handed in against what it was.
func checkTake(t *testing.T, q api.Queue) {
	t.Helper()
	was := copied(q)
	one, now, e := queue.Take(q)
	if wantOne, want, wantE := wantTake(was); one != wantOne || !same(now, want) || e != wantE {
		t.Fatalf("Take of %v: %v, %v, %d, not %v, %v, %d", shown(was), one, shown(now), e, wantOne, shown(want), wantE)
	}
	if !same(q, was) {
		t.Fatalf("Take of %v has written into it: %v", shown(was), shown(q))
	}
}

// checkDrop holds Drop against the chapter's words, and what was handed in against what it was.
func checkDrop(t *testing.T, q api.Queue, req int) {
	t.Helper()
	was := copied(q)
	n, now, e := queue.Drop(q, req)
	if wantN, want, wantE := wantDrop(was, req); n != wantN || !same(now, want) || e != wantE {
		t.Fatalf("Drop of %d from %v: %d, %v, %d, not %d, %v, %d", req, shown(was), n, shown(now), e, wantN, shown(want), wantE)
	}
	if !same(q, was) {
		t.Fatalf("Drop of %d from %v has written into it: %v", req, shown(was), shown(q))
	}
}

// checkClose holds Close against the chapter's words, and what was handed in against what it was.
func checkClose(t *testing.T, q api.Queue) {
	t.Helper()
	was := copied(q)
	now, e := queue.Close(q)
	if want, wantE := wantClose(was); !same(now, want) || e != wantE {
		t.Fatalf("Close of %v: %v, %d, not %v, %d", shown(was), shown(now), e, shown(want), wantE)
	}
	if !same(q, was) {
		t.Fatalf("Close of %v has written into it: %v", shown(was), shown(q))
	}
}

// check holds all calls against the chapter's words, by all of these Reqs, and by each count of these tasks.
func check(t *testing.T, q api.Queue, reqs []int, l []api.Task, counts ...int) {
	t.Helper()
	if queue.Right(q) != wantRight(q) {
		t.Fatalf("Right of %v: %v", shown(q), queue.Right(q))
	}
	for _, n := range counts {
		checkPut(t, q, l[:n]...)
	}
	for _, req := range reqs {
		checkDrop(t, q, req)
	}
	checkTake(t, q)
	checkClose(t, q)
}

// far is numbers around 0, at both ends of what an int may be, and such as come to one number where bits are lost.
func far() []int {
	return []int{
		0, -1, 1, -2, 2, math.MinInt, math.MinInt + 1, math.MaxInt, math.MaxInt - 1,
		math.MinInt32, math.MaxInt32, math.MaxUint32, 1 << 32, -1 << 32, 1<<32 + 1, 1 << 16, 1 << 8, -1 << 8, 255, 64, 63,
	}
}

// strange is texts of all kinds.
func strange() []string {
	return []string{
		"", "a", "b", "ab", "\n", "a\n", "a\r\n", "\n\n", " ", "a ", " a", "\x00", "a\x00", "\x00a", "\xff", "\xfe", "\xc3\x28", "\xef\xbf\xbd",
		"\u00e9", "e\u0301", "A", "=1;", "0", "00", "-1", "a/b", "..", "many\nlines\nof\na\ntext\n",
	}
}

// odd is tasks of far numbers and strange texts, of which no two are the same.
func odd() []api.Task {
	var l []api.Task
	for i, n := range far() {
		for j, text := range strange() {
			other := strange()[(i+j)%len(strange())]
			l = append(l, api.Task{Req: n, Slot: far()[(i*3+j)%len(far())], Left: text, Right: other})
		}
	}
	return l
}
