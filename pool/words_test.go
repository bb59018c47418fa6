package pool_test

import (
	"slices"
	"testing"

	"collator/api"
	"collator/cache"
	"collator/flight"
	"collator/myers"
	"collator/pool"
	"collator/queue"
	"collator/rows"
	"collator/script"
)

// What a worker is about, by the chapter's numbers.
const (
	idle    = 0
	looking = 1
	filling = 2
	waiting = 3
	putting = 4
	telling = 5
	gone    = 6
)

// task is a task that is written down in one line.
func task(req, slot int, left, right string) api.Task {
	return api.Task{Req: req, Slot: slot, Left: left, Right: right}
}

// lines is a text of one line for each sign.
func lines(signs string) string {
	text := ""
	for _, sign := range signs {
		text += string(sign) + "\n"
	}
	return text
}

// diff is chapter 5's Diff of a task's Left and Right, as lines.
func diff(x api.Task) []api.Edit { return myers.Diff(rows.Split(x.Left), rows.Split(x.Right)) }

// result is what is told of a task.
func result(x api.Task, s ...api.Edit) api.Result {
	return api.Result{Req: x.Req, Slot: x.Slot, Script: s}
}

func by(s ...api.Edit) []api.Edit { return s }

func keep(n int) api.Edit { return api.Edit{Op: 1, N: n} }

func cut(n int) api.Edit { return api.Edit{Op: 2, N: n} }

func add(l ...string) api.Edit { return api.Edit{Op: 3, N: len(l), Lines: l} }

func worker(state int, x api.Task, s ...api.Edit) api.Worker {
	return api.Worker{State: state, Task: x, Script: s}
}

// dropped is such a worker, whose task is for nobody any more.
func dropped(w api.Worker) api.Worker {
	w.Dropped = true
	return w
}

// fill is that a task's texts are being found out.
func fill(x api.Task, by int, waiting ...int) api.Fill {
	return api.Fill{Left: x.Left, Right: x.Right, By: by, Waiting: waiting}
}

func fills(l ...api.Fill) []api.Fill { return l }

// made is a pool that New tells.
func made(t *testing.T, workers, room, parts, slots, width int) api.Pool {
	t.Helper()
	p, e := pool.New(workers, room, parts, slots, width)
	if e != api.OK || len(p.Workers) != workers {
		t.Fatalf("New(%d, %d, %d, %d, %d): %d workers, %d", workers, room, parts, slots, width, len(p.Workers), e)
	}
	return p
}

// around is a pool of these workers and fills, with room for some tasks and slots.
func around(f []api.Fill, workers ...api.Worker) api.Pool {
	return api.Pool{Workers: workers, Queue: api.Queue{Room: 9}, Cache: api.Cache{Width: 64, Room: 9, Parts: make([][]api.Slot, 2)}, Flight: f}
}

// rule is one of the things that make a pool right.
type rule struct {
	name  string
	holds func(p api.Pool) bool
}

// The names of the rules.
const (
	soMany      = "how many Workers"
	rightQueue  = "the Queue"
	rightCache  = "the Cache"
	rightFlight = "the Flight"
	rightState  = "a State"
	rightScript = "a Script"
	noScript    = "a Script of who may have none"
	noTask      = "a Task of who may have none"
	noDropped   = "Dropped of who may not be"
	isBy        = "who is a By"
	doesWait    = "who waits"
	theTexts    = "the texts of who is there"
	noOthers    = "a number that is no worker's"
)

// rules is the chapter's words of what is right, one by one.
func rules() []rule {
	return []rule{
		{soMany, func(p api.Pool) bool { return len(p.Workers) >= 1 && len(p.Workers) <= 64 }},
		{rightQueue, func(p api.Pool) bool { return queue.Right(p.Queue) }},
		{rightCache, func(p api.Pool) bool { return cache.Right(p.Cache) }},
		{rightFlight, func(p api.Pool) bool { return flight.Right(p.Flight) }},
		{rightState, ofEach(func(_ api.Pool, _ int, w api.Worker) bool { return w.State >= 0 && w.State <= 6 })},
		{rightScript, ofEach(func(_ api.Pool, _ int, w api.Worker) bool { return script.Right(w.Script) })},
		{noScript, ofEach(func(_ api.Pool, _ int, w api.Worker) bool {
			return len(w.Script) == 0 || w.State == putting || w.State == telling
		})},
		{noTask, ofEach(func(_ api.Pool, _ int, w api.Worker) bool {
			return w.State != idle && w.State != gone || w.Task == api.Task{}
		})},
		{noDropped, ofEach(func(_ api.Pool, _ int, w api.Worker) bool {
			return w.State != idle && w.State != gone || !w.Dropped
		})},
		{isBy, ofEach(func(p api.Pool, i int, w api.Worker) bool {
			is := slices.ContainsFunc(p.Flight, func(f api.Fill) bool { return f.By == i })
			return is == (w.State == filling || w.State == putting)
		})},
		{doesWait, ofEach(func(p api.Pool, i int, w api.Worker) bool {
			does := slices.ContainsFunc(p.Flight, func(f api.Fill) bool { return slices.Contains(f.Waiting, i) })
			return does == (w.State == waiting)
		})},
		{theTexts, ofEach(func(p api.Pool, i int, w api.Worker) bool {
			return !slices.ContainsFunc(p.Flight, func(f api.Fill) bool {
				return slices.Contains(whoIsAt(f), i) && (f.Left != w.Task.Left || f.Right != w.Task.Right)
			})
		})},
		{noOthers, func(p api.Pool) bool {
			return !slices.ContainsFunc(p.Flight, func(f api.Fill) bool {
				return slices.ContainsFunc(whoIsAt(f), func(who int) bool { return who < 0 || who >= len(p.Workers) })
			})
		}},
	}
}

// whoIsAt is all numbers of a fill.
func whoIsAt(f api.Fill) []int { return slices.Concat([]int{f.By}, f.Waiting) }

// ofEach is what holds where it holds of each worker.
func ofEach(holds func(p api.Pool, i int, w api.Worker) bool) func(p api.Pool) bool {
	return func(p api.Pool) bool {
		for i, w := range p.Workers {
			if !holds(p, i, w) {
				return false
			}
		}
		return true
	}
}

// broken is the names of the rules that don't hold.
func broken(p api.Pool) []string {
	var names []string
	for _, r := range rules() {
		if !r.holds(p) {
			names = append(names, r.name)
		}
	}
	return names
}

func wantRight(p api.Pool) bool { return len(broken(p)) == 0 }

// wantBusy is promise S1's words of Busy.
func wantBusy(p api.Pool) int {
	n := len(p.Workers)
	for _, w := range p.Workers {
		if w.State == idle || w.State == gone {
			n--
		}
	}
	return n
}

// wantAdd is promise S2's words of Add, task by task.
func wantAdd(p api.Pool, l ...api.Task) (int, api.Pool, api.Errno) {
	if !wantRight(p) {
		return 0, api.Pool{}, 1
	}
	if p.Queue.Closed {
		return 0, api.Pool{}, 13
	}
	p, n := copied(p), 0
	for _, x := range l {
		if len(p.Queue.Tasks) < p.Queue.Room {
			p.Queue.Tasks = append(p.Queue.Tasks, x)
			n++
		}
	}
	return n, p, 0
}

// wantClose is promise S2's words of Close.
func wantClose(p api.Pool) (api.Pool, api.Errno) {
	if !wantRight(p) {
		return api.Pool{}, 1
	}
	p = copied(p)
	p.Queue.Closed = true
	return p, 0
}

// wantCollect is promise S2's words of Collect.
func wantCollect(p api.Pool) ([]api.Result, api.Pool, api.Errno) {
	if !wantRight(p) {
		return nil, api.Pool{}, 1
	}
	p = copied(p)
	out := p.Out
	p.Out = nil
	return out, p, 0
}

// wantDrop is promise S2's words of Drop.
func wantDrop(p api.Pool, req int) (api.Pool, api.Errno) {
	if !wantRight(p) {
		return api.Pool{}, 1
	}
	p = copied(p)
	var stay []api.Task
	for _, x := range p.Queue.Tasks {
		if x.Req != req {
			stay = append(stay, x)
		}
	}
	p.Queue.Tasks = stay
	for i, w := range p.Workers {
		if w.State != idle && w.State != gone && w.Task.Req == req {
			p.Workers[i].Dropped = true
		}
	}
	var out []api.Result
	for _, r := range p.Out {
		if r.Req != req {
			out = append(out, r)
		}
	}
	p.Out = out
	return p, 0
}

// wantStep is promise S3's words.
func wantStep(p api.Pool, w int) (bool, api.Pool, api.Errno) {
	if !wantRight(p) {
		return false, api.Pool{}, 1
	}
	if w < 0 || w >= len(p.Workers) {
		return false, api.Pool{}, 10
	}
	p = copied(p)
	me := p.Workers[w]
	x := me.Task
	switch me.State {
	case idle:
		if len(p.Queue.Tasks) > 0 {
			me = worker(looking, p.Queue.Tasks[0])
			p.Queue.Tasks = p.Queue.Tasks[1:]
			break
		}
		if !p.Queue.Closed {
			return false, p, 0
		}
		me = worker(gone, api.Task{})
	case looking:
		val, now, e := cache.Get(p.Cache, x.Left, x.Right)
		p.Cache = now
		if e == 0 {
			if s, e := script.Decode(val); e == 0 {
				me.State, me.Script = telling, s
				break
			}
		}
		first, f, e := flight.Begin(p.Flight, x.Left, x.Right, w)
		if e != 0 {
			panic("Begin by who is there already")
		}
		p.Flight, me.State = f, waiting
		if first {
			me.State = filling
		}
	case filling:
		me.State, me.Script = putting, diff(x)
	case putting:
		return true, wantPut(p, w), 0
	case waiting, gone:
		return false, p, 0
	case telling:
		if !me.Dropped {
			p.Out = append(p.Out, result(x, me.Script...))
		}
		me = worker(idle, api.Task{})
	}
	p.Workers[w] = me
	return true, p, 0
}

// wantPut is what a worker does that is Putting.
func wantPut(p api.Pool, w int) api.Pool {
	me := p.Workers[w]
	val, e := script.Encode(me.Script)
	if e != 0 {
		panic("a Script that is not right")
	}
	p.Cache, e = cache.Put(p.Cache, me.Task.Left, me.Task.Right, val)
	if e != 0 {
		panic("a Cache that is not right")
	}
	told, f, e := flight.Done(p.Flight, w)
	if e != 0 {
		panic("Done by who is no By")
	}
	p.Flight = f
	for _, who := range append(told, w) {
		p.Workers[who].State, p.Workers[who].Script = telling, me.Script
	}
	return p
}

// asked is what the calls are called with.
type asked struct {
	lists   [][]api.Task
	reqs    []int
	workers []int
}

// check holds all calls against the chapter's words, and what was handed in against what it was.
func check(t *testing.T, p api.Pool, a asked) {
	t.Helper()
	was, shown := copied(p), written(p)
	fails := func(what string, with any) {
		t.Helper()
		t.Fatalf("%s of %v, of %s", what, with, shown)
	}
	if pool.Right(p) != wantRight(was) || pool.Busy(p) != wantBusy(was) {
		fails("Right or Busy", nil)
	}
	for _, l := range a.lists {
		n, now, e := pool.Add(p, l...)
		if wantN, want, wantE := wantAdd(was, l...); n != wantN || !same(now, want) || e != wantE {
			fails("Add", l)
		}
	}
	for _, w := range a.workers {
		did, now, e := pool.Step(p, w)
		if wantDid, want, wantE := wantStep(was, w); did != wantDid || !same(now, want) || e != wantE {
			fails("Step", w)
		}
	}
	for _, req := range a.reqs {
		now, e := pool.Drop(p, req)
		if want, wantE := wantDrop(was, req); !same(now, want) || e != wantE {
			fails("Drop", req)
		}
	}
	out, now, e := pool.Collect(p)
	if wantOut, want, wantE := wantCollect(was); !same(out, wantOut) || !same(now, want) || e != wantE {
		fails("Collect", nil)
	}
	shut, e := pool.Close(p)
	if want, wantE := wantClose(was); !same(shut, want) || e != wantE {
		fails("Close", nil)
	}
	if written(p) != shown {
		fails("what was handed in was written into", written(p))
	}
}
