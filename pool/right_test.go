package pool_test

import (
	"math"
	"slices"
	"testing"

	"collator/api"
	"collator/pool"
)

// seven is a pool with one worker of each State, each at the place of its State's number.
func seven() api.Pool {
	x, y := of(1, 2, aTask()), of(3, 4, bTask())
	return around(fills(fill(x, filling, waiting), fill(y, putting)),
		worker(idle, api.Task{}), worker(looking, x), worker(filling, x), worker(waiting, x),
		worker(putting, y, add("c\n")), worker(telling, x, keep(1)), worker(gone, api.Task{}))
}

// wrongScripts is scripts that may not be.
func wrongScripts() [][]api.Edit {
	return [][]api.Edit{
		by(api.Edit{}), by(api.Edit{Op: 4, N: 1}), by(api.Edit{Op: 1}), by(keep(1), keep(1)), by(add("a"), cut(1)), by(add()), by(keep(1<<20 + 1)),
		by(api.Edit{Op: 3, N: 2, Lines: []string{"a"}}), by(api.Edit{Op: 2, N: 1, Lines: []string{"a"}}), by(keep(1), cut(1), api.Edit{Op: -1, N: 1}),
	}
}

// rightScripts is scripts that may be, whatever they are of.
func rightScripts() [][]api.Edit {
	return [][]api.Edit{nil, {}, by(keep(1)), by(cut(1 << 20)), by(cut(1), add("", "a\nb")), by(add("x"), keep(7), cut(2))}
}

// manyWorkers is so many that are Idle.
func manyWorkers(n int) []api.Worker { return make([]api.Worker, n) }

func TestRightS1(t *testing.T) {
	turned := task(0, 0, lines("b"), lines("ab"))
	for _, x := range []struct {
		name string
		do   func(p *api.Pool)
		want bool
	}{
		{"one of each State", func(*api.Pool) {}, true},
		{"no workers", func(p *api.Pool) { *p = around(nil) }, false},
		{"one worker", func(p *api.Pool) { *p = around(nil, manyWorkers(1)...) }, true},
		{"64 workers", func(p *api.Pool) { p.Workers = append(p.Workers, manyWorkers(57)...) }, true},
		{"65 workers", func(p *api.Pool) { p.Workers = append(p.Workers, manyWorkers(58)...) }, false},
		{"1000 workers", func(p *api.Pool) { p.Workers = append(p.Workers, manyWorkers(993)...) }, false},
		{"all zero", func(p *api.Pool) { *p = api.Pool{} }, false},
		{"a Room of the queue below 0", func(p *api.Pool) { p.Queue.Room = -1 }, false},
		{"a Room of the queue of 0", func(p *api.Pool) { p.Queue.Room = 0 }, true},
		{"the greatest Room of the queue", func(p *api.Pool) { p.Queue.Room = 4096 }, true},
		{"a Room of the queue above 4096", func(p *api.Pool) { p.Queue.Room = 4097 }, false},
		{"a queue that is full", func(p *api.Pool) { p.Queue.Tasks = make([]api.Task, 9) }, true},
		{"a queue with one task more", func(p *api.Pool) { p.Queue.Tasks = make([]api.Task, 10) }, false},
		{"a queue that is Closed", func(p *api.Pool) { p.Queue.Closed = true }, true},
		{"a queue that is Closed, with tasks", func(p *api.Pool) { p.Queue = api.Queue{Room: 9, Closed: true, Tasks: make([]api.Task, 9)} }, true},
		{"a cache that is all zero", func(p *api.Pool) { p.Cache = api.Cache{} }, false},
		{"a cache's Width below 0", func(p *api.Pool) { p.Cache.Width = -1 }, false},
		{"a cache's Width of 0", func(p *api.Pool) { p.Cache.Width = 0 }, true},
		{"a cache's Width above 64", func(p *api.Pool) { p.Cache.Width = 65 }, false},
		{"a cache's Room below 0", func(p *api.Pool) { p.Cache.Room = -1 }, false},
		{"a cache's Room above 4096", func(p *api.Pool) { p.Cache.Room = 4097 }, false},
		{"17 parts of a cache", func(p *api.Pool) { p.Cache.Parts = make([][]api.Slot, 17) }, false},
		{"a cache's count below 0", func(p *api.Pool) { p.Cache.Clashes = -1 }, false},
		{"a cache's count at its end", func(p *api.Pool) { p.Cache.Hits = 1 << 40 }, true},
		{"a cache's count beyond its end", func(p *api.Pool) { p.Cache.Evicted = 1<<40 + 1 }, false},
		{"a slot", func(p *api.Pool) { p.Cache.Parts = [][]api.Slot{{someSlot()}} }, true},
		{"a slot of another Key", func(p *api.Pool) { p.Cache.Parts = [][]api.Slot{{{Left: "x"}}} }, false},
		{"a slot twice", func(p *api.Pool) { p.Cache.Parts = [][]api.Slot{{someSlot(), someSlot()}} }, false},
		{"a Val that can't be read", func(p *api.Pool) { p.Cache.Parts = [][]api.Slot{{junkSlot()}} }, true},
		{"Out with anything", func(p *api.Pool) {
			p.Out = []api.Result{{}, {Req: -1, Slot: -1, Script: by(api.Edit{Op: 9})}, {}}
		}, true},
		{"a State below 0", func(p *api.Pool) { p.Workers[0].State = -1 }, false},
		{"a State above 6", func(p *api.Pool) { p.Workers[0].State = 7 }, false},
		{"the least State", func(p *api.Pool) { p.Workers[1].State = math.MinInt }, false},
		{"the greatest State", func(p *api.Pool) { p.Workers[1].State = math.MaxInt }, false},
		{"a State that is Idle where bits are lost", func(p *api.Pool) { p.Workers[0].State = 1 << 32 }, false},
		{"a Task with Idle", func(p *api.Pool) { p.Workers[idle].Task.Req = 1 }, false},
		{"a Task with Gone", func(p *api.Pool) { p.Workers[gone].Task.Right = "x" }, false},
		{"Dropped with Idle", func(p *api.Pool) { p.Workers[idle].Dropped = true }, false},
		{"Dropped with Gone", func(p *api.Pool) { p.Workers[gone].Dropped = true }, false},
		{"a Script with Idle", func(p *api.Pool) { p.Workers[idle].Script = by(keep(1)) }, false},
		{"a Script with Looking", func(p *api.Pool) { p.Workers[looking].Script = by(keep(1)) }, false},
		{"a Script with Filling", func(p *api.Pool) { p.Workers[filling].Script = by(keep(1)) }, false},
		{"a Script with Waiting", func(p *api.Pool) { p.Workers[waiting].Script = by(keep(1)) }, false},
		{"a Script with Gone", func(p *api.Pool) { p.Workers[gone].Script = by(keep(1)) }, false},
		{"no Script with Putting", func(p *api.Pool) { p.Workers[putting].Script = nil }, true},
		{"no Script with Telling", func(p *api.Pool) { p.Workers[telling].Script = nil }, true},
		{"another Script with Putting", func(p *api.Pool) { p.Workers[putting].Script = by(cut(9), add("x")) }, true},
		{"a Script that is not right with Putting", func(p *api.Pool) { p.Workers[putting].Script = by(keep(0)) }, false},
		{"a Script that is not right with Telling", func(p *api.Pool) { p.Workers[telling].Script = by(add("x"), cut(9)) }, false},
		{"a Task that is empty, with Telling", func(p *api.Pool) { p.Workers[telling].Task = api.Task{} }, true},
		{"two who tell the same", func(p *api.Pool) { p.Workers = append(p.Workers, p.Workers[telling]) }, true},
		{"no fills", func(p *api.Pool) { p.Flight = nil }, false},
		{"the fills in another order", func(p *api.Pool) { slices.Reverse(p.Flight) }, true},
		{"a fill twice", func(p *api.Pool) { p.Flight = append(p.Flight, p.Flight[1]) }, false},
		{"the By of a fill is -1", func(p *api.Pool) { p.Flight[1].By = -1 }, false},
		{"the By of a fill is just behind the last worker", func(p *api.Pool) { p.Flight[1].By = 7 }, false},
		{"a fill more, by nobody below 0", func(p *api.Pool) { p.Flight = append(p.Flight, fill(hTask(), -1)) }, false},
		{"a fill more, by nobody just behind the last worker", func(p *api.Pool) { p.Flight = append(p.Flight, fill(hTask(), 7)) }, false},
		{"a fill more, by nobody far below", func(p *api.Pool) { p.Flight = append(p.Flight, fill(hTask(), math.MinInt)) }, false},
		{"a fill more, by nobody far beyond", func(p *api.Pool) { p.Flight = append(p.Flight, fill(hTask(), math.MaxInt)) }, false},
		{"a fill more, by who is Idle", func(p *api.Pool) { p.Flight = append(p.Flight, api.Fill{By: idle}) }, false},
		{"a fill more, by who is Gone", func(p *api.Pool) { p.Flight = append(p.Flight, api.Fill{By: gone}) }, false},
		{"a fill more, by who is Looking", func(p *api.Pool) {
			p.Workers[looking].Task = gTask()
			p.Flight = append(p.Flight, fill(gTask(), looking))
		}, false},
		{"a fill more, by who is Telling", func(p *api.Pool) {
			p.Workers[telling].Task = gTask()
			p.Flight = append(p.Flight, fill(gTask(), telling))
		}, false},
		{"a fill more, by who is Filling", func(p *api.Pool) { p.Flight = append(p.Flight, fill(hTask(), filling)) }, false},
		{"a fill by who is Waiting", func(p *api.Pool) { p.Flight[0] = fill(aTask(), waiting, filling) }, false},
		{"who is Filling is By of none", func(p *api.Pool) { p.Workers[looking].State = filling }, false},
		{"who is Putting is By of none", func(p *api.Pool) { p.Flight = p.Flight[:1] }, false},
		{"two who find out the same, of whom one waits for the other one", func(p *api.Pool) { p.Workers[waiting].State = filling }, false},
		{"two who find out the same, each by itself", func(p *api.Pool) {
			p.Workers[looking].State = filling
			p.Flight = append(p.Flight, fill(aTask(), looking))
		}, false},
		{"two who find out other texts", func(p *api.Pool) {
			p.Workers[looking] = worker(filling, turned)
			p.Flight = append(p.Flight, fill(turned, looking))
		}, true},
		{"who is Filling has another Left", func(p *api.Pool) { p.Workers[filling].Task.Left += "x" }, false},
		{"who is Filling has another Right", func(p *api.Pool) { p.Workers[filling].Task.Right = "" }, false},
		{"who is Filling has the texts on the other sides", func(p *api.Pool) { p.Workers[filling].Task = turned }, false},
		{"who is Putting has another Left", func(p *api.Pool) { p.Workers[putting].Task.Left = "x" }, false},
		{"who is Putting has another Right", func(p *api.Pool) { p.Workers[putting].Task.Right = "" }, false},
		{"a fill has another Left", func(p *api.Pool) { p.Flight[1].Left = "x" }, false},
		{"a fill has another Right", func(p *api.Pool) { p.Flight[1].Right = "x" }, false},
		{"two fills have the texts of one another", func(p *api.Pool) {
			p.Flight = fills(fill(bTask(), filling), fill(aTask(), putting, waiting))
		}, false},
		{"who is Filling has another Req and Slot", func(p *api.Pool) { p.Workers[filling].Task.Req, p.Workers[filling].Task.Slot = -9, -9 }, true},
		{"who waits has another Req and Slot", func(p *api.Pool) { p.Workers[waiting].Task.Req, p.Workers[waiting].Task.Slot = -9, -9 }, true},
		{"who waits has another Left", func(p *api.Pool) { p.Workers[waiting].Task.Left = "x" }, false},
		{"who waits has another Right", func(p *api.Pool) { p.Workers[waiting].Task.Right = "x" }, false},
		{"who waits waits for a fill of other texts", func(p *api.Pool) { p.Flight[0].Waiting, p.Flight[1].Waiting = nil, []int{waiting} }, false},
		{"who waits has the texts of another fill", func(p *api.Pool) { p.Workers[waiting].Task = bTask() }, false},
		{"who waits waits for none", func(p *api.Pool) { p.Flight[0].Waiting = nil }, false},
		{"who waits waits twice for one", func(p *api.Pool) { p.Flight[0].Waiting = []int{waiting, waiting} }, false},
		{"who waits waits for two", func(p *api.Pool) { p.Flight[1].Waiting = []int{waiting} }, false},
		{"who waits waits for a fill of who is Putting", func(p *api.Pool) {
			p.Workers[waiting].Task = bTask()
			p.Flight[0].Waiting, p.Flight[1].Waiting = nil, []int{waiting}
		}, true},
		{"two wait, in any order", func(p *api.Pool) {
			p.Workers[looking].State = waiting
			p.Flight[0].Waiting = []int{waiting, looking}
		}, true},
		{"who is Looking waits", func(p *api.Pool) { p.Flight[0].Waiting = []int{waiting, looking} }, false},
		{"who is Idle waits", func(p *api.Pool) { p.Flight[0].Waiting = []int{waiting, idle} }, false},
		{"who is Idle waits for empty texts", func(p *api.Pool) {
			p.Workers[filling].Task, p.Workers[waiting].Task = api.Task{}, api.Task{}
			p.Flight[0] = api.Fill{By: filling, Waiting: []int{waiting, idle}}
		}, false},
		{"who is Telling waits", func(p *api.Pool) { p.Flight[0].Waiting = []int{telling, waiting} }, false},
		{"who finds out waits for its own", func(p *api.Pool) { p.Flight[0].Waiting = []int{waiting, filling} }, false},
		{"who is Putting waits", func(p *api.Pool) { p.Flight[0].Waiting = []int{putting, waiting} }, false},
		{"nobody below 0 waits", func(p *api.Pool) { p.Flight[1].Waiting = []int{-1} }, false},
		{"nobody just behind the last worker waits", func(p *api.Pool) { p.Flight[1].Waiting = []int{7} }, false},
		{"nobody far below waits", func(p *api.Pool) { p.Flight[0].Waiting = []int{waiting, math.MinInt} }, false},
		{"nobody far beyond waits", func(p *api.Pool) { p.Flight[0].Waiting = []int{math.MaxInt, waiting} }, false},
		{"the last worker is lacking", func(p *api.Pool) { p.Workers = p.Workers[:gone] }, true},
		{"who is Putting is lacking", func(p *api.Pool) { p.Workers = p.Workers[:putting] }, false},
	} {
		p := seven()
		x.do(&p)
		if got := pool.Right(p); got != x.want || wantRight(p) != x.want {
			t.Errorf("%s: %v, and by the words %v", x.name, got, wantRight(p))
		}
		check(t, p, fewAsked(p))
	}
}

// fewAsked is what a pool may be asked without taking long.
func fewAsked(p api.Pool) asked {
	return asked{
		lists:   [][]api.Task{nil, {of(1, 50, aTask())}, {of(2, 51, bTask()), {}, of(3, 52, hTask()), of(1, 53, aTask())}},
		reqs:    []int{0, 1, 2, 3, -1, math.MaxInt},
		workers: []int{-1, 0, 1, 2, 3, 4, 5, 6, len(p.Workers) - 1, len(p.Workers), math.MinInt, math.MaxInt},
	}
}

// TestRightOfEachStateS1 has each State, at and beyond its ends, with each thing beside it that may or may not be, and with each place in the flight.
func TestRightOfEachStateS1(t *testing.T) {
	x, y := of(1, 2, aTask()), of(3, 4, bTask())
	rights := make(map[int]int)
	for _, state := range append([]int{idle, looking, filling, waiting, putting, telling, gone}, beyond(0, 6)...) {
		for _, own := range []api.Task{{}, {Req: 1}, {Slot: -1}, {Left: "x"}, {Right: "x"}, x, y} {
			for _, s := range slices.Concat(rightScripts(), wrongScripts()) {
				for _, isDropped := range []bool{false, true} {
					for _, f := range [][]api.Fill{
						fills(fill(y, 1)), fills(fill(y, 1, 0)), fills(fill(y, 1), fill(x, 0)), fills(fill(api.Task{}, 0), fill(y, 1)), fills(fill(y, 1), fill(task(0, 0, "x", ""), 0)),
						fills(fill(own, 0), fill(y, 1)), fills(fill(own, 0)), fills(fill(y, 0)), fills(fill(own, 1, 0)), fills(fill(y, 1, 0, 0)), fills(fill(y, 1, 2)),
					} {
						p := around(f, worker(state, own, s...), worker(filling, y))
						p.Workers[0].Dropped = isDropped
						want := wantRight(p)
						if pool.Right(p) != want {
							t.Fatalf("Right of %+v: %v", p, !want)
						}
						if want {
							rights[state]++
						}
					}
				}
			}
		}
	}
	for state, n := range rights {
		if state < 0 || state > 6 {
			t.Errorf("%d are right in State %d", n, state)
		}
	}
	if len(rights) != 7 {
		t.Errorf("there are none that are right in some State: %v", rights)
	}
}

// bases is pools that are right, of many kinds.
func bases(t *testing.T) []api.Pool {
	closed := scene()
	closed.Queue.Closed = true
	turned := scene()
	slices.Reverse(turned.Flight)
	two := around(fills(fill(aTask(), 1, 0)), worker(waiting, aTask()), worker(putting, aTask()))
	zero := around(fills(api.Fill{}), dropped(worker(filling, api.Task{})))
	return []api.Pool{made(t, 1, 0, 1, 0, 0), made(t, 64, 3, 2, 5, 7), seven(), scene(), closed, turned, two, zero}
}

// spoils is a pool with one thing in it changed, in many ways at each place; of most it is not right any more.
func spoils(base api.Pool) []api.Pool {
	var all []api.Pool
	with := func(do func(p *api.Pool)) {
		p := copied(base)
		do(&p)
		all = append(all, p)
	}
	n := len(base.Workers)
	numbers := append([]int{math.MinInt, math.MaxInt, -2, -1, n, n + 1, 1 << 32}, 64, 65)
	for i := range n {
		numbers = append(numbers, i)
	}
	for i := range n {
		for _, state := range append(beyond(0, 6), 0, 1, 2, 3, 4, 5, 6) {
			with(func(p *api.Pool) { p.Workers[i].State = state })
		}
		for _, x := range []api.Task{{}, {Req: -1}, {Slot: 1}, {Left: "x"}, {Right: "x"}, aTask(), bTask(), dTask(), gTask()} {
			with(func(p *api.Pool) { p.Workers[i].Task = x })
			with(func(p *api.Pool) { p.Workers[i].Task.Left = x.Left })
			with(func(p *api.Pool) { p.Workers[i].Task.Right = x.Right })
		}
		with(func(p *api.Pool) { p.Workers[i].Dropped = !p.Workers[i].Dropped })
		for _, s := range slices.Concat(rightScripts(), wrongScripts()) {
			with(func(p *api.Pool) { p.Workers[i].Script = s })
		}
		with(func(p *api.Pool) { p.Workers = slices.Delete(p.Workers, i, i+1) })
		with(func(p *api.Pool) { p.Workers = slices.Insert(p.Workers, i, api.Worker{}) })
	}
	for i, f := range base.Flight {
		for _, who := range numbers {
			with(func(p *api.Pool) { p.Flight[i].By = who })
			for j := range f.Waiting {
				with(func(p *api.Pool) { p.Flight[i].Waiting[j] = who })
				with(func(p *api.Pool) { p.Flight[i].Waiting = slices.Insert(p.Flight[i].Waiting, j, who) })
			}
			with(func(p *api.Pool) { p.Flight[i].Waiting = append(p.Flight[i].Waiting, who) })
		}
		for _, x := range []api.Task{{}, aTask(), bTask(), dTask(), gTask()} {
			with(func(p *api.Pool) { p.Flight[i].Left = x.Left })
			with(func(p *api.Pool) { p.Flight[i].Right = x.Right })
		}
		with(func(p *api.Pool) { p.Flight = slices.Delete(p.Flight, i, i+1) })
		with(func(p *api.Pool) { p.Flight = append(p.Flight, p.Flight[i]) })
		with(func(p *api.Pool) { p.Flight[i].Waiting = nil })
		with(func(p *api.Pool) { slices.Reverse(p.Flight[i].Waiting) })
	}
	for _, who := range numbers {
		with(func(p *api.Pool) { p.Flight = append(p.Flight, fill(task(0, 0, "no", "body"), who)) })
		if who >= 0 && who < n {
			with(func(p *api.Pool) { p.Flight = append(p.Flight, fill(p.Workers[who].Task, who)) })
		}
	}
	for _, others := range []int{64 - n, 65 - n, 1000} {
		with(func(p *api.Pool) { p.Workers = append(p.Workers, manyWorkers(others)...) })
	}
	for _, room := range append(beyond(0, 4096), len(base.Queue.Tasks), len(base.Queue.Tasks)-1) {
		with(func(p *api.Pool) { p.Queue.Room = room })
	}
	return append(all, spoiltCaches(base)...)
}

// spoiltCaches is a pool with one thing in its cache changed.
func spoiltCaches(base api.Pool) []api.Pool {
	var all []api.Pool
	with := func(do func(c *api.Cache)) {
		p := copied(base)
		do(&p.Cache)
		all = append(all, p)
	}
	for _, width := range append(beyond(0, 64), 0, 5, 64) {
		with(func(c *api.Cache) { c.Width = width })
	}
	for _, room := range append(beyond(0, 4096), 0, 1, 2, 3, 4096) {
		with(func(c *api.Cache) { c.Room = room })
	}
	for _, count := range append(beyond(0, 1<<40), 0, 1<<40) {
		with(func(c *api.Cache) { c.Hits = count })
		with(func(c *api.Cache) { c.Misses = count })
		with(func(c *api.Cache) { c.Clashes = count })
		with(func(c *api.Cache) { c.Evicted = count })
	}
	for _, parts := range []int{0, 1, 2, 15, 16, 17, 100} {
		with(func(c *api.Cache) { c.Parts = make([][]api.Slot, parts) })
	}
	for i, part := range base.Cache.Parts {
		for j, s := range part {
			with(func(c *api.Cache) { c.Parts[i] = append(c.Parts[i], s) })
			with(func(c *api.Cache) { c.Parts[i][j].Left += "x" })
			with(func(c *api.Cache) { c.Parts[i][j].Key.Len++ })
			with(func(c *api.Cache) { c.Parts[i][j].Key.Sum++ })
			with(func(c *api.Cache) { c.Parts[i][j].Val += "x" })
		}
	}
	return all
}

// TestOneThingChangedS1S2S3 holds each such pool against the chapter's words; of what is not right each call tells ErrArg, and nothing else, whatever else it is called with, and whatever else is wrong.
func TestOneThingChangedS1S2S3(t *testing.T) {
	alone, rights := make(map[string]int), 0
	for _, base := range bases(t) {
		if !pool.Right(base) || !wantRight(base) {
			t.Fatalf("%+v is not right", base)
		}
		for _, p := range spoils(base) {
			names := broken(p)
			if pool.Right(p) != (len(names) == 0) || pool.Busy(p) != wantBusy(p) {
				t.Fatalf("Right %v, Busy %d of %+v, which breaks %v", pool.Right(p), pool.Busy(p), p, names)
			}
			switch len(names) {
			case 0:
				rights++
				continue
			case 1:
				alone[names[0]]++
			}
			checkNotRight(t, p)
		}
	}
	for _, r := range rules() {
		if alone[r.name] < 20 {
			t.Errorf("only %d are wrong in %s alone", alone[r.name], r.name)
		}
	}
	if rights < 500 {
		t.Errorf("only %d are right", rights)
	}
}

// checkNotRight is that each call tells ErrArg, and nothing else, also where the queue is Closed, and where there is no such worker.
func checkNotRight(t *testing.T, p api.Pool) {
	t.Helper()
	for _, closed := range []bool{false, true} {
		p.Queue.Closed = closed
		was := written(p)
		for _, l := range [][]api.Task{nil, {aTask()}} {
			if n, now, e := pool.Add(p, l...); n != 0 || !nothing(now) || e != api.ErrArg {
				t.Fatalf("Add to %+v: %d, %+v, %d", p, n, now, e)
			}
		}
		for _, w := range []int{0, len(p.Workers) - 1, len(p.Workers), -1} {
			if did, now, e := pool.Step(p, w); did || !nothing(now) || e != api.ErrArg {
				t.Fatalf("Step of %d, of %+v: %v, %+v, %d", w, p, did, now, e)
			}
		}
		for _, req := range []int{0, 1} {
			if now, e := pool.Drop(p, req); !nothing(now) || e != api.ErrArg {
				t.Fatalf("Drop of %d, of %+v: %+v, %d", req, p, now, e)
			}
		}
		if out, now, e := pool.Collect(p); len(out) > 0 || !nothing(now) || e != api.ErrArg {
			t.Fatalf("Collect of %+v: %v, %+v, %d", p, out, now, e)
		}
		if now, e := pool.Close(p); !nothing(now) || e != api.ErrArg {
			t.Fatalf("Close of %+v: %+v, %d", p, now, e)
		}
		if written(p) != was {
			t.Fatalf("%s has become %s", was, written(p))
		}
	}
}

// TestTwoThingsWrongS2S3 is which error is told where two apply.
func TestTwoThingsWrongS2S3(t *testing.T) {
	wrong := scene()
	wrong.Workers[0].State, wrong.Queue.Closed, wrong.Flight = 7, true, nil
	checkNotRight(t, wrong)
	full := made(t, 1, 0, 1, 1, 1)
	full.Queue.Closed = true
	if n, now, e := pool.Add(full, aTask()); n != 0 || !nothing(now) || e != api.ErrClosed {
		t.Errorf("no room, and Closed: %d, %+v, %d", n, now, e)
	}
	if did, now, e := pool.Step(full, 1); did || !nothing(now) || e != api.ErrNone {
		t.Errorf("no worker, and Closed: %v, %+v, %d", did, now, e)
	}
	none := around(nil)
	if did, now, e := pool.Step(none, 0); did || !nothing(now) || e != api.ErrArg {
		t.Errorf("no workers at all: %v, %+v, %d", did, now, e)
	}
}

// TestBusyS1 has pools of all short rows of States, of which most are not right.
func TestBusyS1(t *testing.T) {
	states := []int{math.MinInt, -1, 0, 1, 2, 3, 4, 5, 6, 7, math.MaxInt}
	for n := range 11 * 11 * 11 {
		var p api.Pool
		want := 0
		for i := n; i > 0; i /= 11 {
			state := states[i%11]
			p.Workers = append(p.Workers, worker(state, api.Task{}))
			if state != 0 && state != 6 {
				want++
			}
		}
		if got := pool.Busy(p); got != want {
			t.Fatalf("%v: %d", states, got)
		}
	}
	for _, x := range []struct {
		p    api.Pool
		want int
	}{
		{api.Pool{}, 0}, {scene(), 14}, {seven(), 5}, {around(nil, manyWorkers(1000)...), 0}, {around(nil, slices.Repeat([]api.Worker{worker(telling, api.Task{})}, 1000)...), 1000},
		{around(nil, worker(idle, aTask(), keep(0)), dropped(worker(gone, aTask())), worker(filling, aTask())), 1},
	} {
		if got := pool.Busy(x.p); got != x.want {
			t.Errorf("%+v: %d", x.p, got)
		}
	}
}
