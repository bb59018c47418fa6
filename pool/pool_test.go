package pool_test

import (
	"math"
	"slices"
	"testing"

	"collator/api"
	"collator/pool"
	"collator/sums"
)

// steps lets workers go on, one by one, each of which must do something.
func steps(t *testing.T, p api.Pool, workers ...int) api.Pool {
	t.Helper()
	for i, w := range workers {
		did, now, e := pool.Step(p, w)
		if !did || e != api.OK || !pool.Right(now) {
			t.Fatalf("step %d, of worker %d: %v, %d, of %s", i, w, did, e, written(p))
		}
		p = now
	}
	return p
}

// put is a pool to which all of these tasks come.
func put(t *testing.T, p api.Pool, l ...api.Task) api.Pool {
	t.Helper()
	n, p, e := pool.Add(p, l...)
	if n != len(l) || e != api.OK {
		t.Fatalf("Add of %v: %d, %d", l, n, e)
	}
	return p
}

// collected is what a pool has told.
func collected(t *testing.T, p api.Pool) ([]api.Result, api.Pool) {
	t.Helper()
	out, p, e := pool.Collect(p)
	if e != api.OK {
		t.Fatalf("Collect: %d", e)
	}
	return out, p
}

func states(p api.Pool) []int {
	var l []int
	for _, w := range p.Workers {
		l = append(l, w.State)
	}
	return l
}

// TestExampleS3S4 is the chapter's example, whichever of the two begins.
func TestExampleS3S4(t *testing.T) {
	one, two := task(1, 7, lines("abc"), lines("bcd")), task(2, 0, lines("abc"), lines("bcd"))
	for first := range 2 {
		second := 1 - first
		p := put(t, made(t, 2, 2, 1, 1, 64), one, two)
		p = steps(t, p, first, second, first, second)
		if p.Workers[first].State != filling || p.Workers[second].State != waiting || pool.Busy(p) != 2 {
			t.Fatalf("%v", states(p))
		}
		if did, _, e := pool.Step(p, second); did || e != api.OK {
			t.Fatalf("who waits does something: %v, %d", did, e)
		}
		p = steps(t, p, first, first, second, first)
		out, p := collected(t, p)
		s := by(cut(1), keep(2), add("d\n"))
		if want := []api.Result{result(two, s...), result(one, s...)}; !same(out, want) {
			t.Errorf("%v, not %v", out, want)
		}
		if p.Cache.Misses != 2 || p.Cache.Hits != 0 || pool.Busy(p) != 0 || len(p.Flight) > 0 {
			t.Errorf("%+v", p)
		}
	}
}

func TestNewS1(t *testing.T) {
	for workers := 1; workers <= 64; workers++ {
		for _, room := range []int{0, 1, 7, 4095, 4096} {
			for _, parts := range []int{1, 2, 15, 16} {
				for _, slots := range []int{0, 1, 4095, 4096} {
					for _, width := range []int{0, 1, 63, 64} {
						p, e := pool.New(workers, room, parts, slots, width)
						want := api.Pool{
							Workers: make([]api.Worker, workers),
							Queue:   api.Queue{Room: room},
							Cache:   api.Cache{Width: width, Room: slots, Parts: make([][]api.Slot, parts)},
						}
						if !same(p, want) || e != api.OK {
							t.Fatalf("New(%d, %d, %d, %d, %d) = %+v, %d", workers, room, parts, slots, width, p, e)
						}
						if !pool.Right(p) || pool.Busy(p) != 0 {
							t.Fatalf("New(%d, %d, %d, %d, %d): Right %v, Busy %d", workers, room, parts, slots, width, pool.Right(p), pool.Busy(p))
						}
					}
				}
			}
		}
	}
}

// beyond is numbers that are less than the one bound, or greater than the other one; far ones, too, and such as come between both where bits are lost.
func beyond(least, most int) []int {
	l := []int{math.MinInt, math.MinInt + 1, math.MinInt32, math.MaxInt32, math.MaxUint32, math.MaxInt - 1, math.MaxInt, 1 << 20, -1 << 20}
	l = append(l, least-1, least-2, least-100, most+1, most+2, most+100)
	for _, bits := range []int{8, 16, 32, 48, 63} {
		for _, n := range []int{least, most} {
			l = append(l, n+1<<bits, n-1<<bits)
		}
	}
	return slices.DeleteFunc(l, func(n int) bool { return n >= least && n <= most })
}

// bounds is the least and the greatest number of each thing that New is called with, in their order.
func bounds() [5][2]int { return [5][2]int{{1, 64}, {0, 4096}, {1, 16}, {0, 4096}, {0, 64}} }

func checkNoNew(t *testing.T, with [5]int) {
	t.Helper()
	if p, e := pool.New(with[0], with[1], with[2], with[3], with[4]); !nothing(p) || e != api.ErrArg {
		t.Errorf("New of %d = %+v, %d", with, p, e)
	}
}

func TestNewOfOneThingThatMayNotBeS1(t *testing.T) {
	for i, bound := range bounds() {
		for _, n := range beyond(bound[0], bound[1]) {
			for _, others := range [][5]int{{1, 0, 1, 0, 0}, {5, 6, 7, 8, 9}, {64, 4096, 16, 4096, 64}} {
				others[i] = n
				checkNoNew(t, others)
			}
		}
	}
}

func TestNewOfSeveralThatMayNotBeS1(t *testing.T) {
	far := [4]int{math.MinInt, -1, 1 << 14, math.MaxInt}
	for n := range 5 * 5 * 5 * 5 * 5 {
		with, wrong := [5]int{3, 3, 3, 3, 3}, 0
		for i := range with {
			if n%5 < 4 {
				with[i] = far[n%5]
				wrong++
			}
			n /= 5
		}
		if wrong >= 2 {
			checkNoNew(t, with)
		}
	}
}

// What scene's workers are about.
func aTask() api.Task { return task(0, 0, lines("ab"), lines("b")) }
func bTask() api.Task { return task(0, 0, "", lines("c")) }
func cTask() api.Task { return task(0, 0, "d", "d") }
func dTask() api.Task { return task(0, 0, "e", "f\n") }
func eTask() api.Task { return task(0, 0, lines("gh"), "") }
func fTask() api.Task { return task(0, 0, "k", "") }
func gTask() api.Task { return task(0, 0, "m", "n") }
func hTask() api.Task { return task(0, 0, "q\n", "q") }

// of is a task of a request, and of an entry.
func of(req, slot int, x api.Task) api.Task { return task(req, slot, x.Left, x.Right) }

// slot is what a cache keeps of a task's texts, by as many bits as may be.
func slot(x api.Task, val string) api.Slot {
	return api.Slot{Key: sums.Both(x.Left, x.Right, 64), Left: x.Left, Right: x.Right, Val: val}
}

// The slots of scene's cache: one that nobody asks for, one of a script, and one of what is none.
func someSlot() api.Slot   { return slot(task(0, 0, "some", "text"), "=1;") }
func scriptSlot() api.Slot { return slot(fTask(), "-1;") }
func junkSlot() api.Slot   { return slot(gTask(), "-1") }

// scene is a pool with workers in each State, and with something in each of its lists.
func scene() api.Pool {
	return api.Pool{
		Workers: []api.Worker{
			0:  worker(idle, api.Task{}),
			1:  worker(looking, of(1, 0, aTask())),
			2:  worker(looking, of(2, 1, eTask())),
			3:  worker(looking, of(3, 2, fTask())),
			4:  dropped(worker(looking, of(4, 3, gTask()))),
			5:  worker(filling, of(1, 4, aTask())),
			6:  worker(waiting, of(2, 5, aTask())),
			7:  dropped(worker(waiting, of(1, 6, aTask()))),
			8:  worker(putting, of(2, 7, bTask()), add("c\n")),
			9:  worker(putting, of(3, 8, dTask()), cut(1), add("f\n")),
			10: dropped(worker(waiting, of(5, 9, dTask()))),
			11: worker(waiting, of(3, 10, dTask())),
			12: worker(telling, of(1, 11, cTask()), keep(1)),
			13: dropped(worker(telling, of(2, 12, cTask()), keep(1))),
			14: worker(gone, api.Task{}),
			15: dropped(worker(filling, of(4, 13, hTask()))),
		},
		Queue:  api.Queue{Room: 6, Tasks: []api.Task{of(1, 20, aTask()), of(2, 21, eTask()), of(1, 22, hTask()), of(6, 23, aTask())}},
		Cache:  api.Cache{Width: 64, Room: 3, Parts: [][]api.Slot{{someSlot(), scriptSlot(), junkSlot()}}, Hits: 5, Misses: 6, Clashes: 7, Evicted: 8},
		Flight: fills(fill(aTask(), 5, 7, 6), fill(bTask(), 8), fill(dTask(), 9, 11, 10), fill(hTask(), 15)),
		Out:    []api.Result{result(of(2, 30, aTask()), keep(2)), result(of(1, 31, aTask()), cut(1)), result(of(3, 32, aTask())), result(of(1, 33, aTask()), add("z"))},
	}
}

// TestStepOfEachStateS3 is what each worker of the scene does, by hand.
func TestStepOfEachStateS3(t *testing.T) {
	for _, x := range []struct {
		name string
		w    int
		did  bool
		do   func(p *api.Pool)
	}{
		{"Idle, and there is a task", 0, true, func(p *api.Pool) {
			p.Workers[0] = worker(looking, of(1, 20, aTask()))
			p.Queue.Tasks = p.Queue.Tasks[1:]
		}},
		{"Looking, and somebody finds out", 1, true, func(p *api.Pool) {
			p.Workers[1].State = waiting
			p.Cache.Misses = 7
			p.Flight[0].Waiting = []int{7, 6, 1}
		}},
		{"Looking, and nobody finds out", 2, true, func(p *api.Pool) {
			p.Workers[2].State = filling
			p.Cache.Misses = 7
			p.Flight = append(p.Flight, fill(eTask(), 2))
		}},
		{"Looking, and there is a Val", 3, true, func(p *api.Pool) {
			p.Workers[3] = worker(telling, of(3, 2, fTask()), cut(1))
			p.Cache.Hits = 6
			p.Cache.Parts[0] = []api.Slot{scriptSlot(), someSlot(), junkSlot()}
		}},
		{"Looking, and there is a Val that can't be read", 4, true, func(p *api.Pool) {
			p.Workers[4].State = filling
			p.Cache.Hits = 6
			p.Cache.Parts[0] = []api.Slot{junkSlot(), someSlot(), scriptSlot()}
			p.Flight = append(p.Flight, fill(gTask(), 4))
		}},
		{"Filling", 5, true, func(p *api.Pool) {
			p.Workers[5] = worker(putting, of(1, 4, aTask()), cut(1), keep(1))
		}},
		{"Waiting", 6, false, func(*api.Pool) {}},
		{"Waiting, and Dropped", 7, false, func(*api.Pool) {}},
		{"Putting, and nobody waits", 8, true, func(p *api.Pool) {
			p.Workers[8].State = telling
			p.Cache.Parts[0] = []api.Slot{slot(bTask(), "+1;2:c\n"), someSlot(), scriptSlot()}
			p.Cache.Evicted = 9
			p.Flight = slices.Delete(p.Flight, 1, 2)
		}},
		{"Putting, and two wait", 9, true, func(p *api.Pool) {
			s := by(cut(1), add("f\n"))
			p.Workers[9] = worker(telling, of(3, 8, dTask()), s...)
			p.Workers[10] = dropped(worker(telling, of(5, 9, dTask()), s...))
			p.Workers[11] = worker(telling, of(3, 10, dTask()), s...)
			p.Cache.Parts[0] = []api.Slot{slot(dTask(), "-1;+1;2:f\n"), someSlot(), scriptSlot()}
			p.Cache.Evicted = 9
			p.Flight = slices.Delete(p.Flight, 2, 3)
		}},
		{"Telling", 12, true, func(p *api.Pool) {
			p.Workers[12] = api.Worker{}
			p.Out = append(p.Out, result(of(1, 11, cTask()), keep(1)))
		}},
		{"Telling, and Dropped", 13, true, func(p *api.Pool) {
			p.Workers[13] = api.Worker{}
		}},
		{"Gone", 14, false, func(*api.Pool) {}},
		{"Filling, and Dropped", 15, true, func(p *api.Pool) {
			p.Workers[15] = dropped(worker(putting, of(4, 13, hTask()), cut(1), add("q")))
		}},
	} {
		want := scene()
		x.do(&want)
		did, now, e := pool.Step(scene(), x.w)
		if did != x.did || !same(now, want) || e != api.OK {
			t.Errorf("%s: %v, %+v, %d, not %+v", x.name, did, now, e, want)
		}
		if !pool.Right(want) {
			t.Errorf("%s: what comes of it is not right", x.name)
		}
	}
}

// TestStepOfIdleS3 has queues with and without tasks, open and Closed.
func TestStepOfIdleS3(t *testing.T) {
	x, y := of(9, 1, aTask()), of(8, 2, bTask())
	for _, closed := range []bool{false, true} {
		for n, l := range [][]api.Task{nil, {x}, {x, y}, {x, x}, {api.Task{}, y}} {
			for w := range 3 {
				p := around(nil, worker(idle, api.Task{}), worker(idle, api.Task{}), worker(idle, api.Task{}))
				p.Queue = api.Queue{Room: 2, Closed: closed, Tasks: l}
				want, wantDid := copied(p), n > 0 || closed
				if n > 0 {
					want.Workers[w] = worker(looking, l[0])
					want.Queue.Tasks = l[1:]
				} else if closed {
					want.Workers[w] = worker(gone, api.Task{})
				}
				did, now, e := pool.Step(p, w)
				if did != wantDid || !same(now, want) || e != api.OK {
					t.Errorf("worker %d, %v, Closed %v: %v, %+v, %d", w, l, closed, did, now, e)
				}
			}
		}
	}
}

// TestStepOfLookingS3 has Vals of all kinds, of the task's texts and of others by the same Key, and fills of the task's texts and of others.
func TestStepOfLookingS3(t *testing.T) {
	x := of(3, 4, task(0, 0, "Aa", "r"))
	other, turned := task(0, 0, "BB", "r"), task(0, 0, "r", "Aa")
	held := func(x api.Task, val string) [][]api.Slot { return [][]api.Slot{{slot(x, val)}} }
	for _, c := range []struct {
		name                  string
		parts                 [][]api.Slot
		s                     []api.Edit
		known                 bool
		hits, misses, clashes int
	}{
		{"no slots", [][]api.Slot{nil}, nil, false, 0, 1, 0},
		{"a script", held(x, "-1;+1;1:r"), by(cut(1), add("r")), true, 1, 0, 0},
		{"a script that is of no such texts", held(x, "=9;"), by(keep(9)), true, 1, 0, 0},
		{"a script without edits", held(x, ""), nil, true, 1, 0, 0},
		{"no script", held(x, "=0;"), nil, false, 1, 0, 0},
		{"no script, but what begins as one", held(x, "=1;-"), nil, false, 1, 0, 0},
		{"a script that is not right", held(x, "+1;1:r-1;"), nil, false, 1, 0, 0},
		{"another one's", held(other, "-1;+1;1:r"), nil, false, 0, 0, 1},
		{"another one's, without edits", held(other, ""), nil, false, 0, 0, 1},
		{"those of texts on the other side", held(turned, "=9;"), nil, false, 0, 1, 0},
	} {
		for _, f := range [][]api.Fill{nil, fills(fill(turned, 1)), fills(fill(other, 1)), fills(fill(x, 1)), fills(fill(other, 2), fill(x, 1, 3))} {
			workers := []api.Worker{worker(looking, x), worker(idle, api.Task{}), worker(idle, api.Task{}), worker(idle, api.Task{})}
			for _, one := range f {
				at := of(7, one.By, task(0, 0, one.Left, one.Right))
				workers[one.By] = worker(filling, at)
				for _, who := range one.Waiting {
					workers[who] = worker(waiting, at)
				}
			}
			p := around(f, workers...)
			p.Cache.Parts = c.parts
			want := copied(p)
			want.Cache.Hits, want.Cache.Misses, want.Cache.Clashes = c.hits, c.misses, c.clashes
			at := slices.IndexFunc(f, func(one api.Fill) bool { return one.Left == x.Left && one.Right == x.Right })
			switch {
			case c.known:
				want.Workers[0] = worker(telling, x, c.s...)
			case at >= 0:
				want.Workers[0] = worker(waiting, x)
				want.Flight[at].Waiting = append(want.Flight[at].Waiting, 0)
			default:
				want.Workers[0] = worker(filling, x)
				want.Flight = append(want.Flight, fill(x, 0))
			}
			if did, now, e := pool.Step(p, 0); !did || !same(now, want) || e != api.OK {
				t.Errorf("%s, fills %v: %v, %+v, %d, not %+v", c.name, f, did, now, e, want)
			}
		}
	}
}

// TestStepOfFillingS3 has scripts that are written down here, and not found out by another package.
func TestStepOfFillingS3(t *testing.T) {
	for _, c := range []struct {
		left, right string
		s           []api.Edit
	}{
		{"", "", nil},
		{"", "\n", by(add("\n"))},
		{"\n", "", by(cut(1))},
		{"a", "a", by(keep(1))},
		{"a", "a\n", by(cut(1), add("a\n"))},
		{"a\n", "a", by(cut(1), add("a"))},
		{lines("abc"), lines("abc"), by(keep(3))},
		{lines("abc"), lines("bcd"), by(cut(1), keep(2), add("d\n"))},
		{lines("ab") + "c", lines("ab") + "d", by(keep(2), cut(1), add("d"))},
		{lines("abcabba"), lines("cbabac"), by(cut(2), keep(1), cut(1), keep(1), add("a\n"), keep(2), add("c\n"))},
		{"a b", "b a", by(cut(1), add("b a"))},
		{"\xff\x00", "\x00\n\xff", by(cut(1), add("\x00\n", "\xff"))},
	} {
		x := task(math.MaxInt, math.MinInt, c.left, c.right)
		p := around(fills(fill(x, 1, 0)), worker(waiting, x), worker(filling, x))
		want := around(fills(fill(x, 1, 0)), worker(waiting, x), worker(putting, x, c.s...))
		if did, now, e := pool.Step(p, 1); !did || !same(now, want) || e != api.OK {
			t.Errorf("%q, %q: %v, %+v, %d, not %+v", c.left, c.right, did, now, e, want)
		}
	}
}

// TestStepOfPuttingS3 has nobody, one and many who wait, some of them Dropped, and others who wait for what another one finds out; and caches with room, and with none.
func TestStepOfPuttingS3(t *testing.T) {
	const n = 9
	x, y := dTask(), hTask()
	for _, s := range [][]api.Edit{nil, by(cut(1), add("f\n")), by(keep(1), add("", "a", "b\n"), keep(1<<20), cut(3))} {
		val := map[int]string{0: "", 2: "-1;+1;2:f\n", 4: "=1;+3;0:1:a2:b\n=1048576;-3;"}[len(s)]
		for room := range 3 {
			for who := range n {
				for many := range n - 1 {
					var wait, others []int
					p := around(nil, make([]api.Worker, n)...)
					p.Cache = api.Cache{Width: 64, Room: room, Parts: [][]api.Slot{[]api.Slot{someSlot()}[:min(room, 1)]}}
					other := (who + 1) % n
					for i := range n {
						w := (who + 5 + i) % n
						p.Workers[w] = worker(waiting, of(w, 1, y))
						switch {
						case w == who:
							p.Workers[w] = worker(putting, of(w, 1, x), s...)
						case w == other:
							p.Workers[w].State = filling
						case len(wait) < many:
							p.Workers[w] = worker(waiting, of(w, 2, x))
							wait = append(wait, w)
						default:
							others = append(others, w)
						}
						p.Workers[w].Dropped = w%3 == 0
					}
					p.Flight = fills(fill(y, other, others...), fill(x, who, wait...))
					want := copied(p)
					want.Flight = want.Flight[:1]
					for _, w := range append(wait, who) {
						want.Workers[w].State, want.Workers[w].Script = telling, s
					}
					want.Cache.Parts[0] = slices.Concat([]api.Slot{slot(x, val)}, p.Cache.Parts[0])
					want.Cache.Parts[0] = want.Cache.Parts[0][:min(room, 2)]
					want.Cache.Evicted = len(p.Cache.Parts[0]) + 1 - min(room, 2)
					if did, now, e := pool.Step(p, who); !did || !same(now, want) || e != api.OK {
						t.Fatalf("%d puts, %v wait: %v, %+v, %d, not %+v", who, wait, did, now, e, want)
					}
				}
			}
		}
	}
}

// TestStepOfPuttingWhatIsThereS3 puts what the cache has already: of a Val that can't be read there is one that can, and none is out.
func TestStepOfPuttingWhatIsThereS3(t *testing.T) {
	for _, val := range []string{"", "junk", "-1;+1;1:n", "=1;"} {
		x := of(5, 6, gTask())
		p := around(fills(fill(x, 0)), worker(putting, x, diff(x)...))
		p.Cache.Parts = [][]api.Slot{{someSlot(), slot(x, val)}}
		want := around(nil, worker(telling, x, diff(x)...))
		want.Cache.Parts = [][]api.Slot{{slot(x, "-1;+1;1:n"), someSlot()}}
		if did, now, e := pool.Step(p, 0); !did || !same(now, want) || e != api.OK {
			t.Errorf("%q: %v, %+v, %d", val, did, now, e)
		}
	}
}

// TestStepOfTellingS3 has Out with none, one and many, and far numbers, which others have, too.
func TestStepOfTellingS3(t *testing.T) {
	for _, out := range [][]api.Result{nil, {{}}, scene().Out} {
		for _, req := range farNumbers() {
			for _, s := range [][]api.Edit{nil, by(keep(1)), by(cut(2), add("a", ""), keep(1<<20))} {
				for _, forNobody := range []bool{false, true} {
					x := task(req, -req, "a", "b")
					p := around(nil, worker(telling, x, s...), worker(telling, x, s...))
					p.Workers[1].Dropped, p.Workers[0].Dropped, p.Out = forNobody, !forNobody, out
					want := copied(p)
					want.Workers[1] = api.Worker{}
					if !forNobody {
						want.Out = append(want.Out, api.Result{Req: req, Slot: -req, Script: s})
					}
					if did, now, e := pool.Step(p, 1); !did || !same(now, want) || e != api.OK {
						t.Fatalf("%d, %v, Dropped %v: %v, %+v, %d", req, s, forNobody, did, now, e)
					}
				}
			}
		}
	}
}

// farNumbers is numbers around 0, and at both ends of what an int may be.
func farNumbers() []int {
	return []int{0, 1, -1, 2, 63, 64, 255, 256, math.MaxInt32, math.MinInt32, math.MaxUint32, 1 << 32, -1 << 32, math.MaxInt - 1, math.MaxInt, math.MinInt + 1, math.MinInt}
}

// TestStepOfNoWorkerS3 has pools of few and of many workers.
func TestStepOfNoWorkerS3(t *testing.T) {
	pools := []api.Pool{scene()}
	for _, n := range []int{1, 2, 3, 63, 64} {
		pools = append(pools, put(t, made(t, n, 2, 1, 1, 1), aTask()))
	}
	for _, p := range pools {
		n := len(p.Workers)
		for _, w := range append(beyond(0, n-1), n, -n, 64, 65) {
			if w >= 0 && w < n {
				continue
			}
			if did, now, e := pool.Step(p, w); did || !nothing(now) || e != api.ErrNone {
				t.Errorf("worker %d of %d: %v, %+v, %d", w, n, did, now, e)
			}
		}
		for _, w := range []int{0, n / 2, n - 1} {
			wantDid, want, _ := wantStep(p, w)
			if did, now, e := pool.Step(p, w); did != wantDid || !same(now, want) || e != api.OK {
				t.Errorf("worker %d of %d: %v, %+v, %d", w, n, did, now, e)
			}
		}
	}
}

// TestOnlyOneGoesOnS3 is that of new pools just the worker that is asked for takes the task, wherever it stands.
func TestOnlyOneGoesOnS3(t *testing.T) {
	for _, n := range []int{1, 2, 64} {
		for w := range n {
			p := steps(t, put(t, made(t, n, 3, 1, 1, 1), aTask(), bTask()), w)
			for i, one := range p.Workers {
				if want := (i == w); (one.State == looking) != want || (one.Task == aTask()) != want {
					t.Fatalf("worker %d of %d, behind a step of %d: %+v", i, n, w, one)
				}
			}
		}
	}
}

func TestAddS2(t *testing.T) {
	l := []api.Task{of(1, 1, aTask()), of(1, 2, bTask()), {}, of(math.MinInt, math.MaxInt, cTask()), of(1, 1, aTask()), of(5, 6, dTask())}
	for room := range 8 {
		for in := range room + 1 {
			for n := range len(l) + 1 {
				p := made(t, 2, room, 1, 1, 1)
				p.Queue.Tasks = slices.Repeat([]api.Task{hTask()}, in)
				fit := min(n, room-in)
				want := copied(p)
				want.Queue.Tasks = append(want.Queue.Tasks, l[:fit]...)
				if got, now, e := pool.Add(p, l[:n]...); got != fit || !same(now, want) || e != api.OK {
					t.Errorf("%d of %d, and %d more: %d, %+v, %d", in, room, n, got, now, e)
				}
				p.Queue.Closed = true
				if got, now, e := pool.Add(p, l[:n]...); got != 0 || !nothing(now) || e != api.ErrClosed {
					t.Errorf("%d of %d, Closed, and %d more: %d, %+v, %d", in, room, n, got, now, e)
				}
			}
		}
	}
	if got, now, e := pool.Add(scene()); got != 0 || !same(now, scene()) || e != api.OK {
		t.Errorf("none: %d, %+v, %d", got, now, e)
	}
}

// TestAddOfManyS2 fills the greatest room, and more than that.
func TestAddOfManyS2(t *testing.T) {
	l := make([]api.Task, 4200)
	for i := range l {
		l[i] = of(i, i, aTask())
	}
	n, p, e := pool.Add(made(t, 1, 4096, 1, 1, 1), l...)
	if n != 4096 || e != api.OK || !slices.Equal(p.Queue.Tasks, l[:4096]) {
		t.Fatalf("%d, %d, %d tasks", n, e, len(p.Queue.Tasks))
	}
	if n, p, e := pool.Add(p, l...); n != 0 || e != api.OK || !slices.Equal(p.Queue.Tasks, l[:4096]) {
		t.Errorf("full: %d, %d, %d tasks", n, e, len(p.Queue.Tasks))
	}
}

// TestAddAndCloseAreOfTheQueueAloneS2 is that all else of the scene is as it was, and that what is there may still be done.
func TestAddAndCloseAreOfTheQueueAloneS2(t *testing.T) {
	want := scene()
	want.Queue.Tasks = append(want.Queue.Tasks, of(8, 8, bTask()), of(9, 9, dTask()))
	n, p, e := pool.Add(scene(), of(8, 8, bTask()), of(9, 9, dTask()), of(7, 7, cTask()))
	if n != 2 || !same(p, want) || e != api.OK {
		t.Fatalf("%d, %+v, %d", n, p, e)
	}
	want.Queue.Closed = true
	for range 3 {
		if p, e = pool.Close(p); !same(p, want) || e != api.OK {
			t.Fatalf("%+v, %d", p, e)
		}
	}
	if n, now, e := pool.Add(p); n != 0 || !nothing(now) || e != api.ErrClosed {
		t.Errorf("none, behind Close: %d, %+v, %d", n, now, e)
	}
	for w := range p.Workers {
		wantDid, want, wantE := wantStep(want, w)
		if did, now, e := pool.Step(p, w); did != wantDid || !same(now, want) || e != wantE {
			t.Errorf("worker %d, behind Close: %v, %+v, %d", w, did, now, e)
		}
	}
}

func TestCollectS2(t *testing.T) {
	want := scene()
	want.Out = nil
	out, p, e := pool.Collect(scene())
	if !same(out, scene().Out) || !same(p, want) || e != api.OK {
		t.Fatalf("%v, %+v, %d", out, p, e)
	}
	if out, p, e := pool.Collect(p); len(out) > 0 || !same(p, want) || e != api.OK {
		t.Errorf("again: %v, %+v, %d", out, p, e)
	}
	p = made(t, 1, 1, 1, 1, 1)
	if out, now, e := pool.Collect(p); len(out) > 0 || !same(now, p) || e != api.OK {
		t.Errorf("of a new one: %v, %+v, %d", out, now, e)
	}
	// What is told may be anything: a pool is right all the same.
	for range 500 {
		p.Out = append(p.Out, api.Result{Req: -len(p.Out), Script: by(api.Edit{Op: 9, N: -9})}, api.Result{})
	}
	if out, now, e := pool.Collect(p); !same(out, p.Out) || len(now.Out) > 0 || e != api.OK {
		t.Errorf("of many: %d of them, %d", len(out), e)
	}
}

// TestDropOfTheSceneS2 is what is left of each request, by hand.
func TestDropOfTheSceneS2(t *testing.T) {
	whose := map[int]struct{ workers, queue, out []int }{
		1: {[]int{1, 5, 7, 12}, []int{1, 3}, []int{0, 2}},
		2: {[]int{2, 6, 8, 13}, []int{0, 2, 3}, []int{1, 2, 3}},
		3: {[]int{3, 9, 11}, []int{0, 1, 2, 3}, []int{0, 1, 3}},
		4: {[]int{4, 15}, []int{0, 1, 2, 3}, []int{0, 1, 2, 3}},
		5: {[]int{10}, []int{0, 1, 2, 3}, []int{0, 1, 2, 3}},
		6: {nil, []int{0, 1, 2}, []int{0, 1, 2, 3}},
	}
	for _, req := range append(farNumbers(), 3, 4, 5, 6, 7, -2, 20) {
		want := scene()
		if of, has := whose[req]; has {
			want.Queue.Tasks, want.Out = nil, nil
			for _, w := range of.workers {
				want.Workers[w].Dropped = true
			}
			for _, i := range of.queue {
				want.Queue.Tasks = append(want.Queue.Tasks, scene().Queue.Tasks[i])
			}
			for _, i := range of.out {
				want.Out = append(want.Out, scene().Out[i])
			}
		}
		p, e := pool.Drop(scene(), req)
		if !same(p, want) || e != api.OK {
			t.Errorf("Drop of %d: %+v, %d, not %+v", req, p, e, want)
		}
		if p, e = pool.Drop(p, req); !same(p, want) || e != api.OK {
			t.Errorf("Drop of %d again: %+v, %d", req, p, e)
		}
	}
}

// TestDropOfEachStateS2 has one worker of each State, with a request's number that may be that of who has no task, and others with another one.
func TestDropOfEachStateS2(t *testing.T) {
	for _, req := range farNumbers() {
		other := req ^ 1
		p := around(fills(fill(aTask(), 4, 5, 6), fill(bTask(), 7), fill(dTask(), 8, 9)),
			worker(idle, api.Task{}), worker(gone, api.Task{}), worker(looking, of(req, 1, aTask())), worker(looking, of(other, 1, aTask())),
			worker(filling, of(req, 1, aTask())), worker(waiting, of(other, req, aTask())), worker(waiting, of(req, 1, aTask())),
			worker(putting, of(req, 1, bTask())), worker(putting, of(other, req, dTask()), keep(1)), dropped(worker(waiting, of(other, req, dTask()))),
			worker(telling, of(req, 1, cTask())), worker(telling, of(other, req, cTask())), dropped(worker(telling, of(req, 1, cTask()))))
		p.Queue = api.Queue{Room: 5, Closed: req%2 == 0, Tasks: []api.Task{of(other, 1, aTask()), of(req, 1, aTask()), of(req, 2, aTask()), of(other, req, aTask()), of(req, 1, aTask())}}
		p.Out = []api.Result{result(of(req, 1, aTask())), result(of(other, req, aTask())), result(of(other, 2, aTask())), result(of(req, 2, aTask())), result(of(req, 2, aTask()))}
		want := copied(p)
		for _, w := range []int{2, 4, 6, 7, 10, 12} {
			want.Workers[w].Dropped = true
		}
		want.Queue.Tasks = []api.Task{of(other, 1, aTask()), of(other, req, aTask())}
		want.Out = []api.Result{result(of(other, req, aTask())), result(of(other, 2, aTask()))}
		if now, e := pool.Drop(p, req); !same(now, want) || e != api.OK {
			t.Errorf("Drop of %d: %+v, %d, not %+v", req, now, e, want)
		}
	}
}

// TestDropBehindS2 drops a request at each step of its task's way: it is told nowhere, and who waits for the same texts is told all the same; so is the request's next task.
func TestDropBehindS2(t *testing.T) {
	x, y := of(1, 1, aTask()), of(2, 2, aTask())
	for at := range 6 {
		p := put(t, made(t, 2, 3, 1, 0, 64), x, y)
		for i, w := range []int{0, 0, 1, 1, 0, 0, 0, 1} {
			if i >= 2 && i-2 == at {
				var e api.Errno
				if p, e = pool.Drop(p, 1); e != api.OK {
					t.Fatalf("Drop: %d", e)
				}
			}
			p = steps(t, p, w)
		}
		out, p := collected(t, p)
		if want := []api.Result{result(y, cut(1), keep(1))}; !same(out, want) {
			t.Fatalf("behind step %d: %v, not %v", at, out, want)
		}
		p = steps(t, put(t, p, x), 0, 0, 0, 0, 0)
		if out, _ := collected(t, p); !same(out, []api.Result{result(x, cut(1), keep(1))}) {
			t.Fatalf("behind step %d: the next one: %v", at, out)
		}
	}
}

// TestCloseS2 is that behind Close what waits is still done, and that all workers go then.
func TestCloseS2(t *testing.T) {
	x, y := of(1, 1, aTask()), of(2, 2, aTask())
	p := put(t, made(t, 2, 3, 1, 1, 64), x, y)
	p, e := pool.Close(p)
	if e != api.OK || !p.Queue.Closed || len(p.Queue.Tasks) != 2 {
		t.Fatalf("%+v, %d", p, e)
	}
	p = steps(t, p, 0, 0, 0, 0, 0, 0, 0, 0)
	if out, _ := collected(t, p); !same(out, []api.Result{result(x, diff(x)...), result(y, diff(y)...)}) {
		t.Errorf("%v", out)
	}
	p = steps(t, p, 0)
	if !slices.Equal(states(p), []int{gone, idle}) || pool.Busy(p) != 0 {
		t.Errorf("%v", states(p))
	}
	p = steps(t, p, 1)
	if !slices.Equal(states(p), []int{gone, gone}) || pool.Busy(p) != 0 {
		t.Errorf("%v", states(p))
	}
	for w := range 2 {
		if did, now, e := pool.Step(p, w); did || !same(now, p) || e != api.OK {
			t.Errorf("who is gone: %v, %+v, %d", did, now, e)
		}
	}
}

// TestCloseOfANewOneS2 is that workers who have done nothing yet go.
func TestCloseOfANewOneS2(t *testing.T) {
	p := made(t, 64, 0, 1, 0, 0)
	for w := range 64 {
		if did, now, e := pool.Step(p, w); did || !same(now, p) || e != api.OK {
			t.Fatalf("worker %d, ahead of Close: %v, %d", w, did, e)
		}
	}
	p, e := pool.Close(p)
	if e != api.OK {
		t.Fatal(e)
	}
	for w := range 64 {
		if p = steps(t, p, w); p.Workers[w].State != gone {
			t.Fatalf("worker %d: %v", w, states(p))
		}
	}
}
