package pool_test

import (
	"math/rand"
	"slices"
	"strconv"
	"strings"
	"testing"

	"collator/api"
	"collator/cache"
	"collator/pool"
)

// story is a pool that New has told, and what has become of each task that came in. The Slot of a task is its number among these.
type story struct {
	t       *testing.T
	p       api.Pool
	room    int
	slots   int
	came    []api.Task
	dropped []bool
	told    []int
	// ended is that Close was called.
	ended bool
	// scripts is Diff of texts, which is asked often.
	scripts map[[2]string]string
	// kinds is how often there was what a test wants enough of.
	kinds map[string]int
	// steps is what was done, for who looks for what has gone wrong.
	steps []string
}

func newStory(t *testing.T, workers, room, parts, slots, width int) *story {
	t.Helper()
	return &story{t: t, p: made(t, workers, room, parts, slots, width), room: room, slots: slots, scripts: make(map[[2]string]string), kinds: make(map[string]int)}
}

// fork is the same story, from here on with steps of its own.
func (s *story) fork() *story {
	other := *s
	other.dropped, other.told, other.steps = slices.Clone(s.dropped), slices.Clone(s.told), slices.Clone(s.steps)
	other.came = slices.Clone(s.came)
	return &other
}

func (s *story) note(what string, n int) { s.steps = append(s.steps, what+" "+strconv.Itoa(n)) }

func (s *story) fail(why string) {
	s.t.Helper()
	s.t.Fatalf("%s, behind %v: %s", why, s.steps, written(s.p))
}

// add lets tasks of a request come, by their texts.
func (s *story) add(req int, l ...api.Task) {
	s.t.Helper()
	s.note("Add", len(l))
	var all []api.Task
	for i, x := range l {
		all = append(all, of(req, len(s.came)+i, x))
	}
	n, now, e := pool.Add(s.p, all...)
	if s.ended {
		if n != 0 || !nothing(now) || e != api.ErrClosed {
			s.fail("Add behind Close")
		}
		return
	}
	if n != min(len(l), s.room-len(s.p.Queue.Tasks)) || e != api.OK {
		s.fail("Add of " + strconv.Itoa(n))
	}
	s.p = now
	s.came = append(s.came, all[:n]...)
	s.dropped = append(s.dropped, make([]bool, n)...)
	s.told = append(s.told, make([]int, n)...)
}

func (s *story) close() {
	s.t.Helper()
	s.note("Close", 0)
	now, e := pool.Close(s.p)
	if e != api.OK {
		s.fail("Close")
	}
	s.p, s.ended = now, true
}

func (s *story) drop(req int) {
	s.t.Helper()
	s.note("Drop", req)
	for _, w := range s.p.Workers {
		if w.State != idle && w.State != gone && w.Task.Req == req && !w.Dropped {
			s.kinds["Dropped at "+strconv.Itoa(w.State)]++
		}
	}
	now, e := pool.Drop(s.p, req)
	if e != api.OK {
		s.fail("Drop")
	}
	s.p = now
	for i, x := range s.came {
		if x.Req == req {
			s.dropped[i] = true
		}
	}
}

// collect holds each Result against Diff of its task's texts.
func (s *story) collect() {
	s.t.Helper()
	s.note("Collect", 0)
	out, now, e := pool.Collect(s.p)
	if e != api.OK || len(now.Out) > 0 {
		s.fail("Collect")
	}
	s.p = now
	for _, r := range out {
		if r.Slot < 0 || r.Slot >= len(s.came) || s.came[r.Slot].Req != r.Req {
			s.fail("a Result of no task: " + written(r))
		}
		if s.dropped[r.Slot] {
			s.fail("a Result of what was dropped: " + written(r))
		}
		if written(r.Script) != s.script(s.came[r.Slot]) {
			s.fail("a Result that is not Diff: " + written(r))
		}
		if s.told[r.Slot]++; s.told[r.Slot] > 1 {
			s.fail("a second Result of one task: " + written(r))
		}
	}
	s.kinds["told"] += len(out)
}

func (s *story) script(x api.Task) string {
	texts := [2]string{x.Left, x.Right}
	if s.scripts[texts] == "" {
		s.scripts[texts] = written(diff(x))
	}
	return s.scripts[texts]
}

// left is how much there is left to do: whatever is done makes it less, but for what comes in.
func left(p api.Pool) int {
	of := [7]int{idle: 1, looking: 6, filling: 5, putting: 4, waiting: 3, telling: 2, gone: 0}
	n := 6 * len(p.Queue.Tasks)
	for _, w := range p.Workers {
		n += of[w.State]
	}
	return n
}

// step lets a worker go on, and tells whether it did something.
func (s *story) step(w int) bool {
	s.t.Helper()
	s.note("Step", w)
	before, was := s.p.Workers[w], written(s.p)
	did, now, e := pool.Step(s.p, w)
	if e != api.OK || !pool.Right(now) {
		s.fail("Step")
	}
	if did == (written(now) == was) || did && left(now) >= left(s.p) {
		s.fail("Step tells " + strconv.FormatBool(did) + ", but it is " + written(now))
	}
	s.count(before, now.Workers[w], now)
	s.p = now
	return did
}

func (s *story) count(before, after api.Worker, now api.Pool) {
	s.kinds["from "+strconv.Itoa(before.State)+" to "+strconv.Itoa(after.State)]++
	if before.State == putting && before.Dropped && len(now.Flight) < len(s.p.Flight) {
		for _, w := range now.Workers {
			if w.State == telling && !w.Dropped && w.Task.Left == before.Task.Left && w.Task.Right == before.Task.Right {
				s.kinds["told by who was Dropped"]++
			}
		}
	}
	s.kinds["clashes"] += now.Cache.Clashes - s.p.Cache.Clashes
	s.kinds["evicted"] += now.Cache.Evicted - s.p.Cache.Evicted
}

// bounded fails if there is more than there is room for.
func (s *story) bounded() {
	s.t.Helper()
	if !pool.Right(s.p) || len(s.p.Queue.Tasks) > s.room || s.p.Queue.Room != s.room || cache.Size(s.p.Cache) > s.slots || s.p.Cache.Room != s.slots {
		s.fail("more than there is room for")
	}
}

// waits tells whether a task waits, or a worker is busy.
func (s *story) waits() bool { return len(s.p.Queue.Tasks) > 0 || pool.Busy(s.p) > 0 }

// settled fails if what is done is not just what came in, and was not dropped. It is called where nobody can do anything.
func (s *story) settled() {
	s.t.Helper()
	if s.waits() || len(s.p.Flight) > 0 {
		s.fail("nobody can do anything, and something is left")
	}
	if s.ended && slices.ContainsFunc(s.p.Workers, func(w api.Worker) bool { return w.State != gone }) {
		s.fail("behind Close not all are Gone")
	}
	s.collect()
	for i, n := range s.told {
		if n == 0 && !s.dropped[i] {
			s.fail("nothing was told of " + written(s.came[i]))
		}
	}
}

// finish lets all go on, in turn, till nobody can do anything.
func (s *story) finish() {
	s.t.Helper()
	for did := true; did; {
		did = false
		some := s.waits()
		for w := range s.p.Workers {
			did = s.step(w) || did
		}
		if some && !did {
			s.fail("nobody can do anything")
		}
	}
	s.settled()
}

// world is a story's beginning, and what may be done at any time beside the steps, each thing once.
type world struct {
	workers, room, parts, slots, width int
	tasks                              []api.Task
	acts                               []func(s *story)
}

// all goes through all orders: at each state all workers may go on, and all acts be done that have not been yet. States that are known already are left out.
func (w world) all(t *testing.T) map[string]int {
	t.Helper()
	s := newStory(t, w.workers, w.room, w.parts, w.slots, w.width)
	for i, x := range w.tasks {
		s.add(1+i%2, x)
	}
	known := make(map[string]bool)
	w.from(s, make([]bool, len(w.acts)), known)
	s.kinds["states"] = len(known)
	return s.kinds
}

func (w world) from(s *story, done []bool, known map[string]bool) {
	s.t.Helper()
	state := written(s.p, s.told, s.dropped, done)
	if known[state] {
		return
	}
	known[state] = true
	s.bounded()
	checkOneByOne(s.t, s.p)
	any := false
	for i := range s.p.Workers {
		next := s.fork()
		if next.step(i) {
			any = true
			w.from(next, done, known)
		}
	}
	if s.waits() && !any {
		s.fail("nobody can do anything")
	}
	for i, act := range w.acts {
		if !done[i] {
			next, also := s.fork(), slices.Clone(done)
			also[i] = true
			act(next)
			w.from(next, also, known)
		}
	}
	if !any {
		s.fork().settled()
	}
}

// checkOneByOne holds Step of each worker against the chapter's words.
func checkOneByOne(t *testing.T, p api.Pool) {
	t.Helper()
	for w := range p.Workers {
		did, now, e := pool.Step(p, w)
		if wantDid, want, wantE := wantStep(p, w); did != wantDid || !same(now, want) || e != wantE {
			t.Fatalf("Step of %d, of %s: %v, %s, %d, not %v, %s, %d", w, written(p), did, written(now), e, wantDid, written(want), wantE)
		}
	}
}

// TestAllOrdersS4 goes through all orders in which the workers of small pools may go on, with Add, Drop, Collect and Close between.
func TestAllOrdersS4(t *testing.T) {
	x, y, z := aTask(), task(0, 0, "Aa", "r"), task(0, 0, "BB", "r")
	drop := func(req int) func(s *story) { return func(s *story) { s.drop(req) } }
	more := func(req int, l ...api.Task) func(s *story) { return func(s *story) { s.add(req, l...) } }
	collect, end := (*story).collect, (*story).close
	for i, w := range []world{
		{1, 3, 1, 1, 64, []api.Task{x, x, y}, []func(s *story){drop(1), end, collect, more(1, z)}},
		{2, 2, 1, 1, 64, []api.Task{x, x}, []func(s *story){drop(2), end, collect}},
		{2, 2, 1, 0, 64, []api.Task{x, x}, []func(s *story){drop(1), more(2, x), end}},
		{2, 2, 2, 1, 0, []api.Task{y, z}, []func(s *story){more(3, y, z), end}},
		{2, 4, 1, 1, 64, []api.Task{y, z, y, z}, []func(s *story){end}},
		{2, 4, 1, 4, 64, []api.Task{x, y, x, y}, []func(s *story){drop(2)}},
		{3, 3, 1, 2, 64, []api.Task{x, x, x}, []func(s *story){drop(1)}},
		{3, 3, 2, 2, 3, []api.Task{x, y, x}, []func(s *story){end}},
		{3, 4, 1, 0, 0, []api.Task{x, x, x, x}, nil},
		{4, 4, 1, 1, 64, []api.Task{x, x, x, x}, nil},
		{3, 3, 1, 1, 64, []api.Task{x, y, x}, []func(s *story){drop(1), end}},
		{2, 1, 1, 1, 64, []api.Task{x}, []func(s *story){more(1, y), more(2, x), drop(1), end}},
		{2, 0, 1, 1, 64, nil, []func(s *story){more(1, x), drop(1), end, collect}},
	} {
		kinds := w.all(t)
		t.Logf("world %d: %v", i, kinds)
		if kinds["states"] < 10 {
			t.Errorf("world %d: only %d states", i, kinds["states"])
		}
	}
}

// someTexts is texts of which some are empty, some have no line feed at the end, and some have the same sums by any width.
func someTexts() []string {
	return []string{"", "Aa", "BB", "Aa\n", "BB\n", lines("ab"), lines("ba"), lines("aab") + "x", "\n\n", "\x00", "AaAa", "AaBB", "BBAa", "a", "b"}
}

// pairs is a task of each two texts.
func pairs(texts []string) []api.Task {
	var l []api.Task
	for _, left := range texts {
		for _, right := range texts {
			l = append(l, task(0, 0, left, right))
		}
	}
	return l
}

// TestAllTextsAtEachWidthS4 has each two of these texts, twice, at each width, with room for all slots and for few.
func TestAllTextsAtEachWidthS4(t *testing.T) {
	chance := rand.New(rand.NewSource(19))
	sum := make(map[string]int)
	texts := someTexts()
	for width := range 65 {
		chance.Shuffle(len(texts), func(i, j int) { texts[i], texts[j] = texts[j], texts[i] })
		l := pairs(texts[:5])
		l = append(l, l...)
		parts, slots := []int{1, 2, 5, 16}[width%4], []int{0, 1, 2, 7, 60}[width%5]
		s := newStory(t, 1+width%4, len(l), parts, slots, width)
		chance.Shuffle(len(l), func(i, j int) { l[i], l[j] = l[j], l[i] })
		s.add(1, l...)
		for s.waits() {
			s.step(chance.Intn(len(s.p.Workers)))
			s.bounded()
		}
		s.settled()
		if s.kinds["told"] != 50 {
			t.Fatalf("%d told", s.kinds["told"])
		}
		for kind, n := range s.kinds {
			sum[kind] += n
		}
	}
	enough(t, sum, 30, "clashes", "evicted", "from 1 to 5", "from 1 to 3")
}

// TestEachPairOfTextsS4 has each two of these texts alone, and asks for them four times: it is found out, waited for, and had from the cache.
func TestEachPairOfTextsS4(t *testing.T) {
	for _, x := range pairs(someTexts()) {
		for _, width := range []int{0, 1, 64} {
			s := newStory(t, 2, 4, 1, 1, width)
			s.add(7, x, x, x, x)
			for _, w := range []int{0, 1, 0, 1, 0, 0, 0, 1, 0, 0, 0, 1, 1, 1} {
				if !s.step(w) {
					s.fail("nothing is done")
				}
			}
			s.settled()
			if s.p.Cache.Hits != 2 || s.p.Cache.Misses != 2 || s.kinds["told"] != 4 {
				s.fail("what the cache tells")
			}
		}
	}
}

// enough fails if there was less of some kind.
func enough(t *testing.T, kinds map[string]int, least int, names ...string) {
	t.Helper()
	for _, name := range names {
		if kinds[name] < least {
			t.Errorf("only %d of %s: %v", kinds[name], name, kinds)
		}
	}
}

// someTask is a task of chance; of few signs there are more that are the same.
func someTask(chance *rand.Rand, signs int) api.Task {
	text := func() string {
		if chance.Intn(3) == 0 {
			return someTexts()[chance.Intn(len(someTexts()))]
		}
		var b strings.Builder
		for range chance.Intn(6) {
			b.WriteByte("ab\n\nc"[chance.Intn(min(signs, 5))])
		}
		return b.String()
	}
	return task(0, 0, text(), text())
}

// travel goes so many steps of chance, of which most let a worker go on.
func (s *story) travel(chance *rand.Rand, steps, signs, reqs int) {
	s.t.Helper()
	some := make([]api.Task, 1+chance.Intn(8))
	for i := range some {
		some[i] = someTask(chance, signs)
	}
	for range steps {
		switch chance.Intn(40) {
		case 0, 1, 2:
			l := make([]api.Task, chance.Intn(6))
			for i := range l {
				l[i] = some[chance.Intn(len(some))]
			}
			s.add(chance.Intn(reqs), l...)
		case 3:
			s.drop(chance.Intn(reqs))
		case 4:
			s.collect()
		case 5:
			if chance.Intn(20) == 0 {
				s.close()
			}
		default:
			s.step(chance.Intn(len(s.p.Workers)))
		}
		s.bounded()
		// Else what went wrong is told with all that went well long ago.
		s.steps = s.steps[max(0, len(s.steps)-60):]
	}
}

// TestManyOrdersOfChanceS4 has pools of few and of many workers, with much room and with little.
func TestManyOrdersOfChanceS4(t *testing.T) {
	chance := rand.New(rand.NewSource(57))
	sum := make(map[string]int)
	for i := range 150 {
		workers := 1 + chance.Intn(9)
		if i%25 == 0 {
			workers = 64 - i%50/25
		}
		s := newStory(t, workers, chance.Intn(30), 1+chance.Intn(16), chance.Intn(12)*chance.Intn(2), chance.Intn(65)*chance.Intn(2))
		s.travel(chance, 300, 1+i%5, 1+chance.Intn(9))
		// Of those that stay open nobody goes: at the end all are Idle.
		if chance.Intn(2) == 0 {
			s.close()
		}
		s.finish()
		for kind, n := range s.kinds {
			sum[kind] += n
		}
	}
	enough(t, sum, 100, "told", "evicted", "told by who was Dropped", "from 0 to 0", "from 0 to 1", "from 0 to 6", "from 1 to 2", "from 1 to 3", "from 1 to 5",
		"from 2 to 4", "from 3 to 3", "from 4 to 5", "from 5 to 0", "from 6 to 6")
	enough(t, sum, 20, "clashes", "Dropped at 1", "Dropped at 2", "Dropped at 3", "Dropped at 4", "Dropped at 5")
}

// TestPoolsOfChanceS2S3 holds all calls against the chapter's words, with pools that are right, but that no New leads to: scripts are any, and so is what the cache has.
func TestPoolsOfChanceS2S3(t *testing.T) {
	chance := rand.New(rand.NewSource(191))
	for i := range 400 {
		p := somePool(chance)
		if !pool.Right(p) || !wantRight(p) {
			t.Fatalf("pool %d is not right: %v", i, broken(p))
		}
		a := asked{reqs: []int{-1, 0, 1, 2, 3}, workers: []int{-1, len(p.Workers)}}
		for n := range 4 {
			var l []api.Task
			for range n * chance.Intn(4) {
				l = append(l, someTask(chance, 3))
			}
			a.lists = append(a.lists, l)
		}
		for w := range p.Workers {
			a.workers = append(a.workers, w)
		}
		check(t, p, a)
	}
}

// somePool is a pool of chance that is right.
func somePool(chance *rand.Rand) api.Pool {
	p := api.Pool{Workers: make([]api.Worker, 1+chance.Intn(12))}
	some := pairs(someTexts()[:3+chance.Intn(3)])
	any := func() api.Task {
		return of(chance.Intn(4), chance.Intn(5)-1, some[chance.Intn(len(some))])
	}
	for i := range p.Workers {
		w := worker(chance.Intn(7), any())
		w.Dropped = chance.Intn(3) == 0
		at := slices.IndexFunc(p.Flight, func(f api.Fill) bool { return f.Left == w.Task.Left && f.Right == w.Task.Right })
		switch {
		case w.State == idle, w.State == gone:
			w = worker(w.State, api.Task{})
		case (w.State == filling || w.State == putting) && at >= 0, w.State == waiting && len(p.Flight) == 0:
			w.State = looking
		case w.State == waiting:
			f := &p.Flight[chance.Intn(len(p.Flight))]
			w.Task.Left, w.Task.Right = f.Left, f.Right
			f.Waiting = append(f.Waiting, i)
		case w.State == filling, w.State == putting:
			p.Flight = append(p.Flight, fill(w.Task, i))
		}
		if w.State == putting || w.State == telling {
			w.Script = rightScripts()[chance.Intn(len(rightScripts()))]
		}
		p.Workers[i] = w
	}
	p.Queue = api.Queue{Room: 12, Closed: chance.Intn(2) == 0}
	for range chance.Intn(13) {
		p.Queue.Tasks = append(p.Queue.Tasks, any())
	}
	p.Cache, _ = cache.New(1+chance.Intn(16), chance.Intn(40), chance.Intn(65))
	for range chance.Intn(60) {
		x := any()
		val := []string{"", "=1;", "junk", "+2;0:1:a", "=", "-1;+1;1:r"}[chance.Intn(6)]
		p.Cache, _ = cache.Put(p.Cache, x.Left, x.Right, val)
	}
	for range chance.Intn(9) {
		p.Out = append(p.Out, result(any(), wrongScripts()[chance.Intn(3)]...))
	}
	return p
}
