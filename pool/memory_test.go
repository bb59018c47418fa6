package pool_test

import (
	"strconv"
	"testing"

	"collator/api"
	"collator/pool"
)

// call is one of those that the chapter lists, by all that it is called with but the pool: what it answers that may have memory.
type call struct {
	name string
	do   func(p api.Pool) []any
}

// calls is each call that answers a pool, by what it is called with, too.
func calls() []call {
	all := []call{
		{"Collect", func(p api.Pool) []any {
			out, now, _ := pool.Collect(p)
			return []any{out, now}
		}},
		{"Close", func(p api.Pool) []any {
			now, _ := pool.Close(p)
			return []any{now}
		}},
	}
	for w := -1; w < 17; w++ {
		all = append(all, call{"Step of " + strconv.Itoa(w), func(p api.Pool) []any {
			_, now, _ := pool.Step(p, w)
			return []any{now}
		}})
	}
	for req := -1; req < 7; req++ {
		all = append(all, call{"Drop of " + strconv.Itoa(req), func(p api.Pool) []any {
			now, _ := pool.Drop(p, req)
			return []any{now}
		}})
	}
	for i, l := range lists() {
		all = append(all, call{"Add of list " + strconv.Itoa(i), func(p api.Pool) []any {
			_, now, _ := pool.Add(p, l...)
			return []any{now}
		}})
	}
	return all
}

// lists is what is added: nothing, fewer than there is room for, and more.
func lists() [][]api.Task {
	return [][]api.Task{nil, {}, {of(1, 50, aTask())}, {of(2, 51, bTask()), of(3, 52, hTask()), of(1, 53, gTask()), of(7, 54, dTask()), of(8, 55, eTask())}}
}

// several is pools of many kinds, right ones and such as are not right.
func several(t *testing.T) []api.Pool {
	l := bases(t)
	// Lists without elements have room behind them, too.
	bare := made(t, 3, 4, 2, 3, 64)
	bare.Flight, bare.Out, bare.Queue.Tasks = fills(), []api.Result{}, []api.Task{}
	bare.Workers[1].Script = []api.Edit{}
	told := around(fills(fill(bTask(), 0, 1, 2)), worker(putting, bTask(), add("c\n"), api.Edit{Op: 1, N: 1, Lines: []string{}}), worker(waiting, bTask()), worker(waiting, bTask()))
	told.Workers = append(told.Workers, worker(telling, of(1, 1, aTask()), keep(1), add("x", "y")), worker(idle, api.Task{}))
	told.Queue.Tasks = []api.Task{of(1, 2, aTask()), of(2, 3, dTask())}
	wrong := scene()
	wrong.Workers[0].State = 7
	return append(l, bare, told, wrong, api.Pool{})
}

func TestWhatIsHandedInIsAsItWasS1S2S3(t *testing.T) {
	for i, base := range several(t) {
		for behind := range 3 {
			p := roomy(base, behind)
			was := written(whole(p))
			pool.Right(p)
			pool.Busy(p)
			if written(whole(p)) != was {
				t.Fatalf("Right or Busy of pool %d, %d behind: %s, not %s", i, behind, written(whole(p)), was)
			}
			for _, c := range calls() {
				c.do(p)
				if written(whole(p)) != was {
					t.Fatalf("%s of pool %d, %d behind: %s, not %s", c.name, i, behind, written(whole(p)), was)
				}
			}
			for _, l := range lists() {
				l = roomy(l, behind)
				given := written(whole(l))
				pool.Add(p, l...)
				if written(whole(p)) != was || written(whole(l)) != given {
					t.Fatalf("Add of %d to pool %d, %d behind: %s, %s", len(l), i, behind, written(whole(p)), written(whole(l)))
				}
			}
		}
	}
}

// TestNothingIsKeptS2S3 writes into what was handed in, texts and lists, when the answer is there.
func TestNothingIsKeptS2S3(t *testing.T) {
	for i, base := range several(t) {
		for _, c := range calls() {
			want := written(c.do(copied(base))...)
			p, spoilPool := lent(base)
			answer := c.do(p)
			spoilPool()
			if got := written(answer...); got != want {
				t.Fatalf("%s of pool %d keeps what was handed in: %s, not %s", c.name, i, got, want)
			}
		}
		for _, l := range lists() {
			wantN, want, wantE := wantAdd(base, l...)
			l, spoilList := lent(l)
			n, now, e := pool.Add(copied(base), l...)
			spoilList()
			if n != wantN || !same(now, want) || e != wantE {
				t.Fatalf("Add of %d to pool %d keeps them: %d, %+v, %d", len(l), i, n, now, e)
			}
		}
	}
}

// apart fails if a text or a list of an answer has memory in common with another one of it, or with one that was handed in. It is called when both are there, so that neither has got memory that the other one has let go.
func apart(t *testing.T, what string, answer []any, given ...any) {
	t.Helper()
	if meet := meeting(blocks(answer...), blocks(given...)); meet != nil {
		t.Fatalf("%s: %v meet", what, meet)
	}
}

// TestAllThatComesOutIsNewMemoryS2S3 is that no text and no list of an answer, spare room too, has memory in common with another one of it, or with one that was handed in.
func TestAllThatComesOutIsNewMemoryS2S3(t *testing.T) {
	for i, base := range several(t) {
		p := roomy(base, 2)
		for _, c := range calls() {
			one := c.do(p)
			two := c.do(p)
			apart(t, c.name+" of pool "+strconv.Itoa(i), one, p)
			apart(t, c.name+" of pool "+strconv.Itoa(i)+" again", two, append(one, p)...)
		}
		for _, l := range lists() {
			l = roomy(l, 2)
			_, now, _ := pool.Add(p, l...)
			apart(t, "Add to pool "+strconv.Itoa(i), []any{now}, l, p)
		}
	}
}

// TestOneTextManyTimesS2S3 hands in one text, one list of lines and one script wherever there may be one: they come out as many.
func TestOneTextManyTimesS2S3(t *testing.T) {
	text := "the same text"
	s := by(cut(1), add(text))
	x := task(1, 1, text, text)
	twice := slot(x, text)
	p := around(fills(fill(x, 0, 1, 2)), worker(putting, x, s...), worker(waiting, x), worker(waiting, x), worker(telling, x, s...), worker(telling, x, s...), worker(looking, x))
	p.Queue.Tasks, p.Out = []api.Task{x, x}, []api.Result{result(x, s...), result(x, s...)}
	p.Cache.Parts = [][]api.Slot{{twice}}
	if !pool.Right(p) {
		t.Fatal("it is not right")
	}
	for _, c := range calls() {
		apart(t, c.name, c.do(p), p)
	}
	_, now, _ := pool.Add(p, x, x, x)
	apart(t, "Add", []any{now}, p, text)
}

// TestListsAreNobodyElsesMemoryS2S3 grows what came out, and writes into it, and looks at another answer, and at what was handed in; and the other way round.
func TestListsAreNobodyElsesMemoryS2S3(t *testing.T) {
	for i, base := range several(t) {
		for _, c := range calls() {
			p := roomy(base, 2)
			was := written(whole(p))
			want := written(c.do(copied(base))...)
			one, two := c.do(p), c.do(p)
			for _, x := range one {
				spoil(x)
			}
			if written(two...) != want {
				t.Fatalf("%s of pool %d: what was written into one answer is in another one: %s, not %s", c.name, i, written(two...), want)
			}
			if written(whole(p)) != was {
				t.Fatalf("%s of pool %d: what was written into an answer is in what was handed in: %s", c.name, i, written(whole(p)))
			}
			spoil(p)
			if written(two...) != want {
				t.Fatalf("%s of pool %d: what was written into what was handed in is in an answer: %s, not %s", c.name, i, written(two...), want)
			}
		}
	}
}

// TestResultsAreNobodyElsesS2 writes into what Collect tells, and goes on with the pool; and writes into the pool, and looks at the Results.
func TestResultsAreNobodyElsesS2(t *testing.T) {
	for i, base := range several(t) {
		wantOut, want, _ := wantCollect(base)
		out, p, _ := pool.Collect(base)
		spoil(out)
		if !same(p, want) {
			t.Fatalf("pool %d: what was written into the Results is in the pool: %+v", i, p)
		}
		out, p, _ = pool.Collect(base)
		if spoil(p); !same(out, wantOut) {
			t.Fatalf("pool %d: what was written into the pool is in the Results: %+v", i, out)
		}
	}
}

// TestWhoWasToldHasItsOwnS3 writes into the Script of each one that has what was found out, and looks at the others.
func TestWhoWasToldHasItsOwnS3(t *testing.T) {
	for who := range 4 {
		x := of(1, 1, dTask())
		p := around(fills(fill(x, 2, 1, 0, 3)), worker(waiting, x), worker(waiting, x), worker(putting, x, diff(x)...), worker(waiting, x))
		p = steps(t, p, 2)
		spoil(p.Workers[who].Script)
		for w, one := range p.Workers {
			if w != who && !same(one, worker(telling, x, cut(1), add("f\n"))) {
				t.Errorf("what was written into worker %d is in worker %d: %+v", who, w, one)
			}
		}
		for _, part := range p.Cache.Parts {
			for _, s := range part {
				if s != slot(dTask(), "-1;+1;2:f\n") {
					t.Errorf("what was written into worker %d is in the cache: %+v", who, s)
				}
			}
		}
	}
}

// TestBranchesS2S3 goes on from one answer in several ways: none of them changes it, or another one.
func TestBranchesS2S3(t *testing.T) {
	for i, base := range several(t) {
		for _, c := range calls() {
			first := c.do(base)
			p := first[len(first)-1].(api.Pool)
			was := written(whole(p))
			var answers [][]any
			var wants []string
			for _, next := range calls() {
				answers = append(answers, next.do(p))
				wants = append(wants, written(next.do(copied(p))...))
			}
			for j, answer := range answers {
				if written(whole(p)) != was || written(answer...) != wants[j] {
					t.Fatalf("%s behind %s of pool %d: %s, not %s", calls()[j].name, c.name, i, written(answer...), wants[j])
				}
				for _, x := range answer {
					spoil(x)
				}
			}
		}
	}
}

func TestNewIsNobodyElsesMemoryS1(t *testing.T) {
	for _, workers := range []int{1, 2, 64} {
		one, two := made(t, workers, 3, 16, 4, 5), made(t, workers, 3, 16, 4, 5)
		apart(t, "New", []any{one}, two)
		want := copied(two)
		spoil(one)
		if !same(two, want) {
			t.Errorf("%d workers: what was written into one pool is in another one: %+v", workers, two)
		}
	}
}

// TestTheSameTwiceS1S2S3 asks the same again, with other calls between.
func TestTheSameTwiceS1S2S3(t *testing.T) {
	l := several(t)
	var first []string
	for range 3 {
		n := 0
		for i, p := range l {
			for _, c := range calls() {
				answer := written(c.do(p)...) + strconv.FormatBool(pool.Right(p)) + strconv.Itoa(pool.Busy(p))
				if n == len(first) {
					first = append(first, answer)
				}
				if answer != first[n] {
					t.Fatalf("%s of pool %d tells something else: %s, not %s", c.name, i, answer, first[n])
				}
				n++
			}
		}
	}
}
