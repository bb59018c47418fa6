package flight_test

import (
	"math"
	"math/rand"
	"slices"
	"testing"

	"collator/api"
	"collator/flight"
)

// visit is what a plain reader would write down of one who has begun: who, for which texts, and what has come of it.
type visit struct {
	who        int
	p          pair
	finds      bool
	done       bool
	left, told int
}

// over tells whether nothing more can come of a visit.
func (v *visit) over() bool { return v.done || v.left > 0 || v.told > 0 }

// account is all visits, in the order in which they began.
type account struct {
	visits []*visit
}

// open is the visit of one who is there.
func (a *account) open(who int) *visit {
	for _, v := range a.visits {
		if v.who == who && !v.over() {
			return v
		}
	}
	return nil
}

// finder is the visit of who finds out for texts.
func (a *account) finder(p pair) *visit {
	for _, v := range a.visits {
		if v.p == p && v.finds && !v.over() {
			return v
		}
	}
	return nil
}

// waiting is the visits of those that wait for texts, who came first ahead.
func (a *account) waiting(p pair) []*visit {
	var l []*visit
	for _, v := range a.visits {
		if v.p == p && !v.finds && !v.over() {
			l = append(l, v)
		}
	}
	return l
}

// fills is what the account has there.
func (a *account) fills() []api.Fill {
	var f []api.Fill
	for _, v := range a.visits {
		if v.finds && !v.over() {
			x := fill(v.p.left, v.p.right, v.who)
			for _, w := range a.waiting(v.p) {
				x.Waiting = append(x.Waiting, w.who)
			}
			f = append(f, x)
		}
	}
	return f
}

// call is one of a journey's; p has only what Begin is called with.
type call struct {
	what string
	p    pair
	who  int
}

// journey is one row of calls, and the account beside it.
type journey struct {
	t     *testing.T
	a     account
	f     []api.Fill
	steps []call
	// What has come of it, so that a test can tell whether there was enough of each kind.
	firsts, waits, tolds, leaves, twices, nones int
}

// note writes down a call, for who looks for what has gone wrong.
func (j *journey) note(what string, p pair, who int) {
	j.steps = append(j.steps, call{what, p, who})
}

func (j *journey) begin(p pair, who int) {
	j.t.Helper()
	j.note("Begin", p, who)
	first, now, e := flight.Begin(j.f, p.left, p.right, who)
	if j.a.open(who) != nil {
		if first || len(now) > 0 || e != api.ErrTwice {
			j.t.Fatalf("%v: %v, %v, %d by who is there already", j.steps, first, now, e)
		}
		j.twices++
		return
	}
	if want := j.a.finder(p) == nil; first != want || e != api.OK {
		j.t.Fatalf("%v: %v, %d, not %v", j.steps, first, e, want)
	}
	j.a.visits = append(j.a.visits, &visit{who: who, p: p, finds: first})
	if j.f = now; first {
		j.firsts++
	} else {
		j.waits++
	}
}

func (j *journey) done(who int) {
	j.t.Helper()
	j.note("Done", pair{}, who)
	told, now, e := flight.Done(j.f, who)
	v := j.a.open(who)
	if v == nil || !v.finds {
		if len(told) > 0 || len(now) > 0 || e != api.ErrNone {
			j.t.Fatalf("%v: %v, %v, %d by who is no By", j.steps, told, now, e)
		}
		j.nones++
		return
	}
	wait := j.a.waiting(v.p)
	v.done = true
	if len(told) != len(wait) || e != api.OK {
		j.t.Fatalf("%v: %v are told, %d, not %d of them", j.steps, told, e, len(wait))
	}
	for i, w := range wait {
		if told[i] != w.who {
			j.t.Fatalf("%v: %v are told, but at %d it is %d's turn", j.steps, told, i, w.who)
		}
		w.told++
	}
	j.f = now
	j.tolds += len(told)
}

func (j *journey) leave(who int) {
	j.t.Helper()
	j.note("Leave", pair{}, who)
	now, e := flight.Leave(j.f, who)
	v := j.a.open(who)
	if v == nil || v.finds {
		if len(now) > 0 || e != api.ErrNone {
			j.t.Fatalf("%v: %v, %d by who waits for none", j.steps, now, e)
		}
		j.nones++
		return
	}
	if e != api.OK {
		j.t.Fatalf("%v: %d by who waits", j.steps, e)
	}
	v.left++
	j.f = now
	j.leaves++
}

// same fails if what is there is not what the account has there.
func (j *journey) same() {
	j.t.Helper()
	if want := j.a.fills(); !same(j.f, want) || !flight.Right(j.f) {
		j.t.Fatalf("%v: there is %v, not %v", j.steps, j.f, want)
	}
}

// end lets all who find out be done, and looks at what has become of each visit.
func (j *journey) end() {
	j.t.Helper()
	for len(j.f) > 0 {
		j.done(j.f[len(j.f)/2].By)
		j.same()
	}
	for _, v := range j.a.visits {
		if v.finds && (!v.done || v.told+v.left > 0) || !v.finds && (v.done || v.told+v.left != 1) {
			j.t.Fatalf("%v: of %d, for %q, finding out %v: done %v, told %d times, has left %d times", j.steps, v.who, v.p, v.finds, v.done, v.told, v.left)
		}
	}
}

// travel goes so many steps of chance.
func (j *journey) travel(chance *rand.Rand, steps int, some []pair, whos []int) {
	j.t.Helper()
	for range steps {
		who := whos[chance.Intn(len(whos))]
		switch chance.Intn(8) {
		case 0:
			j.done(who)
		case 1, 2:
			j.leave(who)
		default:
			j.begin(some[chance.Intn(len(some))], who)
		}
		j.same()
	}
}

// TestManyRowsBesideAnAccountO3 has few texts and many, few who ask and many, and odd ones of both.
func TestManyRowsBesideAnAccountO3(t *testing.T) {
	chance := rand.New(rand.NewSource(3))
	var sum journey
	for range 600 {
		whos, some := append(far(), 3, 4, 5, 6, 7), alikes()
		chance.Shuffle(len(whos), func(i, j int) { whos[i], whos[j] = whos[j], whos[i] })
		chance.Shuffle(len(some), func(i, j int) { some[i], some[j] = some[j], some[i] })
		j := &journey{t: t}
		j.travel(chance, 100, some[:1+chance.Intn(6)], whos[:1+chance.Intn(len(whos))])
		j.end()
		sum.firsts, sum.waits, sum.tolds = sum.firsts+j.firsts, sum.waits+j.waits, sum.tolds+j.tolds
		sum.leaves, sum.twices, sum.nones = sum.leaves+j.leaves, sum.twices+j.twices, sum.nones+j.nones
	}
	if sum.firsts < 3000 || sum.waits < 3000 || sum.tolds < 3000 || sum.leaves < 2000 || sum.twices < 3000 || sum.nones < 3000 {
		t.Errorf("too few of a kind: %d find out, %d wait, %d are told, %d have left, %d are there already, %d are nowhere",
			sum.firsts, sum.waits, sum.tolds, sum.leaves, sum.twices, sum.nones)
	}
}

// step does the n-th of all steps of some texts and numbers, and tells how many there are.
func (j *journey) step(n int, some []pair, whos []int) int {
	who := whos[n%len(whos)]
	switch kind := n / len(whos) % (len(some) + 2); kind {
	case len(some):
		j.done(who)
	case len(some) + 1:
		j.leave(who)
	default:
		j.begin(some[kind], who)
	}
	return (len(some) + 2) * len(whos)
}

// TestAllShortRowsO3 goes all rows of four or five steps, by few numbers, for few texts.
func TestAllShortRowsO3(t *testing.T) {
	for _, x := range []struct {
		some   []pair
		whos   []int
		length int
	}{
		{[]pair{{"ab", ""}, {"a", "b"}}, numbers(0, -1, math.MaxInt), 5},
		{[]pair{{"", ""}}, numbers(0, 1, 2), 5},
		{[]pair{{"a", "b"}, {"a", "c"}, {"b", "c"}}, numbers(0, math.MinInt), 4},
	} {
		all := 1
		for range x.length {
			all *= (len(x.some) + 2) * len(x.whos)
		}
		for n := range all {
			j := &journey{t: t}
			for range x.length {
				n /= j.step(n, x.some, x.whos)
			}
			j.same()
			j.end()
		}
	}
}

// TestOneAloneFindsOutO3 lets many ask for the same texts, in rounds: by each round's answers alone there is one that finds out, and all others that stay are told, in order.
func TestOneAloneFindsOutO3(t *testing.T) {
	chance := rand.New(rand.NewSource(33))
	var f []api.Fill
	for round := range 300 {
		whos := chance.Perm(2 + chance.Intn(40))
		finds, stay := -1, []int(nil)
		for _, who := range whos {
			first, now, e := flight.Begin(f, "left", "right", who)
			if e != api.OK || first && finds >= 0 {
				t.Fatalf("round %d: %d finds out, and %d: %v, %d", round, finds, who, first, e)
			}
			if f = now; first {
				finds = who
				continue
			}
			if stay = append(stay, who); chance.Intn(3) == 0 {
				i := chance.Intn(len(stay))
				if f, e = flight.Leave(f, stay[i]); e != api.OK {
					t.Fatalf("round %d: Leave of %d: %d", round, stay[i], e)
				}
				stay = slices.Delete(stay, i, i+1)
			}
		}
		told, now, e := flight.Done(f, finds)
		if !slices.Equal(told, stay) || len(now) > 0 || e != api.OK {
			t.Fatalf("round %d: %v are told, not %v; %v, %d", round, told, stay, now, e)
		}
		f = now
	}
}
