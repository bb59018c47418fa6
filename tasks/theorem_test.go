package tasks_test

import (
	"math/rand"
	"slices"
	"strconv"
	"testing"

	"collator/api"
	"collator/compare"
	"collator/tasks"
)

// orders is all orders of so many things.
func orders(n int) [][]int {
	if n == 0 {
		return [][]int{nil}
	}
	var all [][]int
	for _, less := range orders(n - 1) {
		for i := range n {
			all = append(all, slices.Insert(slices.Clone(less), i, n-1))
		}
	}
	return all
}

// travel sets a plan's scripts in an order, and fails if the whole is not what Compare tells, or is there ahead of the last one.
func travel(t *testing.T, p api.Plan, order []int, want []api.Entry) {
	t.Helper()
	for i, place := range order {
		if l, is := tasks.Whole(p); is || len(l) > 0 {
			t.Fatalf("%v: behind %d scripts it is whole: %+v", order, i, l)
		}
		if n := tasks.Lacking(p); n != len(order)-i || !tasks.Right(p) {
			t.Fatalf("%v: behind %d scripts it lacks %d, right %v", order, i, n, tasks.Right(p))
		}
		task := p.Todo[place]
		q, e := tasks.Set(p, task.Slot, diff(task))
		if e != api.OK || !slices.Equal(q.Todo, p.Todo) {
			t.Fatalf("%v: Set of %+v: %d, %+v", order, task, e, q)
		}
		if _, e := tasks.Set(q, task.Slot, diff(task)); e != api.ErrTwice {
			t.Fatalf("%v: Set of %+v once more: %d", order, task, e)
		}
		p = q
	}
	if l, is := tasks.Whole(p); !is || !sameEntries(l, want) || tasks.Lacking(p) != 0 {
		t.Fatalf("%v: the whole is %+v, %v, not %+v", order, l, is, want)
	}
}

// setOut is the plan of two trees, and what Compare tells of these.
func setOut(t *testing.T, a, b []api.Item, threshold int) (api.Plan, []api.Entry) {
	t.Helper()
	p, fault := tasks.Make(1, a, b, wide, threshold)
	want, wantFault := compare.Compare(a, b, wide, threshold)
	if fault != wantFault || fault != (api.Fault{}) {
		t.Fatalf("%v, %v", fault, wantFault)
	}
	return p, want
}

// TestAllOrdersQ3 has plans of up to six scripts, and all orders of these.
func TestAllOrdersQ3(t *testing.T) {
	for n := range 7 {
		var a, b []api.Item
		for i := range n {
			name := strconv.Itoa(i)
			switch i % 3 {
			case 0:
				a, b = append(a, file("m"+name, "abc"+name)), append(b, file("m"+name, "bcd"+name))
			case 1:
				a, b = append(a, file("old"+name, "wxyz"+name)), append(b, file("new"+name, "wxy"+name+"q"))
			default:
				a, b = append(a, file("gone"+name, "klmn"+name)), append(b, file("come"+name, "klmn"+name))
			}
		}
		a, b = append(a, dir("d"), link("l", "x"), file("out", "p")), append(b, link("l", "y"), text("d", "file"), file("in", "r"))
		p, want := setOut(t, a, b, 50)
		if len(p.Todo) != n {
			t.Fatalf("%d tasks, not %d", len(p.Todo), n)
		}
		for _, order := range orders(n) {
			travel(t, p, order, want)
		}
	}
}

// TestAllOrdersOfSmallTreesQ3 has all trees of two paths.
func TestAllOrdersOfSmallTreesQ3(t *testing.T) {
	list := small(kinds("p"), kinds("q"))
	for _, a := range list {
		for _, b := range list {
			for _, threshold := range []int{1, 67} {
				p, want := setOut(t, a, b, threshold)
				for _, order := range orders(len(p.Todo)) {
					travel(t, p, order, want)
				}
			}
		}
	}
}

// TestOrdersOfChanceQ3 has trees of chance, and of each some orders.
func TestOrdersOfChanceQ3(t *testing.T) {
	chance := rand.New(rand.NewSource(51))
	most, all := 0, 0
	for i := range 1200 {
		letters := 1 + i%6
		a, b := grow(chance, nil, "", letters), grow(chance, nil, "", letters)
		p, want := setOut(t, shuffled(chance, a), shuffled(chance, b), chance.Intn(112)-5)
		order := make([]int, len(p.Todo))
		for j := range order {
			order[j] = j
		}
		for range 6 {
			travel(t, p, shuffled(chance, order), want)
		}
		most, all = max(most, len(order)), all+len(order)
	}
	if most < 15 || all < 3000 {
		t.Errorf("%d tasks in all, %d at most", all, most)
	}
}

// TestManyScriptsQ3 has one plan of many scripts, forwards, backwards and in many other orders.
func TestManyScriptsQ3(t *testing.T) {
	chance := rand.New(rand.NewSource(52))
	var a, b []api.Item
	for i := range 60 {
		name := strconv.Itoa(i)
		a = append(a, file("m"+name, "a"+someText(chance, 4)), file("old"+name, "common"+someText(chance, 4)))
		b = append(b, file("m"+name, "b"+someText(chance, 4)), file("new"+name, "common"+someText(chance, 4)))
	}
	p, want := setOut(t, a, b, 40)
	if len(p.Todo) < 80 {
		t.Fatalf("%d tasks", len(p.Todo))
	}
	order := make([]int, len(p.Todo))
	for i := range order {
		order[i] = i
	}
	travel(t, p, order, want)
	slices.Reverse(order)
	travel(t, p, order, want)
	for range 12 {
		travel(t, p, shuffled(chance, order), want)
	}
}

// TestRefusalsOnTheWayQ3 tries, between right scripts, what is refused: the plan is as it was, and the whole too.
func TestRefusalsOnTheWayQ3(t *testing.T) {
	chance := rand.New(rand.NewSource(53))
	wrong := wrongScripts()
	for i := range 300 {
		letters := 1 + i%6
		p, want := setOut(t, grow(chance, nil, "", letters), grow(chance, nil, "", letters), 30)
		todo := shuffled(chance, p.Todo)
		for tries := 0; len(todo) > 0 && tries < 500; tries++ {
			slot, s := todo[0].Slot, diff(todo[0])
			if chance.Intn(2) == 0 {
				slot = chance.Intn(len(p.Entries)+4) - 2
			}
			if chance.Intn(3) == 0 {
				s = wrong[chance.Intn(len(wrong))]
			}
			at := slices.IndexFunc(todo, func(task api.Task) bool { return task.Slot == slot })
			if at >= 0 && wantRightScript(s) {
				s = diff(todo[at])
				todo = slices.Delete(todo, at, at+1)
			}
			was := copied(p)
			q, e := tasks.Set(p, slot, s)
			wantQ, wantE := wantSet(was, slot, s)
			if !same(q, wantQ) || e != wantE || !same(p, was) {
				t.Fatalf("Set at %d to %+v: %+v, %d, not %+v, %d", slot, s, q, e, wantQ, wantE)
			}
			if e == api.OK {
				p = q
			}
		}
		if l, is := tasks.Whole(p); !is || !sameEntries(l, want) {
			t.Fatalf("%+v, %v, not %+v", l, is, want)
		}
	}
}

// TestAnotherScriptStaysQ3 sets scripts that are not their tasks': the whole has just these, whatever the texts are.
func TestAnotherScriptStaysQ3(t *testing.T) {
	a, b := mixed()
	for _, s := range rightScripts() {
		p, want := setOut(t, a, b, 50)
		for _, task := range p.Todo {
			p, _ = tasks.Set(p, task.Slot, s)
			want[task.Slot].Script = s
		}
		if l, is := tasks.Whole(p); !is || !sameEntries(l, want) {
			t.Errorf("%+v, %v, not %+v", l, is, want)
		}
	}
}
