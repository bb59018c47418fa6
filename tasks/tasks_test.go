package tasks_test

import (
	"math"
	"math/rand"
	"slices"
	"strconv"
	"strings"
	"testing"

	"collator/api"
	"collator/tasks"
)

func TestExampleQ1Q2(t *testing.T) {
	p, fault := tasks.Make(7, of(text("f", "a\n")), of(text("f", "b\n")), wide, 50)
	want := api.Plan{Entries: entries(modified("f")), Lacks: lacks(true), Todo: []api.Task{{Req: 7, Slot: 0, Left: "a\n", Right: "b\n"}}}
	if !same(p, want) || fault != (api.Fault{}) || !tasks.Right(p) || tasks.Lacking(p) != 1 {
		t.Fatalf("%+v, %v, not %+v", p, fault, want)
	}
	if l, is := tasks.Whole(p); is || len(l) > 0 {
		t.Errorf("whole ahead of its script: %+v", l)
	}
	p, e := tasks.Set(p, 0, by(keep(1)))
	want.Entries, want.Lacks = entries(modified("f", keep(1))), lacks(false)
	if e != api.OK || !same(p, want) || tasks.Lacking(p) != 0 {
		t.Fatalf("%+v, %d, not %+v", p, e, want)
	}
	if l, is := tasks.Whole(p); !is || !sameEntries(l, want.Entries) {
		t.Errorf("%+v, %v", l, is)
	}
}

// made is trees, and the plan that is asked of them.
type made struct {
	name      string
	a, b      []api.Item
	threshold int
	want      api.Plan
}

// run holds examples of trees against what they say, and against the chapter's words.
func run(t *testing.T, examples []made) {
	t.Helper()
	for _, x := range examples {
		got, fault := tasks.Make(5, x.a, x.b, wide, x.threshold)
		if fault != (api.Fault{}) || !same(got, x.want) {
			t.Errorf("%s: %+v %v, not %+v", x.name, got, fault, x.want)
		}
		checkMake(t, 5, x.a, x.b, wide, x.threshold)
		check(t, got, slotsOf(got), [][]api.Edit{nil, by(keep(2)), by(keep(0))})
	}
}

// one is a plan of one entry that asks for a script, of these texts.
func one(e api.Entry, left, right string) api.Plan {
	return api.Plan{Entries: entries(e), Lacks: lacks(true), Todo: []api.Task{{Req: 5, Left: left, Right: right}}}
}

func TestOneEntryQ1(t *testing.T) {
	run(t, []made{
		{"modified", of(file("f", "ab")), of(file("f", "ac")), 50, one(modified("f"), "a\nb\n", "a\nc\n")},
		{"modified, a line feed less", of(text("f", "x\n")), of(text("f", "x")), 50, one(modified("f"), "x\n", "x")},
		{"modified, bytes come", of(text("f", "")), of(text("f", "\x00\xff")), 50, one(modified("f"), "", "\x00\xff")},
		{"modified, bytes go", of(text("f", "\r\n")), of(text("f", "")), 50, one(modified("f"), "\r\n", "")},
		{"modified, in a dir", of(dir("d"), file("d/f", "a")), of(dir("d"), file("d/f", "b")), 50, one(modified("d/f"), "a\n", "b\n")},
		{"renamed as it was", of(file("a", "xy")), of(file("b", "xy")), 50, one(renamed("a", "b", 100), "x\ny\n", "x\ny\n")},
		{"renamed to a path that is less", of(file("b", "xy")), of(file("a", "xy")), 50, one(renamed("b", "a", 100), "x\ny\n", "x\ny\n")},
		{"renamed with another line", of(file("a", "wxyz")), of(file("b", "wxqz")), 50, one(renamed("a", "b", 75), "w\nx\ny\nz\n", "w\nx\nq\nz\n")},
		{"renamed without a byte", of(text("a", "")), of(text("b", "")), 100, one(renamed("a", "b", 100), "", "")},
		{"added, a file", nil, of(file("f", "x")), 50, plan(entries(added("f", 2, "x\n")), false)},
		{"added, a dir", nil, of(dir("d")), 50, plan(entries(added("d", 1, "")), false)},
		{"added, a link", nil, of(link("l", "to")), 50, plan(entries(added("l", 3, "to")), false)},
		{"deleted, a file", of(file("f", "x")), nil, 50, plan(entries(deleted("f", 2)), false)},
		{"deleted, a dir", of(dir("d")), nil, 50, plan(entries(deleted("d", 1)), false)},
		{"deleted, a link", of(link("l", "to")), nil, 50, plan(entries(deleted("l", 3)), false)},
		{"changed, a dir is a file", of(dir("p")), of(file("p", "x")), 50, plan(entries(changed("p", 1, 2, "x\n")), false)},
		{"changed, a dir is a link", of(dir("p")), of(link("p", "x")), 50, plan(entries(changed("p", 1, 3, "x")), false)},
		{"changed, a file is a dir", of(file("p", "x")), of(dir("p")), 50, plan(entries(changed("p", 2, 1, "")), false)},
		{"changed, a file is a link", of(file("p", "x")), of(link("p", "x\n")), 50, plan(entries(changed("p", 2, 3, "x\n")), false)},
		{"changed, a link is a dir", of(link("p", "x")), of(dir("p")), 50, plan(entries(changed("p", 3, 1, "")), false)},
		{"changed, a link is a file", of(link("p", "x\n")), of(file("p", "x")), 50, plan(entries(changed("p", 3, 2, "x\n")), false)},
		{"changed, a link elsewhere", of(link("p", "x")), of(link("p", "y")), 50, plan(entries(changed("p", 3, 3, "y")), false)},
		{"a link of lines asks for nothing", of(link("p", "x\ny\n")), of(link("p", "x\n")), 50, plan(entries(changed("p", 3, 3, "x\n")), false)},
	})
}

func TestNoEntriesQ1(t *testing.T) {
	a, _ := mixed()
	turned := slices.Clone(a)
	slices.Reverse(turned)
	run(t, []made{
		{"no trees", nil, nil, 50, api.Plan{}},
		{"trees without items", of(), of(), 50, api.Plan{}},
		{"a tree and itself", a, a, 50, api.Plan{}},
		{"a tree and itself in another order", a, turned, 50, api.Plan{}},
		{"a tree and itself, at 0", turned, a, 0, api.Plan{}},
		{"a dir", of(dir("d")), of(dir("d")), 50, api.Plan{}},
		{"a link", of(link("d", "x\n")), of(link("d", "x\n")), 50, api.Plan{}},
	})
	for _, p := range []api.Plan{{}, {Entries: entries(), Lacks: lacks(), Todo: []api.Task{}}} {
		if l, is := tasks.Whole(p); !is || len(l) > 0 || tasks.Lacking(p) != 0 || !tasks.Right(p) {
			t.Errorf("%+v: %+v, %v", p, l, is)
		}
	}
}

func TestManyEntriesQ1(t *testing.T) {
	a, b := mixed()
	run(t, []made{
		{"of everything one", a, b, 50, api.Plan{
			Entries: entries(
				added("added", 2, "t\n"),
				renamed("a gone", "b come", 75),
				changed("changed", 3, 3, "new link"),
				deleted("deleted", 2),
				renamed("went", "dir/went", 100),
				changed("kind", 1, 2, "was a dir"),
				modified("m2"),
				modified("modified"),
			),
			Lacks: lacks(false, true, false, false, true, false, true, true),
			Todo: []api.Task{
				{Req: 5, Slot: 1, Left: lines("wxyz"), Right: lines("wxyq")},
				{Req: 5, Slot: 4, Left: "as it was\n", Right: "as it was\n"},
				{Req: 5, Slot: 6, Left: lines("kl"), Right: lines("k")},
				{Req: 5, Slot: 7, Left: lines("abc"), Right: lines("bcd")},
			},
		}},
		{"the other way round", b, a, 76, api.Plan{
			Entries: entries(
				added("a gone", 2, lines("wxyz")),
				deleted("added", 2),
				deleted("b come", 2),
				changed("changed", 3, 3, "old link"),
				added("deleted", 2, "p\n"),
				changed("kind", 2, 1, ""),
				modified("m2"),
				modified("modified"),
				renamed("dir/went", "went", 100),
			),
			Lacks: lacks(false, false, false, false, false, false, true, true, true),
			Todo: []api.Task{
				{Req: 5, Slot: 6, Left: lines("k"), Right: lines("kl")},
				{Req: 5, Slot: 7, Left: lines("bcd"), Right: lines("abc")},
				{Req: 5, Slot: 8, Left: "as it was\n", Right: "as it was\n"},
			},
		}},
		{"two that are renamed crosswise", of(file("a", "wxyz"), file("b", "klmn")), of(file("c", "klmo"), file("d", "wxyv")), 50, api.Plan{
			Entries: entries(renamed("b", "c", 75), renamed("a", "d", 75)),
			Lacks:   lacks(true, true),
			Todo:    []api.Task{{Req: 5, Slot: 0, Left: lines("klmn"), Right: lines("klmo")}, {Req: 5, Slot: 1, Left: lines("wxyz"), Right: lines("wxyv")}},
		}},
		{"two that change places are modified", of(file("a", "x"), file("b", "y")), of(file("a", "y"), file("b", "x")), 50, api.Plan{
			Entries: entries(modified("a"), modified("b")),
			Lacks:   lacks(true, true),
			Todo:    []api.Task{{Req: 5, Slot: 0, Left: "x\n", Right: "y\n"}, {Req: 5, Slot: 1, Left: "y\n", Right: "x\n"}},
		}},
		{"one that has gone where a dir of its name came", of(file("p", "x"), file("q", "k")), of(dir("p"), file("p/p", "m"), file("r", "k")), 50, api.Plan{
			Entries: entries(changed("p", 2, 1, ""), added("p/p", 2, "m\n"), renamed("q", "r", 100)),
			Lacks:   lacks(false, false, true),
			Todo:    []api.Task{{Req: 5, Slot: 2, Left: "k\n", Right: "k\n"}},
		}},
	})
}

// TestReqsQ1 asks by all kinds of numbers.
func TestReqsQ1(t *testing.T) {
	a, b := mixed()
	for _, req := range far() {
		p, _ := checkMake(t, req, a, b, wide, 50)
		if len(p.Todo) != 4 {
			t.Fatalf("%+v", p.Todo)
		}
		for _, task := range p.Todo {
			if task.Req != req {
				t.Errorf("of %d: %+v", req, task)
			}
		}
	}
}

func TestThresholdsQ1(t *testing.T) {
	a, b := of(file("a", "stuv"), text("b", ""), file("c", "k")), of(file("d", "stuw"), text("e", ""), file("f", "m"))
	for threshold, want := range map[int]int{
		math.MinInt: 2, math.MinInt + 1: 2, -1: 2, 0: 2, 1: 2, 50: 2, 74: 2, 75: 2, 76: 1, 99: 1, 100: 1, 101: 0, 102: 0, 1 << 32: 0, math.MaxInt - 1: 0, math.MaxInt: 0,
	} {
		p, _ := checkMake(t, 1, a, b, wide, threshold)
		if tasks.Lacking(p) != want || len(p.Todo) != want || len(p.Entries) != 6-want {
			t.Errorf("at %d: %+v", threshold, p)
		}
		for i, e := range p.Entries {
			if p.Lacks[i] != (e.Op == api.Renamed) {
				t.Errorf("at %d: %+v", threshold, p)
			}
		}
	}
}

func is(path string, code api.Errno) api.Fault { return api.Fault{Path: path, Code: code} }

// faults is trees of which something is wrong, each one in one thing alone, and what that is within the limits of tight.
func faults() map[api.Fault][]api.Item {
	return map[api.Fault][]api.Item{
		is("p/", api.ErrPath):        of(file("p/", "x")),
		is("", api.ErrPath):          of(file("", "x")),
		is("p/q/r", api.ErrDepth):    of(dir("p"), dir("p/q"), file("p/q/r", "x")),
		is("p", api.ErrTwice):        of(file("p", "x"), file("p", "x")),
		is("p", api.ErrKind):         of(api.Item{Path: "p", Kind: 4}),
		is("q", api.ErrKind):         of(api.Item{Path: "q", Kind: 1, Data: "x"}),
		is("p/q", api.ErrParent):     of(file("p/q", "x")),
		is("p", api.ErrLong):         of(text("p", "long!")),
		is("p", api.ErrRead):         of(bad("p")),
		is("", api.ErrMany):          of(dir("p"), dir("q"), dir("r"), dir("s")),
		is("m", api.ErrRead):         of(bad("m"), bad("p")),
		is("a/b", api.ErrParent):     of(bad("p"), file("a/b", "x")),
		is("\xff/", api.ErrPath):     of(file("\xff/", "x")),
		is("\xff", api.ErrLong):      of(link("\xff", "too long")),
		is("very/long", api.ErrRead): of(dir("very"), bad("very/long")),
	}
}

var tight = api.Limits{Depth: 2, Size: 4, Count: 3}

func TestFaultsQ1(t *testing.T) {
	right := of(file("p", "x"), file("z", "y"))
	refused := func(a, b []api.Item, want api.Fault) {
		t.Helper()
		p, got := checkMake(t, 1, a, b, tight, 50)
		if got != want || !nothing(p) {
			t.Errorf("%+v and %+v: %+v, %v, not %v", a, b, p, got, want)
		}
	}
	for want, tree := range faults() {
		refused(tree, right, want)
		refused(right, tree, want)
		refused(tree, nil, want)
		refused(nil, tree, want)
		refused(tree, tree, want)
		for other, another := range faults() {
			checkMake(t, 1, tree, another, tight, 50)
			if want.Path == other.Path {
				// Of one path it is the first tree's that is told.
				refused(tree, another, want)
			}
		}
	}
	refused(of(bad("a")), of(file("b/", "x")), is("a", api.ErrRead))
	refused(of(file("b/", "x")), of(bad("a")), is("a", api.ErrRead))
	refused(of(bad("b")), of(file("//", "x")), is("//", api.ErrPath))
	refused(of(bad("a")), of(dir("a"), dir("b"), dir("c"), dir("d")), is("", api.ErrMany))
}

func TestLimitsQ1(t *testing.T) {
	a, b := mixed()
	for _, l := range []api.Limits{
		{}, {Depth: 2, Size: 10, Count: 9}, {Depth: 1, Size: 10, Count: 9}, {Depth: 2, Size: 9, Count: 9}, {Depth: 2, Size: 10, Count: 8}, {Depth: -1, Size: 10, Count: 9},
		{Depth: math.MaxInt, Size: math.MaxInt, Count: math.MaxInt}, {Depth: math.MinInt, Size: math.MinInt, Count: math.MinInt},
	} {
		checkMake(t, 1, a, b, l, 50)
		checkMake(t, 1, b, a, l, 50)
	}
	if _, fault := tasks.Make(1, nil, nil, api.Limits{Count: -1}, 50); fault != is("", api.ErrMany) {
		t.Errorf("%v", fault)
	}
}

// TestRightOfOneEntryQ2 has an entry of each Op, and of none, with and without a script, lacking and not.
func TestRightOfOneEntryQ2(t *testing.T) {
	scripts := [][]api.Edit{nil, by(), by(keep(1)), by(api.Edit{}), by(cut(1), add("x"))}
	for _, op := range append(far(), 3, 4, 5, 6, 1<<32+3, 1<<32+5, 1<<8+3, 1<<8+5, -3, -5) {
		for _, s := range scripts {
			for _, lack := range []bool{false, true} {
				p := plan(entries(api.Entry{Op: op, Path: "p", Script: s}), lack)
				want := !lack || (op == 3 || op == 5) && len(s) == 0
				if got := tasks.Right(p); got != want {
					t.Errorf("%+v: %v", p, got)
				}
				check(t, p, []int{0, 1, -1}, [][]api.Edit{nil, by(keep(1)), by(keep(0))})
			}
		}
	}
}

func TestRightOfLacksAndEntriesQ2(t *testing.T) {
	l := entries(modified("a"), renamed("b", "c", 60), added("d", 2, ""))
	for n := range 4 {
		for m := range 6 {
			p := plan(l[:n], make([]bool, m)...)
			if got := tasks.Right(p); got != (n == m) {
				t.Errorf("%d entries, %d lacks: %v", n, m, got)
			}
			check(t, p, slotsOf(p), [][]api.Edit{nil, by(keep(1)), by(keep(0))})
			if m == 0 {
				continue
			}
			p.Lacks[0] = true
			check(t, p, slotsOf(p), [][]api.Edit{nil, by(keep(1)), by(keep(0))})
		}
	}
}

// TestWrongAtEachPlaceQ2 has long plans that are wrong at one place alone.
func TestWrongAtEachPlaceQ2(t *testing.T) {
	base := func() api.Plan {
		var p api.Plan
		for i := range 12 {
			p.Entries = append(p.Entries, modified("f"+strconv.Itoa(i)))
			p.Lacks = append(p.Lacks, true)
		}
		return p
	}
	for i := range 12 {
		for what, spoil := range map[string]func(p *api.Plan){
			"lacks what it does not ask": func(p *api.Plan) { p.Entries[i].Op = api.Added },
			"is changed, and lacks":      func(p *api.Plan) { p.Entries[i].Op = api.Changed },
			"is deleted, and lacks":      func(p *api.Plan) { p.Entries[i].Op = api.Deleted },
			"is nothing, and lacks":      func(p *api.Plan) { p.Entries[i].Op = 0 },
			"lacks what it has":          func(p *api.Plan) { p.Entries[i].Script = by(keep(1)) },
			"is renamed, and has it":     func(p *api.Plan) { p.Entries[i].Op, p.Entries[i].Script = api.Renamed, by(api.Edit{}) },
		} {
			p := base()
			spoil(&p)
			if tasks.Right(p) {
				t.Errorf("entry %d %s: right", i, what)
			}
			for _, slot := range []int{0, i, 11, 12, -1} {
				checkSet(t, p, slot, by(keep(1)))
			}
			checkAsked(t, p)
			// It is right, as soon as that is not lacking.
			if p.Lacks[i] = false; !tasks.Right(p) || tasks.Lacking(p) != 11 {
				t.Errorf("entry %d %s, but is not lacking: not right", i, what)
			}
			checkAsked(t, p)
		}
	}
}

// TestTodoDoesNotMatterQ2 has right plans whose Todo is anything.
func TestTodoDoesNotMatterQ2(t *testing.T) {
	for _, todo := range [][]api.Task{
		nil, {}, {{Req: 1, Slot: 0}}, {{Req: 1, Slot: -4}, {Req: 1, Slot: -4}}, {{Req: math.MaxInt, Slot: math.MinInt, Left: "x"}, {}, {Slot: 99, Right: "y"}}, make([]api.Task, 30),
	} {
		for _, p := range []api.Plan{plan(nil), plan(entries(modified("f")), true), plan(entries(modified("f")), false), plan(entries(added("f", 2, "")), false)} {
			p.Todo = todo
			if !tasks.Right(p) {
				t.Errorf("%+v", p)
			}
			check(t, p, slotsOf(p), [][]api.Edit{nil, by(keep(1)), by(keep(0))})
		}
		p := plan(entries(modified("f")), true)
		p.Todo = todo
		if q, e := tasks.Set(p, 0, by(keep(1))); e != api.OK || !slices.Equal(q.Todo, todo) {
			t.Errorf("%+v, %d", q, e)
		}
	}
}

func TestLackingQ2(t *testing.T) {
	for n := range 70 {
		p := plan(nil, make([]bool, n)...)
		for i := range n {
			if tasks.Lacking(p) != i {
				t.Fatalf("%+v: %d", p, tasks.Lacking(p))
			}
			// Not from the first one on, but each place once: 13 is a prime.
			at := i
			if n%13 != 0 {
				at = i * 13 % n
			}
			p.Lacks[at] = true
		}
		if tasks.Lacking(p) != n {
			t.Fatalf("%+v: %d", p, tasks.Lacking(p))
		}
	}
	if n := tasks.Lacking(plan(entries(added("f", 2, ""), deleted("g", 2)), true)); n != 1 {
		t.Errorf("%d", n)
	}
}

// several is plans that are right, and such as are not.
func several() []api.Plan {
	a, b := mixed()
	first, _ := tasks.Make(5, a, b, wide, 50)
	second, _ := tasks.Make(-1, b, a, wide, 101)
	half := copied(first)
	half.Entries[4].Script, half.Lacks[4] = by(keep(1)), false
	half.Entries[7].Script, half.Lacks[7] = by(cut(1), keep(2), add("d\n")), false
	full := copied(half)
	full.Entries[1].Script, full.Lacks[1] = by(keep(3), cut(1), add("q\n")), false
	full.Lacks[6] = false
	odd := copied(half)
	odd.Entries[0].Script, odd.Entries[2].Script = by(keep(5)), by(add("x", "y"), add("z"))
	short, long := copied(first), copied(first)
	short.Lacks, long.Lacks = short.Lacks[:7], append(long.Lacks, false)
	wrong := copied(half)
	wrong.Lacks[7] = true
	return []api.Plan{{}, first, second, half, full, odd, short, long, wrong}
}

func TestSetQ2(t *testing.T) {
	for _, p := range several() {
		check(t, p, slotsOf(p), slices.Concat(rightScripts(), wrongScripts()))
	}
}

// TestSetErrorsQ2 tells each error by its number.
func TestSetErrorsQ2(t *testing.T) {
	p := plan(entries(modified("a"), modified("b", keep(1)), added("c", 2, "x"), renamed("d", "e", 60), renamed("f", "g", 60), deleted("h", 3), changed("i", 1, 2, "")), true, false, false, true, false, false, false)
	wrong := copied(p)
	wrong.Lacks[1] = true
	few := plan(p.Entries, true)
	none := api.Plan{Lacks: lacks(false)}
	fine, unfit := by(keep(1)), by(keep(1), keep(1))
	for i, x := range []struct {
		p    api.Plan
		slot int
		s    []api.Edit
		want api.Errno
	}{
		{p, 0, fine, 0}, {p, 0, nil, 0}, {p, 0, by(), 0}, {p, 3, fine, 0}, {p, 3, by(cut(4), add("x")), 0},
		{p, 0, unfit, 1}, {p, 3, unfit, 1}, {p, 1, unfit, 1}, {p, 2, unfit, 1}, {p, -1, unfit, 1}, {p, 7, unfit, 1}, {p, math.MaxInt, unfit, 1},
		{wrong, 0, fine, 1}, {wrong, 1, fine, 1}, {wrong, 2, fine, 1}, {wrong, 3, nil, 1}, {wrong, 9, fine, 1}, {wrong, -1, unfit, 1},
		{few, 0, fine, 1}, {few, 1, fine, 1}, {few, 7, fine, 1}, {none, 0, fine, 1}, {none, -1, unfit, 1},
		{p, -1, fine, 10}, {p, 7, fine, 10}, {p, 8, fine, 10}, {p, math.MinInt, fine, 10}, {p, math.MaxInt, nil, 10}, {p, 1 << 32, fine, 10}, {p, -7, fine, 10},
		{p, 2, fine, 10}, {p, 5, fine, 10}, {p, 6, fine, 10}, {p, 2, nil, 10}, {api.Plan{}, 0, fine, 10}, {api.Plan{}, -1, nil, 10},
		{p, 1, fine, 4}, {p, 1, nil, 4}, {p, 4, fine, 4}, {p, 4, by(), 4},
	} {
		got, e := tasks.Set(x.p, x.slot, x.s)
		if e != x.want || e != api.OK && !nothing(got) {
			t.Errorf("example %d: %+v, %d, not %d", i, got, e, x.want)
		}
		checkSet(t, x.p, x.slot, x.s)
	}
}

// TestWrongScriptsQ2 has each kind of script that is not right, where all else is.
func TestWrongScriptsQ2(t *testing.T) {
	p := plan(entries(modified("a"), renamed("b", "c", 60)), true, true)
	for _, s := range wrongScripts() {
		for slot := range 2 {
			if got, e := tasks.Set(p, slot, s); e != api.ErrArg || !nothing(got) {
				t.Errorf("%+v: %+v, %d", s, got, e)
			}
		}
	}
	for _, s := range rightScripts() {
		for slot := range 2 {
			got, e := tasks.Set(p, slot, s)
			if e != api.OK || !slices.EqualFunc(got.Entries[slot].Script, s, sameEdit) {
				t.Errorf("%+v: %+v, %d", s, got, e)
			}
		}
	}
}

// TestSetTwiceQ2 sets what has been set, even to nothing.
func TestSetTwiceQ2(t *testing.T) {
	for _, s := range rightScripts() {
		p := plan(entries(modified("a"), modified("b")), true, true)
		p, e := tasks.Set(p, 1, s)
		if e != api.OK || tasks.Lacking(p) != 1 {
			t.Fatalf("%+v, %d", p, e)
		}
		for _, again := range rightScripts() {
			if got, e := tasks.Set(p, 1, again); e != api.ErrTwice || !nothing(got) {
				t.Errorf("%+v behind %+v: %+v, %d", again, s, got, e)
			}
		}
		q, e := tasks.Set(p, 0, s)
		if e != api.OK || tasks.Lacking(q) != 0 {
			t.Fatalf("%+v, %d", q, e)
		}
		if l, is := tasks.Whole(q); !is || !sameEntries(l, entries(modified("a", s...), modified("b", s...))) {
			t.Errorf("%+v, %v", l, is)
		}
	}
}

// TestAllFieldsStayQ2 has entries whose fields are all something, and looks at them behind Set, and in the whole.
func TestAllFieldsStayQ2(t *testing.T) {
	entry := func(op int, name string) api.Entry {
		return api.Entry{Op: op, Path: name + " path", From: name + " from", Old: -7, New: 1 << 40, Data: name + " data", Score: math.MinInt}
	}
	p := plan(entries(entry(3, "a"), entry(5, "b"), entry(1, "c"), entry(77, "d")), true, true, false, false)
	p.Entries[2].Script = by(api.Edit{Op: 9, N: -1, Lines: []string{"odd", ""}}, keep(0))
	p.Todo = []api.Task{{Req: 3, Slot: 4, Left: "x", Right: "y"}, {Req: math.MinInt}}
	check(t, p, slotsOf(p), rightScripts())
	q, _ := tasks.Set(p, 1, by(keep(1), add("n")))
	r, e := tasks.Set(q, 0, by(cut(2)))
	want := copied(p)
	want.Entries[0].Script, want.Entries[1].Script, want.Lacks = by(cut(2)), by(keep(1), add("n")), make([]bool, 4)
	if e != api.OK || !same(r, want) {
		t.Errorf("%+v, %d, not %+v", r, e, want)
	}
	if l, is := tasks.Whole(r); !is || !sameEntries(l, want.Entries) {
		t.Errorf("%+v, %v", l, is)
	}
}

// oddEntries is entries of each Op, and of none, with and without a script.
func oddEntries() []api.Entry {
	var l []api.Entry
	for op := range 7 {
		for _, s := range [][]api.Edit{nil, by(keep(1)), by(api.Edit{})} {
			l = append(l, api.Entry{Op: op, Path: strconv.Itoa(len(l)), Script: s})
		}
	}
	return l
}

// TestAllSmallPlansQ2 has all plans of up to two odd entries and up to three Lacks.
func TestAllSmallPlansQ2(t *testing.T) {
	lists := [][]api.Entry{nil}
	for _, one := range oddEntries() {
		lists = append(lists, entries(one))
		for _, two := range oddEntries() {
			lists = append(lists, entries(one, two))
		}
	}
	for _, l := range lists {
		for n := range 4 {
			for bits := range 1 << n {
				p := plan(l)
				for i := range n {
					p.Lacks = append(p.Lacks, bits>>i&1 == 1)
				}
				check(t, p, []int{-1, 0, 1, 2}, [][]api.Edit{nil, by(cut(1)), by(cut(0))})
			}
		}
	}
}

func TestPlansOfChanceQ2(t *testing.T) {
	chance := rand.New(rand.NewSource(17))
	scripts := slices.Concat(rightScripts(), wrongScripts()[:4])
	right := 0
	for range 4000 {
		var p api.Plan
		for i := range chance.Intn(9) {
			e := api.Entry{Op: 1 + chance.Intn(5), Path: strconv.Itoa(i), Data: someText(chance, 3)}
			lack := (e.Op == 3 || e.Op == 5) && chance.Intn(2) == 0
			if chance.Intn(60) == 0 {
				lack = !lack
			}
			if !lack && chance.Intn(2) == 0 || chance.Intn(60) == 0 {
				e.Script = scripts[chance.Intn(len(scripts))]
			}
			p.Entries, p.Lacks = append(p.Entries, e), append(p.Lacks, lack)
			p.Todo = append(p.Todo, api.Task{Req: chance.Intn(3), Slot: i, Left: someText(chance, 3)})
		}
		if chance.Intn(40) == 0 {
			p.Lacks = append(p.Lacks, false)
		}
		if tasks.Right(p) {
			right++
		}
		check(t, p, slotsOf(p)[21:], scripts)
	}
	if right < 2000 || right > 3900 {
		t.Errorf("%d of 4000 are right", right)
	}
}

func TestAllSmallTreesQ1(t *testing.T) {
	list := small(kinds("p"), kinds("q"))
	for _, a := range list {
		for _, b := range list {
			for _, threshold := range []int{-1, 66, 67, 101} {
				p, _ := checkMake(t, 3, a, b, wide, threshold)
				if !tasks.Right(p) || tasks.Lacking(p) != len(p.Todo) {
					t.Fatalf("%+v", p)
				}
			}
		}
	}
}

func TestAllShortListsQ1(t *testing.T) {
	odd := of(
		dir("a"), file("a", "x"), bad("a"), api.Item{Path: "a", Kind: 1, Data: "x"}, file("a/b", "x"), file("a/b", "xxx"),
		api.Item{Path: "a/b", Kind: 9}, file("a/b/c", "x"), bad("a!"), dir(""), file("/", "x"), api.Item{Path: "..", Kind: -1, Bad: true},
	)
	lists := [][]api.Item{nil}
	for _, x := range odd {
		lists = append(lists, of(x))
		for _, y := range odd {
			lists = append(lists, of(x, y))
		}
	}
	for _, a := range lists {
		for _, b := range lists {
			checkMake(t, 3, a, b, api.Limits{Depth: 2, Size: 4, Count: 2}, 50)
		}
	}
}

func TestSomeTreesQ1(t *testing.T) {
	chance := rand.New(rand.NewSource(171))
	asked := 0
	for i := range 2000 {
		letters := 1 + i%6
		a, b := grow(chance, nil, "", letters), grow(chance, nil, "", letters)
		p, _ := checkMake(t, chance.Int(), shuffled(chance, a), shuffled(chance, b), wide, chance.Intn(112)-5)
		checkAsked(t, p)
		asked += len(p.Todo)
	}
	if asked < 4000 {
		t.Errorf("%d tasks in all", asked)
	}
}

// TestMuchQ1Q2 has great trees, and a plan of many entries.
func TestMuchQ1Q2(t *testing.T) {
	var a, b []api.Item
	for i := range 4000 {
		name := strconv.Itoa(i)
		a, b = append(a, file("x"+name, "ab")), append(b, text("x"+name, "a\n"+strings.Repeat("b", i%3)+"\n"))
	}
	p, _ := checkMake(t, 1, a, b, wide, 50)
	if len(p.Todo) < 2000 || !tasks.Right(p) {
		t.Fatalf("%d", len(p.Todo))
	}
	slot := p.Todo[len(p.Todo)-1].Slot
	checkSet(t, p, slot, by(keep(1)))
	long := strings.Repeat("line\n", 100000)
	q, _ := checkMake(t, 1, of(text("f", long)), of(text("f", long+"end")), api.Limits{Depth: 1, Size: 1 << 20, Count: 1}, 50)
	checkSet(t, q, 0, by(keep(100000), add("end")))
	checkSet(t, q, 0, by(cut(1), add(strings.SplitAfter(long, "\n")...)))
}
