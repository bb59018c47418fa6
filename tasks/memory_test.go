package tasks_test

import (
	"slices"
	"testing"
	"unsafe"

	"collator/api"
	"collator/tasks"
)

// lent is a text in memory that its owner can write into.
func lent(s string) (string, func()) {
	memory := []byte(s)
	return unsafe.String(unsafe.SliceData(memory), len(memory)), func() {
		for i := range memory {
			memory[i] = '#'
		}
	}
}

// roomy is a copy of a list with something written in the room behind its length.
func roomy[T any](l []T, behind T) []T {
	all := append(slices.Clone(l), behind, behind, behind)
	return all[:len(l):len(all)]
}

// whole is a copy of a list to the end of its memory.
func whole[T any](l []T) []T { return slices.Clone(l[:cap(l)]) }

// overwrite writes into a list, spare room too.
func overwrite[T any](l []T, by T) {
	l = l[:cap(l)]
	for i := range l {
		l[i] = by
	}
}

var (
	badEdit  = api.Edit{Op: 2, N: 99, Lines: []string{"spoilt"}}
	badEntry = api.Entry{Op: 3, Path: "spoilt", From: "spoilt", Old: 99, New: 99, Data: "spoilt", Score: 99, Script: []api.Edit{badEdit}}
	badTask  = api.Task{Req: -99, Slot: -99, Left: "spoilt", Right: "spoilt"}
	badItem  = api.Item{Path: "spoilt/", Kind: 99, Data: "spoilt", Bad: true}
)

// roomyScript is a copy of a script with room behind all its lists, those without elements too.
func roomyScript(s []api.Edit) []api.Edit {
	s = roomy(s, badEdit)
	for i := range s {
		s[i].Lines = roomy(s[i].Lines, "behind")
	}
	return s
}

func roomyEntries(l []api.Entry) []api.Entry {
	l = roomy(l, badEntry)
	for i := range l {
		l[i].Script = roomyScript(l[i].Script)
	}
	return l
}

func roomyPlan(p api.Plan) api.Plan {
	return api.Plan{Entries: roomyEntries(p.Entries), Lacks: roomy(p.Lacks, true), Todo: roomy(p.Todo, badTask)}
}

// wholePlan is a copy of a plan with all that stands behind the lengths of its lists.
func wholePlan(p api.Plan) api.Plan {
	q := api.Plan{Entries: whole(p.Entries), Lacks: whole(p.Lacks), Todo: whole(p.Todo)}
	for i := range q.Entries {
		q.Entries[i].Script = wholeScript(q.Entries[i].Script)
	}
	return q
}

func wholeScript(s []api.Edit) []api.Edit {
	s = whole(s)
	for i := range s {
		s[i].Lines = whole(s[i].Lines)
	}
	return s
}

func spoilScript(s []api.Edit) {
	for _, edit := range s {
		overwrite(edit.Lines, "spoilt")
	}
	overwrite(s, badEdit)
}

func spoilEntries(l []api.Entry) {
	for _, e := range l {
		spoilScript(e.Script)
	}
	overwrite(l, badEntry)
}

// spoil writes into all lists of a plan, spare room too.
func spoil(p api.Plan) {
	spoilEntries(p.Entries)
	overwrite(p.Lacks, true)
	overwrite(p.Todo, badTask)
}

// growPlan appends to all lists of a plan, so that what has spare room in common with others would be seen there.
func growPlan(p api.Plan) {
	growEntries(p.Entries)
	_ = append(p.Lacks, true, true)
	_ = append(p.Todo, badTask, badTask)
}

func growEntries(l []api.Entry) {
	for _, e := range l {
		for _, edit := range e.Script {
			_ = append(edit.Lines, "grown", "grown")
		}
		_ = append(e.Script, badEdit, badEdit)
	}
	_ = append(l, badEntry, badEntry)
}

// textsOfScript is all texts of a script, where they stand.
func textsOfScript(s []api.Edit) []*string {
	var all []*string
	for i := range s {
		for j := range s[i].Lines {
			all = append(all, &s[i].Lines[j])
		}
	}
	return all
}

func textsOfEntries(l []api.Entry) []*string {
	var all []*string
	for i := range l {
		all = append(all, &l[i].Path, &l[i].From, &l[i].Data)
		all = append(all, textsOfScript(l[i].Script)...)
	}
	return all
}

func textsOf(p api.Plan) []*string {
	all := textsOfEntries(p.Entries)
	for i := range p.Todo {
		all = append(all, &p.Todo[i].Left, &p.Todo[i].Right)
	}
	return all
}

func textsIn(items []api.Item) []*string {
	var all []*string
	for i := range items {
		all = append(all, &items[i].Path, &items[i].Data)
	}
	return all
}

// lend puts all these texts into memory that their owner can write into.
func lend(texts []*string) func() {
	var spoils []func()
	for _, text := range texts {
		mine, spoil := lent(*text)
		*text = mine
		spoils = append(spoils, spoil)
	}
	return func() {
		for _, spoil := range spoils {
			spoil()
		}
	}
}

// meet tells whether two texts have a byte of memory in common.
func meet(a, b string) bool {
	p, q := uintptr(unsafe.Pointer(unsafe.StringData(a))), uintptr(unsafe.Pointer(unsafe.StringData(b)))
	return a != "" && b != "" && p < q+uintptr(len(b)) && q < p+uintptr(len(a))
}

// apart fails if a text of an answer has memory in common with another one of it, or with one that was handed in.
func apart(t *testing.T, what string, answer, given []*string) {
	t.Helper()
	for i, text := range answer {
		for _, other := range slices.Concat(given, answer[:i]) {
			if meet(*text, *other) {
				t.Fatalf("%s: %q is %q, too", what, *text, *other)
			}
		}
	}
}

// pairs is trees of which plans are asked; some have one text many times.
func pairs() [][2][]api.Item {
	a, b := mixed()
	once := "the same text\n"
	path := "path"
	return [][2][]api.Item{
		{a, b}, {b, a}, {a, nil}, {nil, b}, {a, a},
		{of(text("f", once), text("g", once), text(path, "x")), of(text("f", once+"m"), text("h", once), text(path, once))},
		{of(bad("not to be read")), of(file("//", "x"))}, {nil, of(file("no path/", "x"))}, {of(bad("not to be read")), nil},
	}
}

func TestWhatIsHandedInIsAsItWasQ1(t *testing.T) {
	for i, pair := range pairs() {
		a, b := roomy(pair[0], badItem), roomy(pair[1], badItem)
		wasA, wasB := whole(a), whole(b)
		for _, threshold := range []int{-1, 50, 101} {
			tasks.Make(1, a, b, wide, threshold)
			tasks.Make(1, a, a, tight, threshold)
		}
		if !slices.Equal(whole(a), wasA) || !slices.Equal(whole(b), wasB) {
			t.Errorf("pair %d: %+v and %+v", i, whole(a), whole(b))
		}
	}
}

func TestWhatIsHandedInIsAsItWasQ2(t *testing.T) {
	for i, base := range several() {
		p := roomyPlan(base)
		was := wholePlan(p)
		asIs := func(what string) {
			t.Helper()
			if !same(wholePlan(p), was) {
				t.Fatalf("%s of plan %d: %+v", what, i, wholePlan(p))
			}
		}
		tasks.Right(p)
		asIs("Right")
		tasks.Lacking(p)
		asIs("Lacking")
		tasks.Whole(p)
		asIs("Whole")
		for _, slot := range slotsOf(p) {
			for _, s := range slices.Concat(rightScripts(), wrongScripts()) {
				s = roomyScript(s)
				given := wholeScript(s)
				tasks.Set(p, slot, s)
				if asIs("Set"); !slices.EqualFunc(wholeScript(s), given, sameEdit) {
					t.Fatalf("Set of plan %d at %d: %+v", i, slot, wholeScript(s))
				}
			}
		}
	}
}

// TestNothingIsKeptQ1 writes into what was handed in, when the answer is there.
func TestNothingIsKeptQ1(t *testing.T) {
	for i, pair := range pairs() {
		want, wantFault := wantMake(4, pair[0], pair[1], wide, 50)
		want = ownTexts(want)
		wantFault.Path = string([]byte(wantFault.Path))
		a, b := roomy(pair[0], badItem), roomy(pair[1], badItem)
		spoilTexts := lend(append(textsIn(a), textsIn(b)...))
		p, fault := tasks.Make(4, a, b, wide, 50)
		spoilTexts()
		overwrite(a, badItem)
		overwrite(b, badItem)
		if !same(p, want) || fault != wantFault {
			t.Errorf("pair %d is kept: %+v, %v, not %+v, %v", i, p, fault, want, wantFault)
		}
	}
}

// ownTexts is a plan whose texts nobody else writes into.
func ownTexts(p api.Plan) api.Plan {
	p = copied(p)
	lend(textsOf(p))
	return p
}

// TestNothingIsKeptQ2 does so with a plan and a script.
func TestNothingIsKeptQ2(t *testing.T) {
	for i, base := range several() {
		for _, slot := range append(slotsOf(base)[21:], -1) {
			for _, s := range rightScripts() {
				want, wantE := wantSet(base, slot, s)
				want = ownTexts(want)
				p, given := roomyPlan(base), roomyScript(s)
				spoilTexts := lend(append(textsOf(p), textsOfScript(given)...))
				q, e := tasks.Set(p, slot, given)
				spoilTexts()
				spoil(p)
				spoilScript(given)
				if !same(q, want) || e != wantE {
					t.Fatalf("Set of plan %d at %d keeps what was handed in: %+v, %d, not %+v, %d", i, slot, q, e, want, wantE)
				}
			}
		}
		want, wantIs := wantWhole(base)
		want = ownTexts(plan(want)).Entries
		p := roomyPlan(base)
		spoilTexts := lend(textsOf(p))
		l, is := tasks.Whole(p)
		spoilTexts()
		if spoil(p); !sameEntries(l, want) || is != wantIs {
			t.Fatalf("Whole of plan %d keeps what was handed in: %+v, %v, not %+v, %v", i, l, is, want, wantIs)
		}
	}
}

func TestTextsAreNobodyElsesMemoryQ1(t *testing.T) {
	for _, pair := range pairs() {
		given := append(textsIn(pair[0]), textsIn(pair[1])...)
		first, fault := tasks.Make(4, pair[0], pair[1], wide, 50)
		second, _ := tasks.Make(4, pair[0], pair[1], wide, 50)
		apart(t, "Make", append(textsOf(first), textsOf(second)...), given)
		apart(t, "Make's Fault", []*string{&fault.Path}, given)
	}
}

func TestTextsAreNobodyElsesMemoryQ2(t *testing.T) {
	line, path := "the same line\n", "the same text"
	p := plan(entries(modified(path), renamed(path, path, 60), added(path, 2, path), modified(path, add(line, line))), true, true, false, false)
	p.Todo = []api.Task{{Left: path, Right: path}, {Left: path, Right: line}}
	for _, p := range append(several(), p) {
		for _, slot := range slotsOf(p)[26:] {
			for _, s := range append(rightScripts(), by(add(line, line, line))) {
				q, _ := tasks.Set(p, slot, s)
				apart(t, "Set", textsOf(q), append(textsOf(p), textsOfScript(s)...))
			}
		}
		l, _ := tasks.Whole(p)
		apart(t, "Whole", textsOfEntries(l), textsOf(p))
	}
	whole := copied(p)
	whole.Lacks = make([]bool, 4)
	l, is := tasks.Whole(whole)
	if apart(t, "Whole", textsOfEntries(l), textsOf(whole)); !is {
		t.Errorf("%+v", whole)
	}
}

// TestListsAreNobodyElsesMemoryQ1 grows a plan that came out, and writes into it, and looks at all others.
func TestListsAreNobodyElsesMemoryQ1(t *testing.T) {
	for i, pair := range pairs() {
		want, _ := wantMake(4, pair[0], pair[1], wide, 50)
		a, b := roomy(pair[0], badItem), roomy(pair[1], badItem)
		wasA, wasB := whole(a), whole(b)
		first, _ := tasks.Make(4, a, b, wide, 50)
		second, _ := tasks.Make(4, a, b, wide, 50)
		if growPlan(first); !same(first, want) || !same(second, want) {
			t.Fatalf("pair %d: one list has grown into another one: %+v, %+v", i, first, second)
		}
		if spoil(first); !same(second, want) || !slices.Equal(whole(a), wasA) || !slices.Equal(whole(b), wasB) {
			t.Fatalf("pair %d: what was written into one answer is elsewhere: %+v", i, second)
		}
		checkMake(t, 4, a, b, wide, 50)
	}
}

// TestListsAreNobodyElsesMemoryQ2 does so with what Set and Whole answer, beside what was handed in.
func TestListsAreNobodyElsesMemoryQ2(t *testing.T) {
	for i, base := range several() {
		for _, slot := range append(slotsOf(base)[26:], -1) {
			for _, s := range rightScripts() {
				want, _ := wantSet(base, slot, s)
				p, given := roomyPlan(base), roomyScript(s)
				was, wasGiven := wholePlan(p), wholeScript(given)
				first, _ := tasks.Set(p, slot, given)
				second, _ := tasks.Set(p, slot, given)
				if growPlan(first); !same(first, want) || !same(second, want) {
					t.Fatalf("plan %d at %d: one list has grown into another one: %+v, %+v", i, slot, first, second)
				}
				if spoil(first); !same(second, want) {
					t.Fatalf("plan %d at %d: what was written into one answer is in another one: %+v", i, slot, second)
				}
				if !same(wholePlan(p), was) || !slices.EqualFunc(wholeScript(given), wasGiven, sameEdit) {
					t.Fatalf("plan %d at %d: what was written into an answer is in what was handed in: %+v, %+v", i, slot, p, given)
				}
				spoil(p)
				if spoilScript(given); !same(second, want) {
					t.Fatalf("plan %d at %d: what was written into what was handed in is in an answer: %+v", i, slot, second)
				}
			}
		}
		want, _ := wantWhole(base)
		p := roomyPlan(base)
		was := wholePlan(p)
		first, _ := tasks.Whole(p)
		second, _ := tasks.Whole(p)
		if growEntries(first); !sameEntries(first, want) || !sameEntries(second, want) {
			t.Fatalf("plan %d: one list has grown into another one: %+v, %+v", i, first, second)
		}
		if spoilEntries(first); !sameEntries(second, want) || !same(wholePlan(p), was) {
			t.Fatalf("plan %d: what was written into one answer is elsewhere: %+v, %+v", i, second, p)
		}
		if spoil(p); !sameEntries(second, want) {
			t.Fatalf("plan %d: what was written into what was handed in is in an answer: %+v", i, second)
		}
	}
}

// TestListsOfOneAnswerAreNobodyElsesMemoryQ2 writes into one entry's script, and looks at all others of one answer.
func TestListsOfOneAnswerAreNobodyElsesMemoryQ2(t *testing.T) {
	s := by(cut(1), add("one\n", "two"))
	p := plan(entries(modified("a", s...), modified("b", s...), modified("c"), added("d", 2, "")), false, false, true, false)
	p, e := tasks.Set(p, 2, s)
	l, is := tasks.Whole(p)
	if e != api.OK || !is {
		t.Fatalf("%d, %v", e, is)
	}
	for _, made := range [][]api.Entry{p.Entries, l} {
		for i := range 3 {
			was := copiedEntries(made)
			spoilScript(made[i].Script)
			growEntries(made[i : i+1 : i+1])
			for j := range 4 {
				if j != i && !sameEntry(made[j], was[j]) {
					t.Fatalf("what was written into script %d is in script %d: %+v", i, j, made)
				}
			}
		}
	}
	if !slices.EqualFunc(s, by(cut(1), add("one\n", "two")), sameEdit) {
		t.Errorf("%+v", s)
	}
}

func TestTheSameTwiceQ1Q2(t *testing.T) {
	for i, pair := range pairs() {
		one, fault := tasks.Make(4, pair[0], pair[1], wide, 50)
		tasks.Make(5, pair[1], pair[0], tight, 101)
		if two, again := tasks.Make(4, pair[0], pair[1], wide, 50); !same(one, two) || fault != again {
			t.Fatalf("pair %d: Make tells something else", i)
		}
	}
	for i, p := range several() {
		for _, slot := range slotsOf(p) {
			one, e := tasks.Set(p, slot, by(keep(2)))
			tasks.Set(p, slot, by(keep(0)))
			if two, again := tasks.Set(p, slot, by(keep(2))); !same(one, two) || e != again {
				t.Fatalf("plan %d: Set at %d tells something else", i, slot)
			}
		}
		checkAsked(t, p)
		checkAsked(t, p)
	}
}
