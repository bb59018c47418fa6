package tasks_test

import (
	"math"
	"math/rand"
	"slices"
	"strings"
	"testing"

	"collator/api"
	"collator/compare"
	"collator/myers"
	"collator/rows"
	"collator/tasks"
)

// wide is limits that are no bound for ordinary trees.
var wide = api.Limits{Depth: 8, Size: 10000, Count: 5000}

// lines is a text of lines of one letter each.
func lines(letters string) string {
	var text strings.Builder
	for _, letter := range []byte(letters) {
		text.WriteByte(letter)
		text.WriteByte('\n')
	}
	return text.String()
}

func file(path, letters string) api.Item { return text(path, lines(letters)) }

func text(path, data string) api.Item { return api.Item{Path: path, Kind: 2, Data: data} }

func link(path, data string) api.Item { return api.Item{Path: path, Kind: 3, Data: data} }

func dir(path string) api.Item { return api.Item{Path: path, Kind: 1} }

func bad(path string) api.Item { return api.Item{Path: path, Kind: 2, Bad: true} }

func of(items ...api.Item) []api.Item { return items }

func keep(n int) api.Edit { return api.Edit{Op: 1, N: n} }

func cut(n int) api.Edit { return api.Edit{Op: 2, N: n} }

func add(l ...string) api.Edit { return api.Edit{Op: 3, N: len(l), Lines: l} }

func by(edits ...api.Edit) []api.Edit { return edits }

func entries(l ...api.Entry) []api.Entry { return l }

func added(path string, kind int, data string) api.Entry {
	return api.Entry{Op: 1, Path: path, New: kind, Data: data}
}

func deleted(path string, kind int) api.Entry { return api.Entry{Op: 2, Path: path, Old: kind} }

func modified(path string, edits ...api.Edit) api.Entry {
	return api.Entry{Op: 3, Path: path, Old: 2, New: 2, Script: edits}
}

func changed(path string, old, fresh int, data string) api.Entry {
	return api.Entry{Op: 4, Path: path, Old: old, New: fresh, Data: data}
}

func renamed(from, path string, score int, edits ...api.Edit) api.Entry {
	return api.Entry{Op: 5, Path: path, From: from, Old: 2, New: 2, Score: score, Script: edits}
}

func lacks(l ...bool) []bool { return l }

// plan is a plan of these, with nothing to be done.
func plan(l []api.Entry, lacks ...bool) api.Plan { return api.Plan{Entries: l, Lacks: lacks} }

func sameEdit(a, b api.Edit) bool {
	return a.Op == b.Op && a.N == b.N && slices.Equal(a.Lines, b.Lines)
}

// sameEntry holds every field of two entries against each other.
func sameEntry(a, b api.Entry) bool {
	return a.Op == b.Op && a.Path == b.Path && a.From == b.From && a.Old == b.Old && a.New == b.New &&
		a.Data == b.Data && a.Score == b.Score && slices.EqualFunc(a.Script, b.Script, sameEdit)
}

func sameEntries(a, b []api.Entry) bool { return slices.EqualFunc(a, b, sameEntry) }

// same tells whether plans are the same, where a list that is nil is one without elements.
func same(p, q api.Plan) bool {
	return sameEntries(p.Entries, q.Entries) && slices.Equal(p.Lacks, q.Lacks) && slices.Equal(p.Todo, q.Todo)
}

// nothing tells whether a plan is all zero.
func nothing(p api.Plan) bool { return len(p.Entries)+len(p.Lacks)+len(p.Todo) == 0 }

// copied is a plan that shares no list with the one that is handed in.
func copied(p api.Plan) api.Plan {
	return api.Plan{Entries: copiedEntries(p.Entries), Lacks: slices.Clone(p.Lacks), Todo: slices.Clone(p.Todo)}
}

func copiedEntries(l []api.Entry) []api.Entry {
	l = slices.Clone(l)
	for i := range l {
		l[i].Script = copiedScript(l[i].Script)
	}
	return l
}

func copiedScript(s []api.Edit) []api.Edit {
	s = slices.Clone(s)
	for i := range s {
		s[i].Lines = slices.Clone(s[i].Lines)
	}
	return s
}

func wantAsks(e api.Entry) bool { return e.Op == 3 || e.Op == 5 }

// dataAt is what the one item at a path has.
func dataAt(items []api.Item, path string) string {
	for _, item := range items {
		if item.Path == path {
			return item.Data
		}
	}
	panic("nothing at " + path)
}

// wantMake is promise Q1's words.
func wantMake(req int, a, b []api.Item, l api.Limits, threshold int) (api.Plan, api.Fault) {
	all, fault := compare.Compare(a, b, l, threshold)
	if fault != (api.Fault{}) {
		return api.Plan{}, fault
	}
	var p api.Plan
	for i, e := range all {
		if wantAsks(e) {
			was := e.Path
			if e.Op == 5 {
				was = e.From
			}
			e.Script = nil
			p.Todo = append(p.Todo, api.Task{Req: req, Slot: i, Left: dataAt(a, was), Right: dataAt(b, e.Path)})
		}
		p.Entries = append(p.Entries, e)
		p.Lacks = append(p.Lacks, wantAsks(e))
	}
	return p, api.Fault{}
}

// wantRight is the chapter's words of a plan that is right.
func wantRight(p api.Plan) bool {
	if len(p.Entries) != len(p.Lacks) {
		return false
	}
	for i, lack := range p.Lacks {
		if lack && (!wantAsks(p.Entries[i]) || len(p.Entries[i].Script) != 0) {
			return false
		}
	}
	return true
}

// wantRightScript is chapter 4's words of a script that is right, rule by rule.
func wantRightScript(s []api.Edit) bool {
	for i, e := range s {
		if e.Op < 1 || e.Op > 3 || e.N < 1 || e.N > 1<<20 {
			return false
		}
		if e.Op == 3 && len(e.Lines) != e.N || e.Op != 3 && len(e.Lines) != 0 {
			return false
		}
		if i > 0 && (s[i-1].Op == e.Op || s[i-1].Op == 3 && e.Op == 2) {
			return false
		}
	}
	return true
}

// wantSet is promise Q2's words of Set.
func wantSet(p api.Plan, slot int, s []api.Edit) (api.Plan, api.Errno) {
	if !wantRight(p) || !wantRightScript(s) {
		return api.Plan{}, 1
	}
	for i, e := range p.Entries {
		if i != slot || !wantAsks(e) {
			continue
		}
		if !p.Lacks[i] {
			return api.Plan{}, 4
		}
		p = copied(p)
		p.Entries[i].Script, p.Lacks[i] = copiedScript(s), false
		return p, 0
	}
	return api.Plan{}, 10
}

// wantWhole is promise Q2's words of Whole.
func wantWhole(p api.Plan) ([]api.Entry, bool) {
	if !wantRight(p) || slices.Contains(p.Lacks, true) {
		return nil, false
	}
	return copiedEntries(p.Entries), true
}

func wantLacking(p api.Plan) int {
	return len(slices.DeleteFunc(slices.Clone(p.Lacks), func(lack bool) bool { return !lack }))
}

// checkMake holds Make against the chapter's words, and what was handed in against what it was.
func checkMake(t *testing.T, req int, a, b []api.Item, l api.Limits, threshold int) (api.Plan, api.Fault) {
	t.Helper()
	wasA, wasB := slices.Clone(a), slices.Clone(b)
	p, fault := tasks.Make(req, a, b, l, threshold)
	if want, wantFault := wantMake(req, wasA, wasB, l, threshold); !same(p, want) || fault != wantFault {
		t.Fatalf("Make of %+v and %+v within %+v at %d: %+v, %v, not %+v, %v", wasA, wasB, l, threshold, p, fault, want, wantFault)
	}
	if !slices.Equal(a, wasA) || !slices.Equal(b, wasB) {
		t.Fatalf("Make of %+v and %+v has written into these: %+v and %+v", wasA, wasB, a, b)
	}
	return p, fault
}

// checkSet holds Set against the chapter's words, and what was handed in against what it was.
func checkSet(t *testing.T, p api.Plan, slot int, s []api.Edit) {
	t.Helper()
	was, given := copied(p), copiedScript(s)
	q, e := tasks.Set(p, slot, s)
	if want, wantE := wantSet(was, slot, given); !same(q, want) || e != wantE {
		t.Fatalf("Set of %+v at %d to %+v: %+v, %d, not %+v, %d", was, slot, given, q, e, want, wantE)
	}
	if !same(p, was) || !slices.EqualFunc(s, given, sameEdit) {
		t.Fatalf("Set of %+v at %d to %+v has written into these: %+v, %+v", was, slot, given, p, s)
	}
}

// checkAsked holds Right, Lacking and Whole against the chapter's words, and what was handed in against what it was.
func checkAsked(t *testing.T, p api.Plan) {
	t.Helper()
	was := copied(p)
	if got := tasks.Right(p); got != wantRight(was) {
		t.Fatalf("Right of %+v: %v", was, got)
	}
	if got := tasks.Lacking(p); got != wantLacking(was) {
		t.Fatalf("Lacking of %+v: %d, not %d", was, got, wantLacking(was))
	}
	got, is := tasks.Whole(p)
	if want, wantIs := wantWhole(was); !sameEntries(got, want) || is != wantIs {
		t.Fatalf("Whole of %+v: %+v, %v, not %+v, %v", was, got, is, want, wantIs)
	}
	if !same(p, was) {
		t.Fatalf("%+v was written into: %+v", was, p)
	}
}

// check holds all calls that are asked of a plan against the chapter's words.
func check(t *testing.T, p api.Plan, slots []int, scripts [][]api.Edit) {
	t.Helper()
	checkAsked(t, p)
	for _, slot := range slots {
		for _, s := range scripts {
			checkSet(t, p, slot, s)
		}
	}
}

// far is numbers around 0, at both ends of what an int may be, and such as come to one number where bits are lost.
func far() []int {
	return []int{
		0, -1, 1, -2, 2, math.MinInt, math.MinInt + 1, math.MaxInt, math.MaxInt - 1,
		math.MinInt32, math.MaxInt32, math.MaxUint32, 1 << 32, -1 << 32, 1<<32 + 1, 1 << 16, 1 << 8, -1 << 8, 255, 64, 63,
	}
}

// slotsOf is places below, at and beyond both ends of a plan's entries, each of its own, and such as come to these where bits are lost.
func slotsOf(p api.Plan) []int {
	n := len(p.Entries)
	l := append(far(), n, n+1, -n, 2*n, n+100)
	for i := range n {
		l = append(l, i, i+1<<32, i+math.MinInt, i-1<<32, i+256, i-256)
	}
	return l
}

// diff is the script of a task.
func diff(task api.Task) []api.Edit { return myers.Diff(rows.Split(task.Left), rows.Split(task.Right)) }

// rightScripts is scripts that are right, of which no two are the same.
func rightScripts() [][]api.Edit {
	return [][]api.Edit{
		nil, by(keep(1)), by(keep(2)), by(cut(1)), by(add("x\n")), by(add("")), by(keep(1 << 20)), by(cut(1 << 20)),
		by(cut(1), add("x\n")), by(keep(3), cut(1), add("a", "b"), keep(1)), by(add("a\n", "b"), keep(1), cut(2)), by(cut(1), keep(2), add("d\n")),
	}
}

// wrongScripts is scripts of each kind that is not right, in one thing alone.
func wrongScripts() [][]api.Edit {
	return [][]api.Edit{
		by(api.Edit{}), by(api.Edit{Op: 4, N: 1}), by(api.Edit{Op: -1, N: 1}), by(api.Edit{N: 1}), by(api.Edit{Op: 0, N: 1, Lines: []string{"x"}}),
		by(keep(0)), by(cut(0)), by(add()), by(keep(-1)), by(cut(-1)), by(keep(1<<20 + 1)), by(cut(1<<20 + 1)), by(keep(math.MaxInt)), by(keep(math.MinInt)),
		by(api.Edit{Op: 3, N: 1}), by(api.Edit{Op: 3, N: 1, Lines: []string{"x", "y"}}), by(api.Edit{Op: 3, N: 2, Lines: []string{"x"}}),
		by(api.Edit{Op: 1, N: 1, Lines: []string{"x"}}), by(api.Edit{Op: 2, N: 1, Lines: []string{"x"}}),
		by(keep(1), keep(1)), by(cut(1), cut(1)), by(add("x"), add("x")), by(add("x"), cut(1)), by(keep(1), add("x"), cut(1)), by(keep(1), cut(1), add("x"), add("y")),
	}
}

// small is all trees that have one of some items, or none, at each path.
func small(at ...[]api.Item) [][]api.Item {
	list := [][]api.Item{nil}
	for _, items := range at {
		for _, tree := range slices.Clone(list) {
			for _, item := range items {
				list = append(list, append(slices.Clone(tree), item))
			}
		}
	}
	return list
}

// kinds is items of all kinds at one path.
func kinds(path string) []api.Item {
	return of(dir(path), file(path, ""), file(path, "x"), file(path, "xy"), text(path, "x\ny"), link(path, ""), link(path, "x\n"))
}

// someText is a few letters of chance.
func someText(chance *rand.Rand, letters int) string {
	var list []byte
	for range chance.Intn(6) {
		list = append(list, byte('a'+chance.Intn(letters)))
	}
	return string(list)
}

// grow adds some items in a dir to a tree, and to these dirs some more.
func grow(chance *rand.Rand, tree []api.Item, within string, letters int) []api.Item {
	for _, name := range []string{"a", "a!", "b", "b!", "c", "\u00e9"} {
		path := within + name
		switch chance.Intn(9) {
		case 0, 1:
			tree = append(tree, dir(path))
			if len(within) < 6 {
				tree = grow(chance, tree, path+"/", letters)
			}
		case 2, 3, 4:
			tree = append(tree, file(path, someText(chance, letters)))
		case 5:
			tree = append(tree, link(path, someText(chance, letters)))
		}
	}
	return tree
}

func shuffled[T any](chance *rand.Rand, list []T) []T {
	list = slices.Clone(list)
	chance.Shuffle(len(list), func(i, j int) { list[i], list[j] = list[j], list[i] })
	return list
}

// mixed is two trees that have entries of all kinds, some of which ask for a script.
func mixed() (a, b []api.Item) {
	a = of(file("a gone", "wxyz"), file("deleted", "p"), file("modified", "abc"), link("changed", "old link"), dir("dir"), file("dir/same", "s"), dir("kind"), file("m2", "kl"), text("went", "as it was\n"))
	b = of(file("b come", "wxyq"), file("added", "t"), file("modified", "bcd"), link("changed", "new link"), dir("dir"), file("dir/same", "s"), text("kind", "was a dir"), file("m2", "k"), text("dir/went", "as it was\n"))
	return a, b
}
