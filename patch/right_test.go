package patch_test

import (
	"fmt"
	"math"
	"slices"
	"testing"

	"collator/api"
	"collator/patch"
)

// ordinary is a right entry of each Op, with all that it may have.
func ordinary() []api.Entry {
	return told(
		added("p", 2, "x\n"),
		deleted("p", 3),
		modified("p", keep(1), cut(2), add("x\n")),
		changed("p", 3, 2, "x\n"),
		renamed("q", "p", keep(1), cut(2), add("x\n")),
	)
}

// refuse holds what may not be against both calls: it is wrong, whatever tree it is done to.
func refuse(t *testing.T, name string, l []api.Entry) {
	t.Helper()
	if patch.Right(l) {
		t.Errorf("%s: %+v is right", name, l)
	}
	for _, a := range [][]api.Item{nil, of(file("p", "abc")), of(link("p", "x")), of(file("q", "abc")), of(file("a", ""), dir("b"))} {
		if got, code := patch.Apply(a, l); len(got) > 0 || code != api.ErrArg {
			t.Errorf("%s: %+v, done to %+v, makes %+v and %v", name, l, a, got, code)
		}
	}
	if wantRight(l) {
		t.Errorf("%s: the chapter's words let %+v be", name, l)
	}
}

func accept(t *testing.T, name string, l []api.Entry) {
	t.Helper()
	if !patch.Right(l) || !wantRight(l) {
		t.Errorf("%s: Right of %+v is %v; by the chapter's words %v", name, l, patch.Right(l), wantRight(l))
	}
	if _, code := patch.Apply(nil, l); code == api.ErrArg {
		t.Errorf("%s: Apply takes %+v for wrong", name, l)
	}
}

func TestRightEntriesK1(t *testing.T) {
	accept(t, "none", nil)
	accept(t, "none, in a list", told())
	for _, e := range ordinary() {
		accept(t, "an ordinary one", told(e))
	}
	for kind := 1; kind <= 3; kind++ {
		for _, data := range []string{"", "x", "x\ny\n"} {
			accept(t, "Added", told(added("p", kind, data)))
			for old := 1; old <= 3; old++ {
				accept(t, "Changed", told(changed("p", old, kind, data)))
			}
		}
		accept(t, "Deleted", told(deleted("p", kind)))
	}
	for _, edits := range [][]api.Edit{nil, by(), by(keep(1)), by(cut(1)), by(add("")), by(keep(1 << 20)), by(cut(3), add("a", "b"), keep(2))} {
		accept(t, "Modified", told(modified("p", edits...)))
		accept(t, "Renamed", told(renamed("q", "p", edits...)))
	}
	for _, score := range []int{1, 2, 50, 99, 100} {
		e := renamed("q", "p")
		e.Score = score
		accept(t, "Renamed", told(e))
	}
	for _, from := range []string{"", "/", "..", "a//b", "p/", "p/q", "\x00", "P"} {
		accept(t, "Renamed, From any text", told(renamed(from, "p")))
	}
	e := added("p", 2, "")
	e.Script = make([]api.Edit, 0, 4)
	accept(t, "Added, with room for a Script", told(e))
}

// spoilt is an entry with one field made another one.
func spoilt(e api.Entry, spoil func(*api.Entry)) api.Entry {
	spoil(&e)
	return e
}

type fault struct {
	name  string
	ops   []int
	spoil func(*api.Entry)
}

// faults is what no entry of these Ops may have.
func faults() []fault {
	list := []fault{
		{"a From", []int{1, 2, 3, 4}, func(e *api.Entry) { e.From = "q" }},
		{"a From of a byte 0", []int{1, 2, 3, 4}, func(e *api.Entry) { e.From = "\x00" }},
		{"itself as From", []int{1, 2, 3, 4, 5}, func(e *api.Entry) { e.From = e.Path }},
		{"a Script", []int{1, 2, 4}, func(e *api.Entry) { e.Script = by(keep(1)) }},
		{"a Script that is not right", []int{1, 2, 3, 4, 5}, func(e *api.Entry) { e.Script = by(keep(0)) }},
		{"Data", []int{2, 3, 5}, func(e *api.Entry) { e.Data = "x" }},
		{"Data of a byte 0", []int{2, 3, 5}, func(e *api.Entry) { e.Data = "\x00" }},
	}
	for _, score := range []int{math.MinInt, -100, -1, 1, 50, 100, 101, math.MaxInt} {
		ops := []int{1, 2, 3, 4, 5}
		if oneTo(score, 100) {
			ops = []int{1, 2, 3, 4}
		}
		list = append(list, fault{fmt.Sprint("a Score of ", score), ops, func(e *api.Entry) { e.Score = score }})
	}
	list = append(list, fault{"a Score of 0", []int{5}, func(e *api.Entry) { e.Score = 0 }})
	for _, kind := range []int{math.MinInt, -3, -2, -1, 0, 1, 2, 3, 4, 5, 1<<32 + 2, math.MaxInt} {
		var olds, news []int
		for _, op := range []int{1, 2, 3, 4, 5} {
			old := map[int]bool{1: kind == 0, 2: oneTo(kind, 3), 3: kind == 2, 4: oneTo(kind, 3), 5: kind == 2}[op]
			fresh := map[int]bool{1: oneTo(kind, 3), 2: kind == 0, 3: kind == 2, 4: oneTo(kind, 3), 5: kind == 2}[op]
			if !old {
				olds = append(olds, op)
			}
			if !fresh {
				news = append(news, op)
			}
		}
		list = append(list,
			fault{fmt.Sprint("an Old of ", kind), olds, func(e *api.Entry) { e.Old = kind }},
			fault{fmt.Sprint("a New of ", kind), news, func(e *api.Entry) { e.New = kind }},
		)
	}
	for _, op := range []int{math.MinInt, -5, -1, 0, 6, 7, 255 + 2, 1<<32 + 1, math.MaxInt} {
		list = append(list, fault{fmt.Sprint("an Op of ", op), []int{1, 2, 3, 4, 5}, func(e *api.Entry) { e.Op = op }})
	}
	return list
}

func TestEachFieldThatMayNotBeK1(t *testing.T) {
	for _, f := range faults() {
		for _, e := range ordinary() {
			if !slices.Contains(f.ops, e.Op) {
				continue
			}
			wrong, name := spoilt(e, f.spoil), fmt.Sprintf("%s in one of Op %d", f.name, e.Op)
			refuse(t, name, told(wrong))
			refuse(t, name+", the first of three", told(wrong, comes("r"), comes("s")))
			refuse(t, name+", amid others", told(comes("a"), wrong, comes("s")))
			refuse(t, name+", the last of three", told(comes("a"), comes("b"), wrong))
		}
	}
	refuse(t, "the zero entry", told(api.Entry{}))
	for op := -1; op <= 6; op++ {
		refuse(t, "an Op and a Path alone", told(api.Entry{Op: op, Path: "p"}))
	}
}

// comes is the entry of a dir that comes.
func comes(path string) api.Entry { return added(path, 1, "") }

func TestScriptsThatAreNotRightK1(t *testing.T) {
	for _, edits := range [][]api.Edit{
		by(keep(0)), by(keep(-1)), by(cut(0)), by(keep(1<<20 + 1)), by(api.Edit{Op: 3, N: 1}), by(api.Edit{Op: 3, N: 1, Lines: []string{"a", "b"}}),
		by(keep(1), keep(1)), by(cut(1), cut(1)), by(add("a"), add("b")), by(add("a"), cut(1)), by(api.Edit{Op: 4, N: 1}), by(api.Edit{}),
		by(api.Edit{Op: 1, N: 1, Lines: []string{"a"}}), by(keep(1), add("a"), keep(0)),
	} {
		refuse(t, "Modified", told(modified("p", edits...)))
		refuse(t, "Renamed", told(renamed("q", "p", edits...)))
		refuse(t, "Modified, amid others", told(comes("a"), modified("p", edits...), comes("z")))
	}
}

// TestAllFieldsTogetherK1 has each field as each of some values, together with each of all other fields.
func TestAllFieldsTogetherK1(t *testing.T) {
	kinds := []int{-1, 0, 1, 2, 3, 4}
	scripts := [][]api.Edit{nil, by(keep(1)), by(add("a"), cut(1))}
	for op := -1; op <= 6; op++ {
		for _, old := range kinds {
			for _, fresh := range kinds {
				for _, score := range []int{-1, 0, 1, 100, 101} {
					for _, texts := range [][2]string{{"", ""}, {"q", ""}, {"", "x"}, {"q", "x"}} {
						for _, edits := range scripts {
							check(t, nil, told(api.Entry{Op: op, Path: "p", From: texts[0], Old: old, New: fresh, Data: texts[1], Score: score, Script: edits}))
						}
					}
				}
			}
		}
	}
}

// names stand in chapter 1's order, which is not that of bytes.
var names = []string{"", "/", "/a", ".", "..", "a", "a/", "a//", "a/b", "a/b/c", "a/b!", "a\x00", "a!", "a!/z", "aa", "b", "b/a", "é", "\xff"}

func TestPathsInOrderK1(t *testing.T) {
	all := func(path string) []api.Entry {
		return told(comes(path), deleted(path, 2), modified(path), changed(path, 1, 2, ""), renamed("from"+path, path))
	}
	for i, path := range names {
		for j, other := range names {
			for _, e := range all(path) {
				for _, f := range all(other) {
					// Two that have no From in common, wherever they stand.
					if right := patch.Right(told(e, f)); right != (i < j) {
						t.Errorf("%+v ahead of %+v: %v", e, f, right)
					}
					check(t, nil, told(e, f))
				}
			}
		}
	}
	var l []api.Entry
	for _, name := range names {
		l = append(l, comes(name))
	}
	accept(t, "all, in order", l)
	for i := range l {
		for j := range i {
			swapped := slices.Clone(l)
			swapped[i], swapped[j] = swapped[j], swapped[i]
			refuse(t, "two of many have changed places", swapped)
		}
		refuse(t, "one of many is there twice", slices.Insert(slices.Clone(l), i, l[i]))
	}
}

func TestPathsOutOfOrderK1(t *testing.T) {
	accept(t, "by parts", told(comes("b/c"), comes("b!")))
	refuse(t, "by bytes", told(comes("b!"), comes("b/c")))
	refuse(t, "turned", told(comes("b"), comes("a")))
	refuse(t, "a dir behind what is in it", told(comes("a/b"), comes("a")))
	refuse(t, "the first two of three", told(comes("b"), comes("a"), comes("c")))
	refuse(t, "the last two of three", told(comes("a"), comes("c"), comes("b")))
	refuse(t, "twice", told(comes("a"), comes("a")))
	refuse(t, "twice, deleted and added", told(deleted("a", 1), comes("a")))
	refuse(t, "twice, not side by side", told(comes("a"), comes("b"), comes("a")))
	refuse(t, "the empty one twice", told(comes(""), comes("")))
}

// byPaths is entries in the order of their Paths.
func byPaths(l ...api.Entry) []api.Entry {
	slices.SortFunc(l, func(x, y api.Entry) int { return partByPart(x.Path, y.Path) })
	return l
}

func TestFromsK1(t *testing.T) {
	accept(t, "two of them", told(renamed("a", "c"), renamed("b", "d")))
	accept(t, "crosswise", told(renamed("d", "a"), renamed("c", "b")))
	accept(t, "one of them empty", told(renamed("", "c"), renamed("b", "d")))
	accept(t, "empty, and no From", told(comes("a"), renamed("", "c"), deleted("d", 1)))
	accept(t, "one begins the other one", told(renamed("a", "c"), renamed("a/", "d")))
	refuse(t, "twice", told(renamed("a", "c"), renamed("a", "d")))
	refuse(t, "twice, not side by side", told(renamed("a", "c"), comes("d"), renamed("a", "e")))
	refuse(t, "the empty one twice", told(renamed("", "c"), renamed("", "d")))
	refuse(t, "its own Path", told(renamed("c", "c")))
	refuse(t, "its own Path, and both empty", told(renamed("", "")))
	refuse(t, "the Path of the one behind it", told(renamed("d", "c"), renamed("a", "d")))
	refuse(t, "the Path of the one ahead of it", told(renamed("a", "c"), renamed("c", "d")))
	refuse(t, "the empty Path", told(comes(""), renamed("", "d")))
	refuse(t, "a circle", told(renamed("b", "a"), renamed("a", "b")))
	for _, path := range []string{"a", "m"} {
		for _, e := range told(added(path, 2, ""), deleted(path, 2), modified(path), changed(path, 2, 1, "")) {
			refuse(t, "the Path of another one", byPaths(e, renamed(path, "f")))
			refuse(t, "the Path of another one, with more between", byPaths(e, comes("c"), renamed(path, "f"), comes("h")))
		}
	}
}
