package compare_test

import (
	"math"
	"math/rand"
	"slices"
	"strconv"
	"strings"
	"testing"
	"unsafe"

	"collator/api"
	"collator/compare"
	"collator/myers"
	"collator/rename"
	"collator/rows"
	"collator/script"
	"collator/trees"
)

// wide is limits that are no bound for ordinary trees.
var wide = api.Limits{Depth: 8, Size: 10000, Count: 1000}

// lines is a text of lines of one letter each.
func lines(letters string) string {
	var text strings.Builder
	for _, letter := range []byte(letters) {
		text.WriteByte(letter)
		text.WriteByte('\n')
	}
	return text.String()
}

func file(path, letters string) api.Item {
	return api.Item{Path: path, Kind: api.KindFile, Data: lines(letters)}
}

func text(path, data string) api.Item {
	return api.Item{Path: path, Kind: api.KindFile, Data: data}
}

func link(path, data string) api.Item {
	return api.Item{Path: path, Kind: api.KindLink, Data: data}
}

func dir(path string) api.Item { return api.Item{Path: path, Kind: api.KindDir} }

func unreadable(path string) api.Item {
	return api.Item{Path: path, Kind: api.KindFile, Bad: true}
}

func of(items ...api.Item) []api.Item { return items }

func keep(n int) api.Edit { return api.Edit{Op: 1, N: n} }

func cut(n int) api.Edit { return api.Edit{Op: 2, N: n} }

func add(letters string) api.Edit {
	return api.Edit{Op: 3, N: len(letters), Lines: rows.Split(lines(letters))}
}

func by(edits ...api.Edit) []api.Edit { return edits }

func told(entries ...api.Entry) []api.Entry { return entries }

func added(path string, kind int, data string) api.Entry {
	return api.Entry{Op: 1, Path: path, New: kind, Data: data}
}

func deleted(path string, kind int) api.Entry {
	return api.Entry{Op: 2, Path: path, Old: kind}
}

func modified(path string, edits ...api.Edit) api.Entry {
	return api.Entry{Op: 3, Path: path, Old: 2, New: 2, Script: edits}
}

func changed(path string, old, fresh int, data string) api.Entry {
	return api.Entry{Op: 4, Path: path, Old: old, New: fresh, Data: data}
}

func renamed(from, path string, score int, edits ...api.Edit) api.Entry {
	return api.Entry{Op: 5, Path: path, From: from, Old: 2, New: 2, Score: score, Script: edits}
}

func sameEdit(a, b api.Edit) bool {
	return a.Op == b.Op && a.N == b.N && slices.Equal(a.Lines, b.Lines)
}

// same holds every field of two entries against each other.
func same(a, b api.Entry) bool {
	return a.Op == b.Op && a.Path == b.Path && a.From == b.From && a.Old == b.Old && a.New == b.New &&
		a.Data == b.Data && a.Score == b.Score && slices.EqualFunc(a.Script, b.Script, sameEdit)
}

// partByPart is chapter 1's order.
func partByPart(a, b string) int {
	return slices.Compare(strings.Split(a, "/"), strings.Split(b, "/"))
}

// wantFault is promise J1's words.
func wantFault(a, b []api.Item, l api.Limits) api.Fault {
	old, fresh := trees.Check(a, l), trees.Check(b, l)
	ok := api.Fault{}
	if fresh == ok || old != ok && partByPart(old.Path, fresh.Path) <= 0 {
		return old
	}
	return fresh
}

func at(items []api.Item, path string) []api.Item {
	return slices.DeleteFunc(slices.Clone(items), func(item api.Item) bool { return item.Path != path })
}

func without(items, others []api.Item) []api.Item {
	return slices.DeleteFunc(slices.Clone(items), func(item api.Item) bool { return len(at(others, item.Path)) > 0 })
}

func scriptOf(old, fresh api.Item) []api.Edit {
	return myers.Diff(rows.Split(old.Data), rows.Split(fresh.Data))
}

// wantOf is promise J2's table: the entry of a path, by the first row that holds.
func wantOf(path string, a, b []api.Item, pairs []api.Pair) []api.Entry {
	old, fresh := at(a, path), at(b, path)
	if i := slices.IndexFunc(pairs, func(p api.Pair) bool { return p.To == path }); i >= 0 {
		return told(renamed(pairs[i].From, path, pairs[i].Score, scriptOf(at(a, pairs[i].From)[0], fresh[0])...))
	}
	if slices.ContainsFunc(pairs, func(p api.Pair) bool { return p.From == path }) {
		return nil
	}
	if len(old) == 0 {
		return told(added(path, fresh[0].Kind, fresh[0].Data))
	}
	if len(fresh) == 0 {
		return told(deleted(path, old[0].Kind))
	}
	x, y := old[0], fresh[0]
	if x.Kind == 3 && y.Kind == 3 && x.Data != y.Data || x.Kind != y.Kind {
		return told(changed(path, x.Kind, y.Kind, y.Data))
	}
	if x.Kind == 2 && x.Data != y.Data {
		return told(modified(path, scriptOf(x, y)...))
	}
	return nil
}

// wantCompare is promise J2's words.
func wantCompare(a, b []api.Item, l api.Limits, threshold int) ([]api.Entry, api.Fault) {
	if fault := wantFault(a, b, l); fault != (api.Fault{}) {
		return nil, fault
	}
	var all []string
	for _, item := range slices.Concat(a, b) {
		all = append(all, item.Path)
	}
	slices.SortFunc(all, partByPart)
	pairs := rename.Pairs(without(a, b), without(b, a), threshold)
	var entries []api.Entry
	for _, path := range slices.Compact(all) {
		entries = append(entries, wantOf(path, a, b, pairs)...)
	}
	return entries, api.Fault{}
}

// check holds an answer against promises J1, J2 and J3.
func check(t *testing.T, a, b []api.Item, l api.Limits, threshold int) {
	t.Helper()
	got, fault := compare.Compare(a, b, l, threshold)
	want, wantFault := wantCompare(a, b, l, threshold)
	if fault != wantFault || !slices.EqualFunc(got, want, same) {
		t.Fatalf("Compare of %+v and %+v within %+v at %d: %+v %v, not %+v %v", a, b, l, threshold, got, fault, want, wantFault)
	}
	if alone := compare.Fault(a, b, l); alone != wantFault {
		t.Fatalf("Fault of %+v and %+v within %+v: %v, not %v", a, b, l, alone, wantFault)
	}
	if fault == (api.Fault{}) {
		checkTheorem(t, a, b, got)
	}
}

// checkTheorem holds entries against promise J3, whatever J2 says.
func checkTheorem(t *testing.T, a, b []api.Item, got []api.Entry) {
	t.Helper()
	var named []string
	for _, e := range got {
		named = append(named, e.Path)
		if e.Op == api.Renamed {
			named = append(named, e.From)
		}
	}
	for i, path := range named {
		if slices.Contains(named[:i], path) {
			t.Fatalf("%q is named twice in %+v", path, got)
		}
	}
	for _, item := range slices.Concat(a, b) {
		unlike := !slices.Equal(at(a, item.Path), at(b, item.Path))
		if unlike != slices.Contains(named, item.Path) {
			t.Fatalf("%q is unlike: %v, and the entries are %+v", item.Path, unlike, got)
		}
	}
	if made := trees.Sort(done(t, a, got)); !slices.Equal(made, trees.Sort(b)) {
		t.Fatalf("%+v, done to %+v, makes %+v, not %+v", got, a, made, b)
	}
}

// done is the items that entries make of a tree.
func done(t *testing.T, a []api.Item, entries []api.Entry) []api.Item {
	t.Helper()
	made := slices.Clone(a)
	for _, e := range entries {
		made = slices.DeleteFunc(made, func(item api.Item) bool {
			return item.Path == e.Path || e.Op == api.Renamed && item.Path == e.From
		})
	}
	for _, e := range entries {
		switch e.Op {
		case api.Added, api.Changed:
			made = append(made, api.Item{Path: e.Path, Kind: e.New, Data: e.Data})
		case api.Modified:
			made = append(made, api.Item{Path: e.Path, Kind: e.New, Data: applied(t, a, e.Path, e.Script)})
		case api.Renamed:
			made = append(made, api.Item{Path: e.Path, Kind: e.New, Data: applied(t, a, e.From, e.Script)})
		}
	}
	return made
}

func applied(t *testing.T, a []api.Item, path string, edits []api.Edit) string {
	t.Helper()
	data, no := trees.Read(a, path)
	made, code := script.Apply(edits, rows.Split(data))
	if no != api.OK || code != api.OK {
		t.Fatalf("%+v of %q in %+v: %v and %v", edits, path, a, no, code)
	}
	return rows.Join(made...)
}

type example struct {
	name      string
	a, b      []api.Item
	threshold int
	want      []api.Entry
}

// run holds examples of trees against what they say, and against the chapter's words.
func run(t *testing.T, examples []example) {
	t.Helper()
	for _, x := range examples {
		got, fault := compare.Compare(x.a, x.b, wide, x.threshold)
		if fault != (api.Fault{}) || !slices.EqualFunc(got, x.want, same) {
			t.Errorf("%s: %+v %v, not %+v", x.name, got, fault, x.want)
		}
		check(t, x.a, x.b, wide, x.threshold)
	}
}

func TestExampleJ2(t *testing.T) {
	a, b := of(file("a", "x")), of(file("b", "x"))
	run(t, []example{
		{"the chapter's example", a, b, 50, told(renamed("a", "b", 100, keep(1)))},
		{"the chapter's example, at 101", a, b, 101, told(deleted("a", 2), added("b", 2, "x\n"))},
	})
}

func TestOrdinaryTreesJ2(t *testing.T) {
	a := of(dir("doc"), file("doc/one", "abc"), file("doc/two", "pqrs"), file("doc/old", "x"), link("last", "doc/one"), file("read", "m"), dir("empty"))
	b := of(file("read", "mn"), link("last", "doc/two"), dir("doc"), file("doc/one", "abc"), dir("new"), file("new/two", "pqrst"), text("empty", "now a file"))
	run(t, []example{
		{"of everything one", a, b, 50, told(
			deleted("doc/old", 2),
			changed("empty", 1, 2, "now a file"),
			changed("last", 3, 3, "doc/two"),
			added("new", 1, ""),
			renamed("doc/two", "new/two", 88, keep(4), add("t")),
			modified("read", keep(1), add("n")),
		)},
		{"the other way round", b, a, 50, told(
			added("doc/old", 2, "x\n"),
			renamed("new/two", "doc/two", 88, keep(4), cut(1)),
			changed("empty", 2, 1, ""),
			changed("last", 3, 3, "doc/one"),
			deleted("new", 1),
			modified("read", keep(1), cut(1)),
		)},
	})
}

func TestAddedAndDeletedJ2(t *testing.T) {
	long := strings.Repeat("long ", 100)
	run(t, []example{
		{"a dir comes", nil, of(dir("d")), 50, told(added("d", 1, ""))},
		{"a file comes", nil, of(text("f", "a\nb")), 50, told(added("f", 2, "a\nb"))},
		{"a file without a byte comes", nil, of(text("f", "")), 50, told(added("f", 2, ""))},
		{"a link comes", nil, of(link("l", "to")), 50, told(added("l", 3, "to"))},
		{"a link to nowhere comes", nil, of(link("l", "")), 50, told(added("l", 3, ""))},
		{"a file of many bytes comes", nil, of(text("f", long)), 50, told(added("f", 2, long))},
		{"a dir goes", of(dir("d")), nil, 50, told(deleted("d", 1))},
		{"a file goes", of(text("f", "a\nb")), nil, 50, told(deleted("f", 2))},
		{"a link goes", of(link("l", "to")), nil, 50, told(deleted("l", 3))},
		{"a dir, and all that is in it, goes", of(dir("d"), file("d/f", "x"), dir("d/e"), link("d/e/l", "x")), nil, 50, told(deleted("d", 1), deleted("d/e", 1), deleted("d/e/l", 3), deleted("d/f", 2))},
		{"one goes, another one comes", of(file("f", "x")), of(file("g", "y")), 50, told(deleted("f", 2), added("g", 2, "y\n"))},
	})
}

func TestChangedJ2(t *testing.T) {
	run(t, []example{
		{"a file in place of a dir", of(dir("p")), of(file("p", "x")), 50, told(changed("p", 1, 2, "x\n"))},
		{"a file without a byte in place of a dir", of(dir("p")), of(file("p", "")), 50, told(changed("p", 1, 2, ""))},
		{"a link in place of a dir", of(dir("p")), of(link("p", "x")), 50, told(changed("p", 1, 3, "x"))},
		{"a link to nowhere in place of a dir", of(dir("p")), of(link("p", "")), 50, told(changed("p", 1, 3, ""))},
		{"a dir in place of a file", of(file("p", "x")), of(dir("p")), 50, told(changed("p", 2, 1, ""))},
		{"a link in place of a file", of(file("p", "x")), of(link("p", "y")), 50, told(changed("p", 2, 3, "y"))},
		{"a link with a file's Data in its place", of(text("p", "x")), of(link("p", "x")), 50, told(changed("p", 2, 3, "x"))},
		{"a dir in place of a link", of(link("p", "x")), of(dir("p")), 50, told(changed("p", 3, 1, ""))},
		{"a file in place of a link", of(link("p", "x")), of(file("p", "y")), 50, told(changed("p", 3, 2, "y\n"))},
		{"a file with a link's Data in its place", of(link("p", "x")), of(text("p", "x")), 50, told(changed("p", 3, 2, "x"))},
		{"a link elsewhere", of(link("p", "x")), of(link("p", "y")), 50, told(changed("p", 3, 3, "y"))},
		{"a link to nowhere", of(link("p", "x")), of(link("p", "")), 50, told(changed("p", 3, 3, ""))},
		{"a link of lines has no script", of(link("p", "x\ny\n")), of(link("p", "x\n")), 50, told(changed("p", 3, 3, "x\n"))},
		{"a dir with something in it in place of a file", of(file("p", "x")), of(dir("p"), file("p/q", "y")), 50, told(changed("p", 2, 1, ""), added("p/q", 2, "y\n"))},
		{"a file goes into a dir in its own place", of(file("p", "x")), of(dir("p"), file("p/q", "x")), 50, told(changed("p", 2, 1, ""), added("p/q", 2, "x\n"))},
		{"a file comes in place of the dir that it was in", of(dir("p"), file("p/q", "x")), of(file("p", "x")), 50, told(changed("p", 1, 2, "x\n"), deleted("p/q", 2))},
	})
}

func TestModifiedJ2(t *testing.T) {
	noFeed := api.Edit{Op: 3, N: 1, Lines: []string{"y"}}
	run(t, []example{
		{"one line more", of(file("f", "x")), of(file("f", "xy")), 50, told(modified("f", keep(1), add("y")))},
		{"one line less", of(file("f", "xy")), of(file("f", "y")), 50, told(modified("f", cut(1), keep(1)))},
		{"another line", of(file("f", "xyz")), of(file("f", "xqz")), 50, told(modified("f", keep(1), cut(1), add("q"), keep(1)))},
		{"lines that go up by one", of(file("f", "abc")), of(file("f", "bcd")), 50, told(modified("f", cut(1), keep(2), add("d")))},
		{"all other lines, at whatever threshold", of(file("f", "x")), of(file("f", "y")), 101, told(modified("f", cut(1), add("y")))},
		{"a line feed less", of(text("f", "x\ny\n")), of(text("f", "x\ny")), 50, told(modified("f", keep(1), cut(1), noFeed))},
		{"bytes come", of(text("f", "")), of(file("f", "x")), 50, told(modified("f", add("x")))},
		{"bytes go", of(file("f", "xx")), of(text("f", "")), 50, told(modified("f", cut(2)))},
		{"its lines in another order", of(file("f", "xy")), of(file("f", "yx")), 50, told(modified("f", cut(1), keep(1), add("x")))},
		{"what is in both has gone nowhere", of(file("f", "x"), file("g", "y")), of(file("f", "y"), file("g", "x")), 50, told(modified("f", cut(1), add("y")), modified("g", cut(1), add("x")))},
	})
}

func TestTheSameJ2(t *testing.T) {
	run(t, []example{
		{"a dir", of(dir("p")), of(dir("p")), 50, nil},
		{"a file", of(file("p", "xy")), of(file("p", "xy")), 50, nil},
		{"a file without a byte", of(text("p", "")), of(text("p", "")), 50, nil},
		{"a link", of(link("p", "x")), of(link("p", "x")), 50, nil},
		{"a link to nowhere", of(link("p", "")), of(link("p", "")), 50, nil},
		{"the same file beside one that came", of(file("p", "x")), of(file("p", "x"), file("q", "x")), 50, told(added("q", 2, "x\n"))},
		{"the same file beside one that went", of(file("p", "x"), file("q", "x")), of(file("p", "x")), 50, told(deleted("q", 2))},
	})
}

func TestRenamedJ2(t *testing.T) {
	run(t, []example{
		{"as it was", of(file("a", "xyz")), of(file("b", "xyz")), 50, told(renamed("a", "b", 100, keep(3)))},
		{"to a path that is less", of(file("b", "xyz")), of(file("a", "xyz")), 50, told(renamed("b", "a", 100, keep(3)))},
		{"with another line", of(file("a", "wxyz")), of(file("b", "wxqz")), 50, told(renamed("a", "b", 75, keep(2), cut(1), add("q"), keep(1)))},
		{"all its lines in another order", of(file("a", "xy")), of(file("b", "yx")), 100, told(renamed("a", "b", 100, cut(1), keep(1), add("x")))},
		{"without a byte", of(text("a", "")), of(text("b", "")), 100, told(renamed("a", "b", 100))},
		{"without a byte, and one with bytes", of(text("a", "")), of(file("b", "x")), 0, told(deleted("a", 2), added("b", 2, "x\n"))},
		{"into a dir that came", of(file("a", "x")), of(dir("d"), file("d/a", "x")), 50, told(added("d", 1, ""), renamed("a", "d/a", 100, keep(1)))},
		{"with its dir", of(dir("d"), file("d/a", "x")), of(dir("e"), file("e/a", "x")), 50, told(deleted("d", 1), added("e", 1, ""), renamed("d/a", "e/a", 100, keep(1)))},
		{"a link goes nowhere", of(link("a", "x")), of(link("b", "x")), 1, told(deleted("a", 3), added("b", 3, "x"))},
		{"a dir goes nowhere", of(dir("a")), of(dir("b")), 1, told(deleted("a", 1), added("b", 1, ""))},
		{"a file does not become a link", of(text("a", "x\n")), of(link("b", "x\n")), 1, told(deleted("a", 2), added("b", 3, "x\n"))},
		{"a link does not become a file", of(link("a", "x\n")), of(text("b", "x\n")), 1, told(deleted("a", 3), added("b", 2, "x\n"))},
		{"two of them, crosswise", of(file("a", "x"), file("b", "y")), of(file("c", "y"), file("d", "x")), 50, told(renamed("b", "c", 100, keep(1)), renamed("a", "d", 100, keep(1)))},
		{"the more alike one first", of(file("a", "xyz")), of(file("b", "xy"), file("c", "xyz")), 1, told(added("b", 2, "x\ny\n"), renamed("a", "c", 100, keep(3)))},
		{"of two that came the lesser one", of(file("a", "x")), of(file("c", "x"), file("b", "x")), 50, told(renamed("a", "b", 100, keep(1)), added("c", 2, "x\n"))},
		{"of two that went the lesser one", of(file("b", "x"), file("a", "x")), of(file("c", "x")), 50, told(deleted("b", 2), renamed("a", "c", 100, keep(1)))},
		{"a path that is in both takes no part", of(file("a", "x"), file("b", "y")), of(file("b", "x")), 50, told(deleted("a", 2), modified("b", cut(1), add("x")))},
		{"a path that is a link in the other one takes no part", of(file("a", "x")), of(link("a", "x"), file("b", "x")), 50, told(changed("a", 2, 3, "x"), added("b", 2, "x\n"))},
		{"a path that was a dir takes no part", of(dir("b"), file("a", "x")), of(file("b", "x")), 50, told(deleted("a", 2), changed("b", 1, 2, "x\n"))},
	})
}

func TestThresholdsJ2(t *testing.T) {
	a := of(file("a", "stuv"), text("b", ""), file("c", "k"))
	b := of(file("d", "stuw"), text("e", ""), file("f", "m"))
	three := renamed("a", "d", 75, keep(3), cut(1), add("w"))
	none := renamed("b", "e", 100)
	with := told(deleted("c", 2), three, none, added("f", 2, "m\n"))
	less := told(deleted("a", 2), deleted("c", 2), added("d", 2, lines("stuw")), none, added("f", 2, "m\n"))
	all := told(deleted("a", 2), deleted("b", 2), deleted("c", 2), added("d", 2, lines("stuw")), added("e", 2, ""), added("f", 2, "m\n"))
	for _, x := range []struct {
		threshold int
		want      []api.Entry
	}{
		{math.MinInt, with}, {-1, with}, {0, with}, {1, with}, {50, with}, {75, with},
		{76, less}, {100, less},
		{101, all}, {math.MaxInt, all},
	} {
		run(t, []example{{"at " + strconv.Itoa(x.threshold), a, b, x.threshold, x.want}})
	}
}

func TestNoItemsJ1J2(t *testing.T) {
	some := of(file("f", "x"))
	for _, threshold := range []int{math.MinInt, -1, 0, 50, 101, math.MaxInt} {
		run(t, []example{
			{"none in either", nil, nil, threshold, nil},
			{"none in either, in lists", of(), of(), threshold, nil},
			{"none in the first one", nil, some, threshold, told(added("f", 2, "x\n"))},
			{"none in the second one", some, nil, threshold, told(deleted("f", 2))},
		})
	}
}

func TestEntriesStandInTheOrderOfPathsJ2(t *testing.T) {
	names := []string{"a", "a/b", "a/b/c", "a/b!", "a!", "a!/z", "ab", "b", "b/a", "b!", "b\x01", "é", "\xff"}
	var fresh []api.Item
	for _, name := range names {
		fresh = append(fresh, dir(name))
	}
	slices.Reverse(fresh)
	pathsOf := func(a, b []api.Item) []string {
		got, _ := compare.Compare(a, b, wide, 50)
		var list []string
		for _, e := range got {
			list = append(list, e.Path)
		}
		return list
	}
	want := []string{"a", "a/b", "a/b/c", "a/b!", "a!", "a!/z", "ab", "b", "b/a", "b\x01", "b!", "é", "\xff"}
	if got := pathsOf(nil, fresh); !slices.Equal(got, want) {
		t.Errorf("%q, not %q", got, want)
	}
	if got := pathsOf(fresh, nil); !slices.Equal(got, want) {
		t.Errorf("%q, not %q", got, want)
	}
	run(t, []example{{
		"entries of all kinds, in one order",
		of(dir("a"), file("a/e", "x"), file("a!", "y"), link("a0", "p"), file("z", "m")),
		of(dir("a"), dir("a/b"), link("a0", "q"), file("a!", "z"), file("a!!", "m"), file("a/d", "x")),
		50,
		told(added("a/b", 1, ""), renamed("a/e", "a/d", 100, keep(1)), modified("a!", cut(1), add("z")), renamed("z", "a!!", 100, keep(1)), changed("a0", 3, 3, "q")),
	}})
}

type fault struct {
	name string
	a, b []api.Item
	l    api.Limits
	want api.Fault
}

// runFaults holds examples of what is wrong against what they say, asked of both calls.
func runFaults(t *testing.T, faults []fault) {
	t.Helper()
	for _, x := range faults {
		if got := compare.Fault(x.a, x.b, x.l); got != x.want {
			t.Errorf("%s: Fault is %v, not %v", x.name, got, x.want)
		}
		entries, got := compare.Compare(x.a, x.b, x.l, 50)
		if got != x.want || x.want.Code != api.OK && len(entries) > 0 {
			t.Errorf("%s: Compare is %+v %v, not %v", x.name, entries, got, x.want)
		}
		check(t, x.a, x.b, x.l, 50)
	}
}

func is(path string, code api.Errno) api.Fault { return api.Fault{Path: path, Code: code} }

func TestFaultsJ1(t *testing.T) {
	good, ok := of(dir("d"), file("d/f", "x")), api.Fault{}
	runFaults(t, []fault{
		{"none", good, good, wide, ok},
		{"of the first one", of(unreadable("z")), good, wide, is("z", api.ErrRead)},
		{"of the second one", good, of(unreadable("z")), wide, is("z", api.ErrRead)},
		{"of the first one, beside no items", of(unreadable("z")), nil, wide, is("z", api.ErrRead)},
		{"of the second one, beside no items", nil, of(unreadable("z")), wide, is("z", api.ErrRead)},
		{"the first one's is less", of(unreadable("y")), of(unreadable("z")), wide, is("y", api.ErrRead)},
		{"the second one's is less", of(unreadable("z")), of(unreadable("y")), wide, is("y", api.ErrRead)},
		{"the first one's is less, by parts", of(unreadable("d/f"), dir("d")), of(unreadable("d!")), wide, is("d/f", api.ErrRead)},
		{"the second one's is less, by parts", of(unreadable("d!")), of(unreadable("d/f"), dir("d")), wide, is("d/f", api.ErrRead)},
		{"the first one's begins the other one", of(unreadable("d")), of(unreadable("dd")), wide, is("d", api.ErrRead)},
		{"the second one's begins the other one", of(unreadable("dd")), of(unreadable("d")), wide, is("d", api.ErrRead)},
		{"the lesser error does not go ahead", of(file("a/b/", "x")), of(unreadable("a")), wide, is("a", api.ErrRead)},
		{"of one path the first one's", of(unreadable("y")), of(api.Item{Path: "y", Kind: 7}), wide, is("y", api.ErrRead)},
		{"of one path the first one's, though it is greater", of(api.Item{Path: "y", Kind: 7}), of(unreadable("y"), unreadable("y")), wide, is("y", api.ErrKind)},
		{"of one path, the same error", of(unreadable("y")), of(unreadable("y")), wide, is("y", api.ErrRead)},
		{"an unreadable file, and a bad path ahead of it", of(unreadable("f")), of(file("//", "")), wide, is("//", api.ErrPath)},
		{"a bad path, and an unreadable file behind it", of(file("//", "")), of(unreadable("f")), wide, is("//", api.ErrPath)},
		{"the empty path is a bad one", of(unreadable("f")), of(file("", "x")), wide, is("", api.ErrPath)},
		{"a dir with Data", of(api.Item{Path: "d", Kind: 1, Data: "x"}), good, wide, is("d", api.ErrKind)},
		{"within nothing", good, of(file("e/f", "x")), wide, is("e/f", api.ErrParent)},
		{"one tree is no parent for the other one", of(dir("e")), of(file("e/f", "x")), wide, is("e/f", api.ErrParent)},
		{"twice within one", of(file("f", "x"), file("f", "x")), good, wide, is("f", api.ErrTwice)},
		{"the same path in both is not there twice", of(file("f", "x")), of(file("f", "y")), wide, ok},
		{"links and dirs that can't be read", of(api.Item{Path: "l", Kind: 3, Bad: true}), of(api.Item{Path: "d", Kind: 1, Bad: true}), wide, is("d", api.ErrRead)},
		{"alike, and both can't be read", of(unreadable("f"), dir("a")), of(unreadable("f"), dir("a")), wide, is("f", api.ErrRead)},
	})
}

func TestLimitsJ1J2(t *testing.T) {
	tree := of(dir("d"), dir("d/e"), text("d/e/f", "12345"))
	met := api.Limits{Depth: 3, Size: 5, Count: 3}
	runFaults(t, []fault{
		{"just met by both", tree, tree, met, api.Fault{}},
		{"one part too many", tree, nil, api.Limits{Depth: 2, Size: 5, Count: 3}, is("d/e/f", api.ErrDepth)},
		{"one part too many in the second one", nil, tree, api.Limits{Depth: 2, Size: 5, Count: 3}, is("d/e/f", api.ErrDepth)},
		{"one byte too many", tree, nil, api.Limits{Depth: 3, Size: 4, Count: 3}, is("d/e/f", api.ErrLong)},
		{"one byte too many in the second one", nil, tree, api.Limits{Depth: 3, Size: 4, Count: 3}, is("d/e/f", api.ErrLong)},
		{"one item too many", tree, nil, api.Limits{Depth: 3, Size: 5, Count: 2}, is("", api.ErrMany)},
		{"one item too many in the second one", nil, tree, api.Limits{Depth: 3, Size: 5, Count: 2}, is("", api.ErrMany)},
		{"as many as there may be in each, more in both", tree, of(dir("x"), dir("y"), dir("z")), met, api.Fault{}},
		{"too many, and a bad path in the other one", tree, of(file("!", "123456")), api.Limits{Depth: 3, Size: 5, Count: 2}, is("", api.ErrMany)},
		{"a bad path, and too many in the other one", of(file("!", "123456")), tree, api.Limits{Depth: 3, Size: 5, Count: 2}, is("", api.ErrMany)},
		{"an empty path, and too many in the other one", of(file("", "")), tree, api.Limits{Depth: 3, Size: 5, Count: 2}, is("", api.ErrPath)},
		{"too many, and an empty path in the other one", tree, of(file("", "")), api.Limits{Depth: 3, Size: 5, Count: 2}, is("", api.ErrMany)},
		{"too many in both", tree, tree, api.Limits{Depth: 3, Size: 5, Count: 2}, is("", api.ErrMany)},
		{"limits of 0, and no items", nil, nil, api.Limits{}, api.Fault{}},
		{"limits of 0, and one item", nil, of(dir("d")), api.Limits{}, is("", api.ErrMany)},
		{"limits below 0, and no items", nil, nil, api.Limits{Depth: -1, Size: -1, Count: -1}, is("", api.ErrMany)},
		{"no part may be", nil, of(dir("d")), api.Limits{Size: 1, Count: 1}, is("d", api.ErrDepth)},
		{"no byte may be", nil, of(dir("d"), text("f", "")), api.Limits{Depth: 1, Count: 2}, api.Fault{}},
		{"the greatest limits", tree, tree, api.Limits{Depth: math.MaxInt, Size: math.MaxInt, Count: math.MaxInt}, api.Fault{}},
		{"the least limits", tree, tree, api.Limits{Depth: math.MinInt, Size: math.MinInt, Count: math.MinInt}, is("", api.ErrMany)},
	})
}

// small is all trees that have one of some items, or none, at each path.
func small(at ...[]api.Item) [][]api.Item {
	list := [][]api.Item{nil}
	for _, items := range at {
		for _, tree := range slices.Clone(list) {
			for _, item := range items {
				list = append(list, append(slices.Clone(tree), item))
			}
		}
	}
	return list
}

// kinds is items of all kinds at one path.
func kinds(path string) []api.Item {
	return of(dir(path), file(path, ""), file(path, "x"), file(path, "xy"), text(path, "x\ny"), link(path, ""), link(path, "x\n"))
}

func TestAllSmallTreesJ2J3(t *testing.T) {
	list := small(kinds("p"), kinds("q"))
	for _, a := range list {
		for _, b := range list {
			for _, threshold := range []int{-1, 1, 66, 67, 100, 101} {
				check(t, a, b, wide, threshold)
			}
		}
	}
}

func TestAllSmallTreesOfThreePathsJ2J3(t *testing.T) {
	list := small(
		of(dir("d"), file("d", "x")),
		of(file("d/f", "x"), file("d/f", "y"), dir("d/f")),
		of(file("d!", "x"), file("d!", "xz"), link("d!", "x\n")),
	)
	for _, a := range list {
		for _, b := range list {
			check(t, a, b, wide, 1)
			check(t, a, b, wide, 100)
		}
	}
}

func TestAllShortListsJ1(t *testing.T) {
	odd := of(
		dir("a"), file("a", "x"), unreadable("a"), api.Item{Path: "a", Kind: 1, Data: "x"},
		file("a/b", "x"), file("a/b", "xxx"), api.Item{Path: "a/b", Kind: 9}, file("a/b/c", "x"),
		unreadable("a!"), dir(""), file("/", "x"), api.Item{Path: "..", Kind: -1, Bad: true},
	)
	lists := [][]api.Item{nil}
	for _, x := range odd {
		lists = append(lists, of(x))
		for _, y := range odd {
			lists = append(lists, of(x, y))
		}
	}
	for _, a := range lists {
		for _, b := range lists {
			check(t, a, b, api.Limits{Depth: 2, Size: 4, Count: 2}, 50)
			check(t, a, b, api.Limits{Depth: 2, Size: 4, Count: 1}, 50)
		}
	}
}

func someText(chance *rand.Rand, letters int) string {
	var list []byte
	for range chance.Intn(6) {
		list = append(list, byte('a'+chance.Intn(letters)))
	}
	return string(list)
}

// grow adds some items in a dir to a tree, and to these dirs some more.
func grow(chance *rand.Rand, tree []api.Item, within string, letters int) []api.Item {
	for _, name := range []string{"a", "a!", "b", "b!", "c", "é"} {
		path := within + name
		switch chance.Intn(9) {
		case 0, 1:
			tree = append(tree, dir(path))
			if len(within) < 6 {
				tree = grow(chance, tree, path+"/", letters)
			}
		case 2, 3, 4:
			tree = append(tree, file(path, someText(chance, letters)))
		case 5:
			tree = append(tree, link(path, someText(chance, letters)))
		}
	}
	return tree
}

func shuffled(chance *rand.Rand, list []api.Item) []api.Item {
	list = slices.Clone(list)
	chance.Shuffle(len(list), func(i, j int) { list[i], list[j] = list[j], list[i] })
	return list
}

func TestSomeTreesJ2J3(t *testing.T) {
	chance := rand.New(rand.NewSource(10))
	for i := range 3000 {
		letters := 1 + i%6
		a, b := grow(chance, nil, "", letters), grow(chance, nil, "", letters)
		check(t, shuffled(chance, a), shuffled(chance, b), wide, chance.Intn(112)-5)
	}
}

// TestSomeTreesWithFaultsJ1 has trees of which the one, the other or both have something wrong.
func TestSomeTreesWithFaultsJ1(t *testing.T) {
	chance := rand.New(rand.NewSource(11))
	spoilt := func(tree []api.Item) []api.Item {
		for i := range tree {
			switch chance.Intn(24) {
			case 0:
				tree[i].Bad = true
			case 1:
				tree[i].Kind = chance.Intn(6) - 1
			case 2:
				tree[i].Path += "/"
			case 3:
				tree[i].Path = tree[chance.Intn(len(tree))].Path
			}
		}
		return shuffled(chance, tree)
	}
	for range 3000 {
		l := api.Limits{Depth: 2 + chance.Intn(3), Size: 4 + chance.Intn(9), Count: 4 + chance.Intn(30)}
		check(t, spoilt(grow(chance, nil, "", 3)), spoilt(grow(chance, nil, "", 3)), l, 50)
	}
}

func TestATreeAndItselfJ3(t *testing.T) {
	chance := rand.New(rand.NewSource(12))
	trees := small(kinds("p"), kinds("q"))
	for range 500 {
		trees = append(trees, grow(chance, nil, "", 3))
	}
	for _, tree := range trees {
		for _, threshold := range []int{-1, 0, 1, 50, 100, 101} {
			got, fault := compare.Compare(tree, shuffled(chance, tree), wide, threshold)
			if len(got) > 0 || fault != (api.Fault{}) {
				t.Fatalf("%+v and itself at %d: %+v %v", tree, threshold, got, fault)
			}
			if got, fault := compare.Compare(tree, tree, wide, threshold); len(got) > 0 || fault != (api.Fault{}) {
				t.Fatalf("%+v and itself at %d: %+v %v", tree, threshold, got, fault)
			}
		}
	}
}

func TestTheOrderOfItemsChangesNothingJ3(t *testing.T) {
	chance := rand.New(rand.NewSource(13))
	for range 500 {
		a, b := grow(chance, nil, "", 2), grow(chance, nil, "", 2)
		l := api.Limits{Depth: 4, Size: 6 + chance.Intn(8), Count: 100}
		want, fault := compare.Compare(a, b, l, 1)
		for range 4 {
			got, again := compare.Compare(shuffled(chance, a), shuffled(chance, b), l, 1)
			if again != fault || !slices.EqualFunc(got, want, same) {
				t.Fatalf("%+v and %+v: %+v %v, and in another order %+v %v", a, b, want, fault, got, again)
			}
		}
	}
}

// mixed is two trees that have entries of all kinds.
func mixed() (a, b []api.Item) {
	a = of(file("a gone", "wxyz"), file("deleted", "p"), file("modified", "abc"), link("changed", "old link"), dir("dir"), file("dir/same", "s"), dir("kind"))
	b = of(file("b come", "wxyq"), file("added", "t"), file("modified", "bcd"), link("changed", "new link"), dir("dir"), file("dir/same", "s"), text("kind", "was a dir"))
	return a, b
}

// TestNothingIsWrittenIntoJ1J2 also looks at what stands behind the lists' lengths.
func TestNothingIsWrittenIntoJ1J2(t *testing.T) {
	a, b := mixed()
	behind := of(file("behind", "x"), file("more", "y"))
	a, b = append(a, behind...), append(b, behind...)
	wasA, wasB := slices.Clone(a), slices.Clone(b)
	headA, headB := a[:len(a)-2], b[:len(b)-2]
	if got, fault := compare.Compare(headA, headB, wide, 50); len(got) != 6 || fault != (api.Fault{}) {
		t.Errorf("%+v %v", got, fault)
	}
	compare.Compare(headA, headA, wide, 50)
	compare.Fault(headA, headB, api.Limits{Depth: 1, Size: 3, Count: 7})
	compare.Compare(headB, headA, api.Limits{Depth: 1, Size: 3, Count: 7}, 50)
	if !slices.Equal(a, wasA) || !slices.Equal(b, wasB) {
		t.Errorf("what was handed in has become %+v and %+v", a, b)
	}
}

// textsOf is all texts of entries.
func textsOf(entries []api.Entry) []string {
	var texts []string
	for _, e := range entries {
		texts = append(texts, e.Path, e.From, e.Data)
		for _, edit := range e.Script {
			texts = append(texts, edit.Lines...)
		}
	}
	return texts
}

func textsIn(items []api.Item) []string {
	var texts []string
	for _, item := range items {
		texts = append(texts, item.Path, item.Data)
	}
	return texts
}

// within tells whether a text's first byte lies within another text's memory.
func within(a, b string) bool {
	if a == "" || b == "" {
		return false
	}
	first, begin := uintptr(unsafe.Pointer(unsafe.StringData(a))), uintptr(unsafe.Pointer(unsafe.StringData(b)))
	return first >= begin && first < begin+uintptr(len(b))
}

func TestTextsThatComeOutAreNewJ2(t *testing.T) {
	a, b := mixed()
	first, _ := compare.Compare(a, b, wide, 50)
	second, _ := compare.Compare(a, b, wide, 50)
	out, others := textsOf(first), slices.Concat(textsIn(a), textsIn(b), textsOf(second))
	for i, text := range out {
		for _, other := range slices.Concat(others, out[:i]) {
			if within(text, other) || within(other, text) {
				t.Errorf("%q and %q share memory", text, other)
			}
		}
	}
}

func TestAFaultsPathIsNewJ1(t *testing.T) {
	tree := of(unreadable("not to be read"))
	_, told := compare.Compare(tree, nil, wide, 50)
	for _, f := range []api.Fault{compare.Fault(tree, nil, wide), compare.Fault(nil, tree, wide), told} {
		if f.Path != tree[0].Path || within(f.Path, tree[0].Path) {
			t.Errorf("%q shares memory with what was handed in", f.Path)
		}
	}
}

// spoil writes into all that an answer has, and into its spare room.
func spoil(entries []api.Entry) {
	for _, e := range entries {
		for _, edit := range e.Script {
			for i := range edit.Lines[:cap(edit.Lines)] {
				edit.Lines[:cap(edit.Lines)][i] = "spoilt"
			}
		}
		for i := range e.Script[:cap(e.Script)] {
			e.Script[:cap(e.Script)][i] = api.Edit{Op: 9}
		}
	}
	for i := range entries[:cap(entries)] {
		entries[:cap(entries)][i] = api.Entry{Op: 9}
	}
}

func TestListsThatComeOutAreNewJ2(t *testing.T) {
	a, b := mixed()
	// Three files with one and the same change: their scripts are three.
	for _, name := range []string{"x", "y", "z"} {
		a, b = append(a, file(name, "ab")), append(b, file(name, "ac"))
	}
	want, _ := wantCompare(a, b, wide, 50)
	first, _ := compare.Compare(a, b, wide, 50)
	second, _ := compare.Compare(a, b, wide, 50)
	last := len(first) - 1
	spoil(first[last:])
	if !slices.EqualFunc(first[:last], want[:last], same) {
		t.Errorf("other entries of the answer have become %+v", first[:last])
	}
	spoil(first)
	if !slices.EqualFunc(second, want, same) {
		t.Errorf("another answer has become %+v", second)
	}
	check(t, a, b, wide, 50)
}

func TestFieldsThatAreNotNamedAreZeroJ2(t *testing.T) {
	a, b := mixed()
	got, _ := compare.Compare(a, b, wide, 50)
	for _, e := range got {
		renamed, scripted := e.Op == api.Renamed, e.Op == api.Renamed || e.Op == api.Modified
		switch {
		case !renamed && (e.From != "" || e.Score != 0), !scripted && len(e.Script) > 0, scripted && e.Data != "":
			t.Errorf("%+v", e)
		case e.Op == api.Added && e.Old != 0, e.Op == api.Deleted && (e.New != 0 || e.Data != ""):
			t.Errorf("%+v", e)
		}
		for _, edit := range e.Script {
			if edit.Op != api.Add && len(edit.Lines) > 0 {
				t.Errorf("%+v", edit)
			}
		}
	}
}

// TestTheSameTwiceJ1J2 would find something that is kept from call to call.
func TestTheSameTwiceJ1J2(t *testing.T) {
	a, b := mixed()
	want, _ := compare.Compare(a, b, wide, 50)
	for range 5 {
		compare.Compare(b, a, wide, 101)
		compare.Compare(b, a, api.Limits{}, 1)
		if got, fault := compare.Compare(a, b, wide, 50); fault != (api.Fault{}) || !slices.EqualFunc(got, want, same) {
			t.Errorf("%+v %v, not %+v", got, fault, want)
		}
	}
}

func TestManyItemsComeToAnEndJ2(t *testing.T) {
	l := api.Limits{Depth: 2, Size: 1000, Count: 5000}
	var a, b []api.Item
	for i := range 4000 {
		name := strconv.Itoa(i)
		a, b = append(a, link("x"+name, name)), append(b, link("x"+name, strconv.Itoa(i/2*2)))
	}
	for i := range 150 {
		name := strconv.Itoa(i)
		data := strings.Repeat(name+"\n", 3)
		a, b = append(a, text("old"+name, data)), append(b, text("new"+name, data+"last"))
	}
	got, fault := compare.Compare(a, b, l, 80)
	if fault != (api.Fault{}) || len(got) != 2000+150 {
		t.Fatalf("%d entries, %v", len(got), fault)
	}
	for i, e := range got {
		if i > 0 && partByPart(got[i-1].Path, e.Path) >= 0 {
			t.Errorf("%q stands ahead of %q", got[i-1].Path, e.Path)
		}
		if e.Op == api.Renamed && (strings.TrimPrefix(e.From, "old") != strings.TrimPrefix(e.Path, "new") || e.Score != 85) {
			t.Errorf("%+v", e)
		}
	}
}
