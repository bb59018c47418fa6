package patch_test

import (
	"fmt"
	"math/rand"
	"slices"
	"strconv"
	"strings"
	"testing"
	"unsafe"

	"collator/api"
	"collator/patch"
	"collator/script"
)

type example struct {
	name string
	a    []api.Item
	l    []api.Entry
	want []api.Item
}

// run holds examples that fit against what they say, and against the chapter's words.
func run(t *testing.T, examples []example) {
	t.Helper()
	for _, x := range examples {
		got, code := patch.Apply(x.a, x.l)
		if code != api.OK || !slices.Equal(got, x.want) {
			t.Errorf("%s: %+v %v, not %+v", x.name, got, code, x.want)
		}
		check(t, x.a, x.l)
	}
}

type refusal struct {
	name string
	a    []api.Item
	l    []api.Entry
}

// runRefusals holds examples that may not be, or do not fit, against the error that is asked for.
func runRefusals(t *testing.T, want api.Errno, refusals []refusal) {
	t.Helper()
	for _, x := range refusals {
		got, code := patch.Apply(x.a, x.l)
		if code != want || len(got) > 0 {
			t.Errorf("%s: %+v %v, not %v", x.name, got, code, want)
		}
		check(t, x.a, x.l)
	}
}

func TestExampleK1(t *testing.T) {
	a := of(file("a", "x"))
	run(t, []example{{"the chapter's example", a, told(renamed("a", "b", keep(1))), of(file("b", "x"))}})
	runRefusals(t, api.ErrForm, []refusal{{"the chapter's example", a, told(deleted("c", 2))}})
}

func TestOrdinaryEntriesK1(t *testing.T) {
	a := of(dir("doc"), file("doc/one", "abc"), file("doc/two", "pqrs"), file("doc/old", "x"), link("last", "doc/one"), file("read", "m"), dir("empty"))
	run(t, []example{{
		"of everything one", a,
		told(
			deleted("doc/old", 2),
			changed("empty", 1, 2, "now a file"),
			changed("last", 3, 3, "doc/two"),
			added("new", 1, ""),
			renamed("doc/two", "new/two", keep(4), add("t\n")),
			modified("read", cut(1), add("n\n", "o")),
		),
		of(dir("doc"), file("doc/one", "abc"), text("empty", "now a file"), link("last", "doc/two"), dir("new"), file("new/two", "pqrst"), text("read", "n\no")),
	}})
}

func TestAddedK1(t *testing.T) {
	a := of(file("m", "x"))
	run(t, []example{
		{"a dir", a, told(added("d", 1, "")), of(dir("d"), a[0])},
		{"a dir with Data", a, told(added("d", 1, "x")), of(api.Item{Path: "d", Kind: 1, Data: "x"}, a[0])},
		{"a file", a, told(added("f", 2, "a\nb")), of(text("f", "a\nb"), a[0])},
		{"a file without a byte", a, told(added("f", 2, "")), of(text("f", ""), a[0])},
		{"a file behind the others", a, told(added("z", 2, "\n\n")), of(a[0], text("z", "\n\n"))},
		{"a link", a, told(added("l", 3, "to")), of(link("l", "to"), a[0])},
		{"a link to nowhere", a, told(added("l", 3, "")), of(link("l", ""), a[0])},
		{"in no dir that is there", a, told(added("q/r", 2, "x")), of(a[0], text("q/r", "x"))},
		{"within a file", a, told(added("m/r", 2, "x")), of(a[0], text("m/r", "x"))},
		{"two of them", a, told(added("l", 3, "m"), added("n", 2, "x\n")), of(link("l", "m"), a[0], file("n", "x"))},
	})
	for kind := 1; kind <= 3; kind++ {
		for _, there := range of(dir("m"), file("m", "x"), file("m", ""), link("m", ""), bad(file("m", "x")), api.Item{Path: "m"}, api.Item{Path: "m", Kind: 9}) {
			runRefusals(t, api.ErrForm, []refusal{
				{"it is there", of(there), told(added("m", kind, there.Data))},
				{"it is there, amid others", of(dir("a"), there, dir("z")), told(added("b", 1, ""), added("m", kind, ""), added("n", 1, ""))},
			})
		}
	}
}

func TestDeletedK1(t *testing.T) {
	a := of(dir("d"), file("d/f", "x"), link("l", "d"))
	run(t, []example{
		{"a dir, and what is in it stays", a, told(deleted("d", 1)), a[1:]},
		{"a file", a, told(deleted("d/f", 2)), of(a[0], a[2])},
		{"a link", a, told(deleted("l", 3)), a[:2]},
		{"two of them", a, told(deleted("d", 1), deleted("d/f", 2)), a[2:]},
		{"all", a, told(deleted("d", 1), deleted("d/f", 2), deleted("l", 3)), nil},
		{"what can't be read", of(bad(file("f", "x"))), told(deleted("f", 2)), nil},
	})
	runRefusals(t, api.ErrForm, []refusal{
		{"it is not there", a, told(deleted("f", 2))},
		{"it is not there, but what begins with it is", a, told(deleted("d/", 1))},
		{"another letter", a, told(deleted("D", 1))},
		{"a dir as a file", a, told(deleted("d", 2))},
		{"a dir as a link", a, told(deleted("d", 3))},
		{"a file as a dir", a, told(deleted("d/f", 1))},
		{"a file as a link", a, told(deleted("d/f", 3))},
		{"a link as a dir", a, told(deleted("l", 1))},
		{"a link as a file", a, told(deleted("l", 2))},
		{"of no kind that there is", of(api.Item{Path: "f", Kind: 4}), told(deleted("f", 3))},
		{"of no kind", of(api.Item{Path: "f"}), told(deleted("f", 1))},
		{"the second one of two", a, told(deleted("d", 1), deleted("l", 2))},
		{"the first one of two", a, told(deleted("d", 2), deleted("l", 3))},
	})
}

func TestChangedK1(t *testing.T) {
	for _, was := range of(dir("p"), file("p", "x"), text("p", ""), link("p", "x"), bad(link("p", "x")), bad(file("p", "x")), bad(dir("p"))) {
		for kind := 1; kind <= 3; kind++ {
			for _, data := range []string{"", "x\n", "x", "new"} {
				made := api.Item{Path: "p", Kind: kind, Data: data}
				run(t, []example{
					{"one", of(was), told(changed("p", was.Kind, kind, data)), of(made)},
					{"amid others", of(dir("a"), was, dir("z")), told(changed("p", was.Kind, kind, data)), of(dir("a"), made, dir("z"))},
				})
				for old := 1; old <= 3; old++ {
					if old != was.Kind {
						runRefusals(t, api.ErrForm, []refusal{{"of another kind", of(was), told(changed("p", old, kind, data))}})
					}
				}
			}
		}
	}
	runRefusals(t, api.ErrForm, []refusal{
		{"it is not there", of(dir("a")), told(changed("p", 1, 2, ""))},
		{"nothing is there", nil, told(changed("p", 1, 2, ""))},
		{"of no kind that there is", of(api.Item{Path: "p", Kind: 4}), told(changed("p", 3, 2, ""))},
		{"what it becomes is there, not what it was", of(link("p", "x")), told(changed("p", 2, 3, "x"))},
	})
}

// edits is what scripts make of a file's bytes.
var edits = []struct {
	name, was string
	by        []api.Edit
	want      string
}{
	{"all is kept", "x\ny\n", by(keep(2)), "x\ny\n"},
	{"the first line goes", "x\ny\n", by(cut(1), keep(1)), "y\n"},
	{"the last line goes", "x\ny\n", by(keep(1), cut(1)), "x\n"},
	{"all lines go", "x\ny\n", by(cut(2)), ""},
	{"a line comes ahead", "x\n", by(add("a\n"), keep(1)), "a\nx\n"},
	{"a line comes behind", "x\n", by(keep(1), add("a\n")), "x\na\n"},
	{"another line", "x\ny\nz\n", by(keep(1), cut(1), add("q\n"), keep(1)), "x\nq\nz\n"},
	{"a last line without a line feed is one", "x\ny", by(keep(2)), "x\ny"},
	{"behind a line without a line feed", "x", by(keep(1), add("y\n")), "xy\n"},
	{"lines that are not right ones", "x\ny\n", by(keep(1), add("", "a\nb", "c"), keep(1)), "x\na\nbcy\n"},
	{"a file without a byte, and no edits", "", nil, ""},
	{"a file without a byte", "", by(add("x\n", "y")), "x\ny"},
	{"line feeds alone", "\n\n\n", by(keep(1), cut(1), keep(1)), "\n\n"},
	{"bytes that are no text", "\xff\x00\n\xfe", by(cut(1), keep(1), add("\x80")), "\xfe\x80"},
}

func TestModifiedK1(t *testing.T) {
	for _, x := range edits {
		run(t, []example{
			{x.name, of(text("p", x.was)), told(modified("p", x.by...)), of(text("p", x.want))},
			{x.name, of(dir("z"), text("p", x.was), dir("a")), told(modified("p", x.by...)), of(dir("a"), text("p", x.want), dir("z"))},
			{"what can't be read", of(bad(text("p", x.was))), told(modified("p", x.by...)), of(text("p", x.want))},
		})
	}
	runRefusals(t, api.ErrForm, []refusal{
		{"it is not there", of(file("a", "x")), told(modified("p", keep(1)))},
		{"nothing is there", nil, told(modified("p"))},
		{"nothing is there, and lines come", nil, told(modified("p", add("x")))},
		{"a dir", of(dir("p")), told(modified("p"))},
		{"a dir with Data", of(api.Item{Path: "p", Kind: 1, Data: "x"}), told(modified("p", keep(1)))},
		{"a link", of(link("p", "x")), told(modified("p", keep(1)))},
		{"a link to nowhere", of(link("p", "")), told(modified("p"))},
		{"of no kind that there is", of(api.Item{Path: "p", Kind: 4, Data: "x"}), told(modified("p", keep(1)))},
		{"of no kind", of(api.Item{Path: "p"}), told(modified("p"))},
	})
}

// unfit is scripts that are right, and take another number of lines than a text has.
var unfit = []struct {
	was string
	by  []api.Edit
}{
	{"", by(keep(1))}, {"", by(cut(1), add("x"))}, {"x", nil}, {"x", by(add("x"))}, {"x", by(keep(2))}, {"x\n", by(keep(2))},
	{"x\ny", by(keep(1))}, {"x\ny", by(cut(1))}, {"x\ny", by(keep(1), cut(1), keep(1))}, {"x\ny", by(keep(1 << 20))}, {"\n\n", by(keep(1), add("\n"))},
}

func TestScriptsThatDoNotFitK1(t *testing.T) {
	for _, x := range unfit {
		was := of(dir("d"), text("p", x.was))
		runRefusals(t, api.ErrForm, []refusal{
			{"Modified", was, told(modified("p", x.by...))},
			{"Modified, behind one that fits", was, told(deleted("d", 1), modified("p", x.by...))},
			{"Modified, ahead of one that fits", was, told(modified("p", x.by...), added("z", 1, ""))},
			{"Renamed", was, told(renamed("p", "q", x.by...))},
			{"Renamed, ahead of one that fits", was, told(renamed("p", "q", x.by...), added("z", 1, ""))},
		})
	}
}

func TestRenamedK1(t *testing.T) {
	for _, x := range edits {
		run(t, []example{
			{x.name, of(text("p", x.was)), told(renamed("p", "q", x.by...)), of(text("q", x.want))},
			{x.name, of(dir("z"), text("p", x.was), dir("a")), told(renamed("p", "b", x.by...)), of(dir("a"), text("b", x.want), dir("z"))},
			{"what can't be read", of(bad(text("p", x.was))), told(renamed("p", "q", x.by...)), of(text("q", x.want))},
		})
	}
	two := of(file("a", "x"), file("b", "y"))
	run(t, []example{
		{"two, crosswise", two, told(renamed("b", "c", keep(1)), renamed("a", "d", keep(1))), of(file("c", "y"), file("d", "x"))},
		{"from the empty path", of(file("", "x")), told(renamed("", "b", keep(1))), of(file("b", "x"))},
		{"to the empty path", of(file("b", "x")), told(renamed("b", "", keep(1))), of(file("", "x"))},
		{"into a file's own place, as a dir", of(file("p", "x")), told(renamed("p", "p/q", keep(1))), of(file("p/q", "x"))},
	})
	runRefusals(t, api.ErrForm, []refusal{
		{"its Path is there", two, told(renamed("a", "b", keep(1)))},
		{"its Path is there, as a dir", of(file("a", "x"), dir("b")), told(renamed("a", "b", keep(1)))},
		{"its Path is there, as a link", of(link("b", ""), file("a", "x")), told(renamed("a", "b", keep(1)))},
		{"its Path is there, of no kind", of(file("a", "x"), api.Item{Path: "b"}), told(renamed("a", "b", keep(1)))},
		{"its Path is there, and can't be read", of(file("a", "x"), bad(file("b", "x"))), told(renamed("a", "b", keep(1)))},
		{"From is not there", two, told(renamed("c", "d", keep(1)))},
		{"From is not there, and no lines are asked", two, told(renamed("c", "d"))},
		{"From is empty, and not there", two, told(renamed("", "d"))},
		{"neither is From there, nor anything else", nil, told(renamed("a", "b"))},
		{"From is a dir", of(dir("a")), told(renamed("a", "b"))},
		{"From is a dir with Data", of(api.Item{Path: "a", Kind: 1, Data: "x"}), told(renamed("a", "b", keep(1)))},
		{"From is a link", of(link("a", "x")), told(renamed("a", "b", keep(1)))},
		{"From is of no kind that there is", of(api.Item{Path: "a", Kind: 4, Data: "x"}), told(renamed("a", "b", keep(1)))},
		{"From is of no kind", of(api.Item{Path: "a"}), told(renamed("a", "b"))},
		{"Path is there, From is not", of(file("b", "x")), told(renamed("a", "b", keep(1)))},
		{"the second one of two", two, told(renamed("a", "c", keep(1)), renamed("e", "d", keep(1)))},
	})
	for _, score := range []int{1, 50, 100} {
		e := renamed("a", "c", cut(1))
		e.Score = score
		run(t, []example{{"whatever the Score is", two, told(e), of(file("b", "y"), file("c", ""))}})
	}
}

// TestWhatIsLackingIsAskedOfTheTreeThatWasK1 has entries that would fit, were they done one by one in another order.
func TestWhatIsLackingIsAskedOfTheTreeThatWasK1(t *testing.T) {
	runRefusals(t, api.ErrForm, []refusal{
		{"a dir that comes is not there yet", nil, told(added("d", 1, ""), deleted("e", 1))},
		{"what is added beside is no From", of(dir("d")), told(added("e", 2, "x"), renamed("f", "g", keep(1)))},
	})
	runRefusals(t, api.ErrArg, []refusal{
		{"into the place of one that goes", of(file("a", "x"), file("b", "y")), told(deleted("b", 2), renamed("a", "b", keep(1)))},
		{"of one that has just come", of(file("a", "x")), told(renamed("a", "b", keep(1)), renamed("b", "c", keep(1)))},
		{"two change places", of(file("a", "x"), file("b", "y")), told(renamed("b", "a", keep(1)), renamed("a", "b", keep(1)))},
	})
}

func TestArgAheadOfFormK1(t *testing.T) {
	a, twice := of(file("a", "x"), file("b", "y")), of(file("a", "x"), file("a", "x"))
	runRefusals(t, api.ErrArg, []refusal{
		{"not right, and does not fit", a, told(added("c", 0, ""), deleted("d", 2))},
		{"does not fit, and then is not right", a, told(deleted("c", 2), added("d", 0, ""))},
		{"one that is not right and would not fit", a, told(spoilt(added("b", 2, ""), func(e *api.Entry) { e.From = "q" }))},
		{"out of order, and none fits", a, told(deleted("d", 2), deleted("c", 2))},
		{"twice, and it does not fit", a, told(added("a", 1, ""), added("a", 1, ""))},
		{"one From twice, and it is not there", a, told(renamed("c", "d"), renamed("c", "e"))},
		{"a path that is there twice, and an entry that does not fit", twice, told(deleted("b", 2))},
		{"a path that is there twice, and an entry of it", twice, told(deleted("a", 2))},
		{"a path that is there twice, and an entry that is not right", twice, told(added("c", 0, ""))},
	})
}

func TestPathsThatAreInTheTreeTwiceK1(t *testing.T) {
	ok := told(added("m", 1, ""))
	for _, twice := range [][]api.Item{
		of(file("a", "x"), file("a", "x")),
		of(file("a", "x"), file("a", "y")),
		of(dir("a"), file("a", "")),
		of(bad(file("a", "x")), file("a", "x")),
		of(dir("a"), dir("b"), dir("a")),
		of(dir("b"), dir("a"), dir("c"), dir("a")),
		of(dir("a"), dir("a"), dir("a")),
		of(dir("a"), dir("a"), dir("b"), dir("b")),
		of(dir(""), dir("")),
		of(dir("/"), file("/", "")),
		of(api.Item{Path: "a"}, api.Item{Path: "a"}),
	} {
		path := twice[len(twice)-1].Path
		runRefusals(t, api.ErrArg, []refusal{
			{"and no entries", twice, nil},
			{"and one that fits", twice, ok},
			{"and one of it", twice, told(deleted(path, twice[0].Kind))},
			{"and a file's", twice, told(modified(path, keep(1)))},
			{"and one that goes elsewhere", twice, told(renamed(path, "n", keep(1)))},
		})
	}
	run(t, []example{
		{"one that begins another one is not there twice", of(dir("a"), dir("a/"), dir("aa"), dir("A")), nil, of(dir("A"), dir("a"), dir("a/"), dir("aa"))},
	})
}

func TestNoItemsAndNoEntriesK1(t *testing.T) {
	some := of(link("z", "to"), dir("a"), file("m", "xy"))
	run(t, []example{
		{"neither", nil, nil, nil},
		{"neither, in lists", of(), told(), nil},
		{"no entries", some, nil, of(dir("a"), file("m", "xy"), link("z", "to"))},
		{"no entries, in a list", some, told(), of(dir("a"), file("m", "xy"), link("z", "to"))},
		{"no items", nil, told(added("a", 1, ""), added("b", 2, "x")), of(dir("a"), text("b", "x"))},
	})
	runRefusals(t, api.ErrForm, []refusal{
		{"no items, Deleted", nil, told(deleted("a", 1))},
		{"no items, Modified", nil, told(modified("a"))},
		{"no items, Changed", nil, told(changed("a", 1, 1, ""))},
		{"no items, Renamed", nil, told(renamed("b", "a"))},
	})
}

// TestPathsThatAreNoneK1 has what chapter 1 would not let be: it is a text like any other one.
func TestPathsThatAreNoneK1(t *testing.T) {
	for _, path := range []string{"", "/", "//", ".", "..", "a//b", "/a", "a/", "a\x00", strings.Repeat("p", 65), strings.Repeat("p/", 16) + "p", "\xff\xfe"} {
		run(t, []example{
			{"it stays", of(file(path, "x")), nil, of(file(path, "x"))},
			{"it stays, and others come and go", of(file("o", "y"), file(path, "x")), told(deleted("o", 2)), of(file(path, "x"))},
			{"Added", nil, told(added(path, 2, "x")), of(text(path, "x"))},
			{"Deleted", of(file(path, "x")), told(deleted(path, 2)), nil},
			{"Modified", of(file(path, "x")), told(modified(path, cut(1), add("y\n"))), of(file(path, "y"))},
			{"Changed", of(file(path, "x")), told(changed(path, 2, 3, "to")), of(link(path, "to"))},
			{"Renamed", of(file("o", "x")), told(renamed("o", path, keep(1))), of(file(path, "x"))},
			{"Renamed, From", of(file(path, "x")), told(renamed(path, "o", keep(1))), of(file("o", "x"))},
		})
		runRefusals(t, api.ErrForm, []refusal{
			{"Added, and there", of(file(path, "x")), told(added(path, 1, ""))},
			{"Deleted, and not there", of(file("o", "x")), told(deleted(path, 2))},
			{"Renamed, and not there", of(file("o", "x")), told(renamed(path, "q", keep(1)))},
		})
	}
}

// TestTheEmptyFromTellsOfNothingK1: only Renamed tells of a From, so that the item at the empty path stays, whatever else is done.
func TestTheEmptyFromTellsOfNothingK1(t *testing.T) {
	odd := file("", "x")
	a := of(file("f", "y"), odd, link("l", "f"))
	run(t, []example{
		{"Added", a, told(added("e", 1, "")), of(odd, dir("e"), a[0], a[2])},
		{"Deleted", a, told(deleted("f", 2)), of(odd, a[2])},
		{"Modified", a, told(modified("f", keep(1))), of(odd, a[0], a[2])},
		{"Changed", a, told(changed("l", 3, 1, "")), of(odd, a[0], dir("l"))},
		{"Renamed", a, told(renamed("f", "g", keep(1))), of(odd, file("g", "y"), a[2])},
	})
}

func TestItemsThatAreBadK1(t *testing.T) {
	a := of(bad(file("f", "x")), bad(dir("d")), bad(link("l", "to")), bad(file("g", "")))
	run(t, []example{
		{"what no entry tells of stays as it was", a, nil, of(a[1], a[0], a[3], a[2])},
		{"beside others that come", a, told(added("e", 2, "y")), of(a[1], text("e", "y"), a[0], a[3], a[2])},
		{"what entries make is not Bad", a,
			told(changed("d", 1, 2, "x"), modified("f", keep(1)), renamed("g", "h"), changed("l", 3, 3, "to")),
			of(text("d", "x"), file("f", "x"), file("h", ""), link("l", "to"))},
	})
}

func TestItemsOfNoKindStayK1(t *testing.T) {
	a := of(api.Item{Path: "b", Kind: 7, Data: "x", Bad: true}, api.Item{Path: "a"}, api.Item{Path: "c", Kind: -1}, api.Item{Path: "d", Kind: 1, Data: "x"})
	want := of(a[1], a[0], a[2], a[3])
	run(t, []example{
		{"no entries", a, nil, want},
		{"one beside them", a, told(added("e", 1, "")), append(slices.Clone(want), dir("e"))},
	})
}

func TestWhatComesOutIsSortedK1(t *testing.T) {
	var all []api.Item
	for _, name := range names {
		all = append(all, file(name, "x"))
	}
	chance := rand.New(rand.NewSource(1))
	for range 300 {
		var was []api.Item
		var l []api.Entry
		var want []api.Item
		for _, item := range all {
			switch chance.Intn(3) {
			case 0:
				was, want = append(was, item), append(want, item)
			case 1:
				l, want = append(l, added(item.Path, item.Kind, item.Data)), append(want, item)
			case 2:
				was, l = append(was, item), append(l, deleted(item.Path, item.Kind))
			}
		}
		run(t, []example{{"in whatever order items stand", shuffled(chance, was), l, want}})
	}
	run(t, []example{
		{"by parts, not by bytes", of(dir("a!"), dir("a")), told(added("a/b", 1, "")), of(dir("a"), dir("a/b"), dir("a!"))},
		{"renamed to the front", of(dir("b"), file("c", "x")), told(renamed("c", "a", keep(1))), of(file("a", "x"), dir("b"))},
		{"renamed to the end", of(file("a", "x"), dir("b")), told(renamed("a", "c", keep(1))), of(dir("b"), file("c", "x"))},
	})
}

func shuffled(chance *rand.Rand, list []api.Item) []api.Item {
	list = slices.Clone(list)
	chance.Shuffle(len(list), func(i, j int) { list[i], list[j] = list[j], list[i] })
	return list
}

// oddEntries is entries of few paths, of which some fit, some do not, and some are not right.
func oddEntries() []api.Entry {
	return told(
		added("a", 1, ""), added("b", 2, "x\n"), added("c", 3, "a"), added("", 2, ""), added("b", 0, ""),
		deleted("a", 1), deleted("b", 2), deleted("c", 3), deleted("", 2),
		changed("a", 1, 2, "x"), changed("b", 2, 2, "y"), changed("c", 3, 1, ""), changed("c", 2, 4, ""),
		modified("a", keep(1)), modified("b", cut(1), add("z")), modified("c"), modified("b", keep(0)),
		renamed("a", "b", keep(1)), renamed("b", "c", cut(1)), renamed("c", "a"), renamed("b", "d", keep(1), add("k")), renamed("", "d"), renamed("a", "c", keep(1)), renamed("b", "b"),
	)
}

func TestAllShortListsOfOddEntriesK1(t *testing.T) {
	odd := oddEntries()
	lists := [][]api.Entry{nil}
	for _, x := range odd {
		lists = append(lists, told(x))
		for _, y := range odd {
			lists = append(lists, told(x, y))
			for _, z := range odd {
				lists = append(lists, told(x, y, z))
			}
		}
	}
	for _, a := range small(
		of(dir("a"), file("a", "x")),
		of(file("b", "x"), bad(file("b", "")), link("b", "x")),
		of(link("c", "a"), text("c", "x")),
		of(file("", ""), dir("a")),
	) {
		for _, l := range lists {
			check(t, a, l)
		}
	}
}

// small is all lists that have one of some items, or none, of each of several choices.
func small(choices ...[]api.Item) [][]api.Item {
	list := [][]api.Item{nil}
	for _, items := range choices {
		for _, tree := range slices.Clone(list) {
			for _, item := range items {
				list = append(list, append(slices.Clone(tree), item))
			}
		}
	}
	return list
}

// someEntries is entries in order, of which most are right and fit a tree.
func someEntries(chance *rand.Rand, a []api.Item) []api.Entry {
	var l []api.Entry
	for _, name := range names {
		here := at(a, name)
		from := names[chance.Intn(len(names))]
		kind := 1 + chance.Intn(3)
		if len(here) > 0 && chance.Intn(20) > 0 {
			kind = here[0].Kind
		}
		switch odds := chance.Intn(60); {
		case odds < 10 && len(here) == 0 || odds == 30:
			l = append(l, added(name, kind, lines("ab")))
		case odds < 20 && len(here) == 0 || odds == 31:
			l = append(l, renamed(from, name, someEdits(chance, at(a, from))...))
		case odds < 10 || odds == 32:
			l = append(l, deleted(name, kind))
		case odds < 20 && kind == 2 || odds == 33:
			l = append(l, modified(name, someEdits(chance, here)...))
		case odds < 25 && len(here) > 0 || odds == 34:
			l = append(l, changed(name, kind, 1+chance.Intn(3), "x"))
		}
	}
	return l
}

// someEdits is a script that mostly takes as many lines as the first item has.
func someEdits(chance *rand.Rand, items []api.Item) []api.Edit {
	count := chance.Intn(2)
	if len(items) > 0 && chance.Intn(20) > 0 {
		count = strings.Count(items[0].Data, "\n")
	}
	var edits []api.Edit
	if count > 1 {
		edits = append(edits, keep(count-1))
	}
	if count > 0 {
		edits = append(edits, cut(1))
	}
	return append(edits, add("new\n"))
}

func TestSomeEntriesK1(t *testing.T) {
	chance := rand.New(rand.NewSource(2))
	codes := map[api.Errno]int{}
	for range 20000 {
		var a []api.Item
		for _, name := range names {
			switch chance.Intn(6) {
			case 0:
				a = append(a, dir(name))
			case 1, 2:
				a = append(a, file(name, "abcde"[:chance.Intn(6)]))
			case 3:
				a = append(a, link(name, "to"))
			}
		}
		a = shuffled(chance, a)
		l := someEntries(chance, a)
		check(t, a, l)
		_, code := patch.Apply(a, l)
		codes[code]++
	}
	if codes[api.OK] < 1000 || codes[api.ErrArg] < 1000 || codes[api.ErrForm] < 1000 {
		t.Errorf("too few of a kind: %v", codes)
	}
}

// mixed is a tree, and right entries of all Ops that fit it.
func mixed() ([]api.Item, []api.Entry) {
	a := of(file("gone", "wxyz"), file("deleted", "p"), file("modified", "abc"), link("changed", "old link"), dir("dir"), file("dir/same", "s"), dir("kind"))
	l := told(
		added("added", 2, "some data"),
		changed("changed", 3, 3, "new link"),
		renamed("gone", "come", keep(3), cut(1), add("other line\n")),
		deleted("deleted", 2),
		changed("kind", 1, 2, "was a dir"),
		modified("modified", cut(1), keep(2), add("another line\n", "the last")),
	)
	return a, l
}

// whole is entries with all that stands behind the lengths of their lists, in memory of its own.
func whole(l []api.Entry) []api.Entry {
	l = slices.Clone(l[:cap(l)])
	for i := range l {
		l[i].Script = slices.Clone(l[i].Script[:cap(l[i].Script)])
		for j, edit := range l[i].Script {
			l[i].Script[j].Lines = slices.Clone(edit.Lines[:cap(edit.Lines)])
		}
	}
	return l
}

// withRoom is a list with something behind its length.
func withRoom[T any](list []T, behind ...T) []T {
	return slices.Concat(list, behind)[:len(list)]
}

// TestNothingIsWrittenIntoK1 also looks at what stands behind the lists' lengths.
func TestNothingIsWrittenIntoK1(t *testing.T) {
	a, l := mixed()
	for i := range l {
		for j := range l[i].Script {
			l[i].Script[j].Lines = withRoom(l[i].Script[j].Lines, "behind", "more")
		}
		l[i].Script = withRoom(l[i].Script, keep(8), cut(9))
	}
	a, l = withRoom(a, file("behind", "x"), dir("more")), withRoom(l, deleted("n", 2), api.Entry{Op: 8})
	wasA, wasL := slices.Clone(a[:cap(a)]), fmt.Sprint(whole(l))
	if got, code := patch.Apply(a, l); code != api.OK || len(got) != 7 {
		t.Errorf("%+v %v", got, code)
	}
	patch.Right(l)
	patch.Right(l[:cap(l)])
	patch.Apply(a, l[:cap(l)])
	patch.Apply(a, l[:1])
	patch.Apply(a, nil)
	patch.Apply(a[1:], l)
	patch.Apply(slices.Concat(a, a), l)
	if !slices.Equal(a[:cap(a)], wasA) || fmt.Sprint(whole(l)) != wasL {
		t.Errorf("what was handed in has become %+v and %+v", a, l)
	}
}

func textsIn(items []api.Item) []string {
	var texts []string
	for _, item := range items {
		texts = append(texts, item.Path, item.Data)
	}
	return texts
}

// textsOf is all texts of entries.
func textsOf(l []api.Entry) []string {
	var texts []string
	for _, e := range l {
		texts = append(texts, e.Path, e.From, e.Data)
		for _, edit := range e.Script {
			texts = append(texts, edit.Lines...)
		}
	}
	return texts
}

// within tells whether a text's first byte lies within another text's memory.
func within(a, b string) bool {
	if a == "" || b == "" {
		return false
	}
	first, begin := uintptr(unsafe.Pointer(unsafe.StringData(a))), uintptr(unsafe.Pointer(unsafe.StringData(b)))
	return first >= begin && first < begin+uintptr(len(b))
}

func TestTextsThatComeOutAreNewK1(t *testing.T) {
	a, l := mixed()
	sorted := inOrder(a)
	var out []string
	others := slices.Concat(textsIn(a), textsOf(l))
	for _, x := range []struct {
		a []api.Item
		l []api.Entry
	}{{a, l}, {a, l}, {a, nil}, {sorted, l}, {sorted, nil}, {sorted[:1], nil}} {
		made, code := patch.Apply(x.a, x.l)
		if code != api.OK || len(made) != len(x.a) {
			t.Errorf("%+v %v", made, code)
		}
		out = append(out, textsIn(made)...)
	}
	for i, text := range out {
		for _, other := range slices.Concat(others, out[:i]) {
			if within(text, other) || within(other, text) {
				t.Errorf("%q and %q share memory", text, other)
			}
		}
	}
}

func TestListsThatComeOutAreNewK1(t *testing.T) {
	a, l := mixed()
	for _, a := range [][]api.Item{a, inOrder(a)} {
		was := slices.Clone(a)
		for _, l := range [][]api.Entry{nil, l, l[:2]} {
			want, _ := wantApply(a, l)
			first, _ := patch.Apply(a, l)
			second, _ := patch.Apply(a, l)
			for i := range first[:cap(first)] {
				first[:cap(first)][i] = api.Item{Path: "spoilt", Kind: 9, Bad: true}
			}
			if !slices.Equal(second, want) || !slices.Equal(a, was) {
				t.Errorf("another answer has become %+v, what was handed in %+v", second, a)
			}
			check(t, a, l)
		}
	}
}

// TestTheSameTwiceK1 would find something that is kept from call to call, or the order in which a map is gone through.
func TestTheSameTwiceK1(t *testing.T) {
	a, l := mixed()
	want, _ := wantApply(a, l)
	for range 50 {
		patch.Apply(a[1:], l)
		patch.Apply(append(slices.Clone(a), a[0]), l)
		patch.Right(told(l[1], l[0]))
		if got, code := patch.Apply(a, l); code != api.OK || !slices.Equal(got, want) || !patch.Right(l) {
			t.Errorf("%+v %v, not %+v", got, code, want)
		}
	}
}

func TestManyItemsComeToAnEndK1(t *testing.T) {
	const most = 60000
	var a, want []api.Item
	var l []api.Entry
	for i := range most {
		name := "n" + strconv.Itoa(1000000+i)
		switch i % 4 {
		case 0:
			a, want = append(a, dir(name)), append(want, dir(name))
		case 1:
			a, l = append(a, link(name, "to")), append(l, deleted(name, 3))
		case 2:
			a, l, want = append(a, file(name, "xy")), append(l, modified(name, cut(1), keep(1))), append(want, file(name, "y"))
		case 3:
			a, l = append(a, file("m"+name, "z")), append(l, renamed("m"+name, name, keep(1)))
			want = append(want, file(name, "z"))
		}
	}
	slices.Reverse(a)
	got, code := patch.Apply(a, l)
	if code != api.OK || !slices.Equal(got, want) {
		t.Errorf("%d items, %v", len(got), code)
	}
	l[len(l)-1].From = "nothing"
	if got, code := patch.Apply(a, l); code != api.ErrForm || len(got) > 0 {
		t.Errorf("%d items, %v", len(got), code)
	}
	l[len(l)-1].From = l[0].Path
	if got, code := patch.Apply(a, l); code != api.ErrArg || len(got) > 0 {
		t.Errorf("%d items, %v", len(got), code)
	}
	long := modified("f", keep(most), add(strings.Split(strings.Repeat("x ", most), " ")...))
	made, code := patch.Apply(of(text("f", strings.Repeat("\n", most))), told(long))
	if code != api.OK || len(made) != 1 || made[0].Data != strings.Repeat("\n", most)+strings.Repeat("x", most) {
		t.Errorf("%d items, %v", len(made), code)
	}
	if from, to := script.Spans(long.Script); from != most || to != 2*most+1 {
		t.Errorf("%d and %d lines", from, to)
	}
}
