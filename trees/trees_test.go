package trees_test

import (
	"slices"
	"strconv"
	"strings"
	"testing"
	"unsafe"

	"collator/api"
	"collator/paths"
	"collator/trees"
)

const (
	dir  = api.KindDir
	file = api.KindFile
	link = api.KindLink
)

var (
	roomy  = api.Limits{Depth: 16, Size: 100, Count: 100}
	deep16 = strings.Repeat("a/", 15) + "b"
	deep17 = strings.Repeat("a/", 16) + "b"
	part64 = strings.Repeat("x", 64)
)

// faultsOf is the chapter's words 'of a text there are faults', one by one, in their order.
func faultsOf(t []api.Item, p string, l api.Limits) []api.Errno {
	var mine []api.Item
	for _, i := range t {
		if i.Path == p {
			mine = append(mine, i)
		}
	}
	parent := slices.ContainsFunc(t, func(i api.Item) bool { return i.Kind == 1 && i.Path == paths.Dir(p) })
	var faults []api.Errno
	note := func(holds bool, e api.Errno) {
		if holds {
			faults = append(faults, e)
		}
	}
	any := func(is func(api.Item) bool) bool { return slices.ContainsFunc(mine, is) }
	note(paths.Check(p) == api.ErrPath, api.ErrPath)
	note(paths.Check(p) == api.ErrDepth || strings.Count(p, "/")+1 > l.Depth, api.ErrDepth)
	note(len(mine) > 1, api.ErrTwice)
	note(any(func(i api.Item) bool { return i.Kind < 1 || i.Kind > 3 || i.Kind == 1 && i.Data != "" }), api.ErrKind)
	note(paths.Dir(p) != "" && !parent, api.ErrParent)
	note(any(func(i api.Item) bool { return len(i.Data) > l.Size }), api.ErrLong)
	note(any(func(i api.Item) bool { return i.Bad }), api.ErrRead)
	return faults
}

// wantCheck is promise B1's words.
func wantCheck(t []api.Item, l api.Limits) api.Fault {
	if len(t) > l.Count {
		return api.Fault{Code: api.ErrMany}
	}
	var want api.Fault
	for _, i := range t {
		faults := faultsOf(t, i.Path, l)
		if len(faults) > 0 && (want.Code == api.OK || paths.Compare(i.Path, want.Path) < 0) {
			want = api.Fault{Path: i.Path, Code: faults[0]}
		}
	}
	return want
}

// orders is all orders of a list.
func orders(t []api.Item) [][]api.Item {
	if len(t) == 0 {
		return [][]api.Item{nil}
	}
	var all [][]api.Item
	for i, first := range t {
		for _, rest := range orders(slices.Delete(slices.Clone(t), i, i+1)) {
			all = append(all, append([]api.Item{first}, rest...))
		}
	}
	return all
}

// lists is all lists of at most so many of these items.
func lists(of []api.Item, most int) [][]api.Item {
	all, last := [][]api.Item{nil}, [][]api.Item{nil}
	for range most {
		var next [][]api.Item
		for _, l := range last {
			for _, i := range of {
				next = append(next, append(slices.Clone(l), i))
			}
		}
		all, last = append(all, next...), next
	}
	return all
}

// some is items of which each has something about it: lists of them have every fault.
func some() []api.Item {
	return []api.Item{
		{Path: "a", Kind: dir}, {Path: "a", Kind: file, Data: "123"}, {Path: "a", Kind: dir, Data: "1", Bad: true},
		{Path: "a/b", Kind: dir}, {Path: "a/b", Kind: link, Data: "12"}, {Path: "a/b", Kind: 4, Data: "123"},
		{Path: "a/b/c", Kind: file, Data: "12", Bad: true}, {Path: "a/b/c", Kind: dir, Bad: true},
		{Path: "a!", Kind: file}, {Path: "a!", Kind: 0, Bad: true}, {Path: "a!", Kind: -1},
		{Path: "b", Kind: link, Data: "123", Bad: true}, {Path: "b", Kind: file, Bad: true},
		{Path: "", Kind: dir}, {Path: "a/", Kind: file}, {Path: "a/..", Kind: dir}, {Path: deep17, Kind: file},
	}
}

func TestCheckFindsNothingB1(t *testing.T) {
	for _, x := range []struct {
		name string
		tree []api.Item
		l    api.Limits
	}{
		{"no items at all", nil, roomy},
		{"no items, with limits of 0", []api.Item{}, api.Limits{}},
		{"a dir, a file and a link", []api.Item{{Path: "a", Kind: dir}, {Path: "a/b", Kind: file, Data: "x"}, {Path: "c", Kind: link, Data: "a"}}, roomy},
		{"what is within stands ahead of its dir", []api.Item{{Path: "a/b/c", Kind: file}, {Path: "a/b", Kind: dir}, {Path: "a", Kind: dir}}, roomy},
		{"just as many items as Count", []api.Item{{Path: "a", Kind: dir}, {Path: "b", Kind: dir}}, api.Limits{Depth: 1, Size: 0, Count: 2}},
		{"Data of just Size bytes", []api.Item{{Path: "a", Kind: file, Data: "123"}, {Path: "b", Kind: link, Data: "\n\x00\xff"}}, api.Limits{Depth: 1, Size: 3, Count: 2}},
		{"just as many parts as Depth", []api.Item{{Path: "a", Kind: dir}, {Path: "a/b", Kind: dir}, {Path: "a/b/c", Kind: file}}, api.Limits{Depth: 3, Size: 0, Count: 3}},
		{"a link to nothing, and an empty one", []api.Item{{Path: "a", Kind: link, Data: "../.."}, {Path: "b", Kind: link}}, roomy},
		{"names of signs and of 64 bytes", []api.Item{{Path: "\xff \n", Kind: dir}, {Path: "\xff \n/" + part64, Kind: file}}, roomy},
		{"the greatest limits", []api.Item{{Path: "a", Kind: file, Data: "x"}}, api.Limits{Depth: 1<<63 - 1, Size: 1<<63 - 1, Count: 1<<63 - 1}},
	} {
		if got := trees.Check(x.tree, x.l); got != (api.Fault{}) {
			t.Errorf("%s: %v", x.name, got)
		}
	}
}

func TestCheckB1(t *testing.T) {
	tight := api.Limits{Depth: 2, Size: 3, Count: 4}
	for _, x := range []struct {
		name string
		tree []api.Item
		l    api.Limits
		want api.Fault
	}{
		{"one item more than Count", []api.Item{{Path: "a", Kind: dir}, {Path: "b", Kind: dir}, {Path: "c", Kind: dir}}, api.Limits{Depth: 1, Size: 1, Count: 2}, api.Fault{Code: api.ErrMany}},
		{"too many, and all is wrong", []api.Item{{Path: "//", Kind: 9, Data: "1234", Bad: true}, {Path: "//"}}, api.Limits{Count: 1}, api.Fault{Code: api.ErrMany}},
		{"a Count of 0", []api.Item{{Path: "a", Kind: dir}}, api.Limits{Depth: 1}, api.Fault{Code: api.ErrMany}},
		{"a Count below 0, and no items", nil, api.Limits{Depth: 1, Size: 1, Count: -1}, api.Fault{Code: api.ErrMany}},
		{"the empty Path", []api.Item{{Path: "", Kind: dir}}, tight, api.Fault{Code: api.ErrPath}},
		{"a Path that is no path", []api.Item{{Path: "a/../b", Kind: file}}, tight, api.Fault{Path: "a/../b", Code: api.ErrPath}},
		{"a Path of 65 bytes in a part", []api.Item{{Path: part64 + "x", Kind: file}}, tight, api.Fault{Path: part64 + "x", Code: api.ErrPath}},
		{"a Path of 17 parts", []api.Item{{Path: deep17, Kind: file}}, roomy, api.Fault{Path: deep17, Code: api.ErrDepth}},
		{"a Path of 17 parts, and a Depth of more", []api.Item{{Path: deep17, Kind: file}}, api.Limits{Depth: 99, Count: 9}, api.Fault{Path: deep17, Code: api.ErrDepth}},
		{"a Path of 16 parts, and a Depth of 15", []api.Item{{Path: deep16, Kind: file}}, api.Limits{Depth: 15, Count: 9}, api.Fault{Path: deep16, Code: api.ErrDepth}},
		{"a Path of 16 parts, alone", []api.Item{{Path: deep16, Kind: file}}, roomy, api.Fault{Path: deep16, Code: api.ErrParent}},
		{"a Depth of one part too few", []api.Item{{Path: "a", Kind: dir}, {Path: "a/b", Kind: dir}, {Path: "a/b/c", Kind: file}}, tight, api.Fault{Path: "a/b/c", Code: api.ErrDepth}},
		{"a Depth of 0", []api.Item{{Path: "a", Kind: file}}, api.Limits{Size: 1, Count: 1}, api.Fault{Path: "a", Code: api.ErrDepth}},
		{"a Depth below 0", []api.Item{{Path: "a", Kind: file}}, api.Limits{Depth: -1 << 63, Size: 1, Count: 1}, api.Fault{Path: "a", Code: api.ErrDepth}},
		{"two items of one Path", []api.Item{{Path: "a", Kind: file}, {Path: "b", Kind: dir}, {Path: "a", Kind: file}}, tight, api.Fault{Path: "a", Code: api.ErrTwice}},
		{"two items of one Path, of two kinds", []api.Item{{Path: "a", Kind: dir}, {Path: "a", Kind: file}}, tight, api.Fault{Path: "a", Code: api.ErrTwice}},
		{"a kind of 0", []api.Item{{Path: "a"}}, tight, api.Fault{Path: "a", Code: api.ErrKind}},
		{"a kind of 4", []api.Item{{Path: "a", Kind: 4}}, tight, api.Fault{Path: "a", Code: api.ErrKind}},
		{"a kind below 0", []api.Item{{Path: "a", Kind: -1}}, tight, api.Fault{Path: "a", Code: api.ErrKind}},
		{"a dir with Data", []api.Item{{Path: "a", Kind: dir, Data: "x"}}, tight, api.Fault{Path: "a", Code: api.ErrKind}},
		{"a dir that is missing", []api.Item{{Path: "b/c", Kind: file}}, tight, api.Fault{Path: "b/c", Code: api.ErrParent}},
		{"a dir that is missing, though its dir is there", []api.Item{{Path: "a", Kind: dir}, {Path: "a/b/c", Kind: file}}, roomy, api.Fault{Path: "a/b/c", Code: api.ErrParent}},
		{"a dir that is a file", []api.Item{{Path: "b", Kind: file}, {Path: "b/c", Kind: file}}, tight, api.Fault{Path: "b/c", Code: api.ErrParent}},
		{"a dir that is a link", []api.Item{{Path: "b", Kind: link}, {Path: "b/c", Kind: file}}, tight, api.Fault{Path: "b/c", Code: api.ErrParent}},
		{"Data of one byte more than Size", []api.Item{{Path: "a", Kind: file, Data: "1234"}}, tight, api.Fault{Path: "a", Code: api.ErrLong}},
		{"a link of one byte more than Size", []api.Item{{Path: "a", Kind: link, Data: "é23"}}, tight, api.Fault{Path: "a", Code: api.ErrLong}},
		{"a Size of 0", []api.Item{{Path: "a", Kind: file, Data: "1"}}, api.Limits{Depth: 1, Count: 1}, api.Fault{Path: "a", Code: api.ErrLong}},
		{"a Size below 0: no Data is too much, of a file", []api.Item{{Path: "a", Kind: file}}, api.Limits{Depth: 1, Size: -1, Count: 1}, api.Fault{Path: "a", Code: api.ErrLong}},
		{"a Size below 0: no Data is too much, of a dir", []api.Item{{Path: "a", Kind: dir}}, api.Limits{Depth: 1, Size: -1, Count: 1}, api.Fault{Path: "a", Code: api.ErrLong}},
		{"a file that is Bad", []api.Item{{Path: "a", Kind: file, Bad: true}}, tight, api.Fault{Path: "a", Code: api.ErrRead}},
		{"a dir that is Bad", []api.Item{{Path: "a", Kind: dir, Bad: true}}, tight, api.Fault{Path: "a", Code: api.ErrRead}},
		{"a link that is Bad", []api.Item{{Path: "a", Kind: link, Bad: true}}, tight, api.Fault{Path: "a", Code: api.ErrRead}},
		{"the chapter's example", []api.Item{{Path: "a", Kind: file, Bad: true}, {Path: "//", Kind: file}}, tight, api.Fault{Path: "//", Code: api.ErrPath}},
	} {
		if got := trees.Check(x.tree, x.l); got != x.want {
			t.Errorf("%s: %v, want %v", x.name, got, x.want)
		}
	}
}

func TestCheckTellsTheFirstFaultOfAPathB1(t *testing.T) {
	l := api.Limits{Depth: 2, Size: 3, Count: 9}
	for _, x := range []struct {
		name string
		tree []api.Item
		want api.Fault
	}{
		{"all but ErrPath come behind it", []api.Item{{Path: deep17 + "/", Data: "1234", Bad: true}, {Path: deep17 + "/"}}, api.Fault{Path: deep17 + "/", Code: api.ErrPath}},
		{"ErrDepth is ahead of ErrTwice", []api.Item{{Path: "a/b/c", Data: "1234", Bad: true}, {Path: "a/b/c"}}, api.Fault{Path: "a/b/c", Code: api.ErrDepth}},
		{"ErrTwice is ahead of ErrKind", []api.Item{{Path: "a/b", Data: "1234", Bad: true}, {Path: "a/b"}}, api.Fault{Path: "a/b", Code: api.ErrTwice}},
		{"ErrKind is ahead of ErrParent", []api.Item{{Path: "a/b", Data: "1234", Bad: true}}, api.Fault{Path: "a/b", Code: api.ErrKind}},
		{"ErrKind of a dir is ahead of ErrParent", []api.Item{{Path: "a/b", Kind: dir, Data: "1234", Bad: true}}, api.Fault{Path: "a/b", Code: api.ErrKind}},
		{"ErrParent is ahead of ErrLong", []api.Item{{Path: "a/b", Kind: file, Data: "1234", Bad: true}}, api.Fault{Path: "a/b", Code: api.ErrParent}},
		{"ErrLong is ahead of ErrRead", []api.Item{{Path: "a", Kind: file, Data: "1234", Bad: true}}, api.Fault{Path: "a", Code: api.ErrLong}},
	} {
		for _, tree := range orders(x.tree) {
			if got := trees.Check(tree, l); got != x.want {
				t.Errorf("%s: %v, want %v", x.name, got, x.want)
			}
		}
	}
}

func TestCheckTellsTheLeastPathB1(t *testing.T) {
	for _, x := range []struct {
		name string
		tree []api.Item
		want api.Fault
	}{
		{"a part that ends is less than one that goes on", []api.Item{{Path: "b!", Kind: 9}, {Path: "b/z", Kind: file}, {Path: "c", Bad: true}}, api.Fault{Path: "b/z", Code: api.ErrParent}},
		{"a later fault of a lesser path", []api.Item{{Path: "a", Kind: file, Bad: true}, {Path: "b", Kind: 9}, {Path: "c/", Kind: file}, {Path: "c/d", Kind: file}}, api.Fault{Path: "a", Code: api.ErrRead}},
		{"the empty path is the least", []api.Item{{Path: "a", Kind: 9}, {Path: "", Kind: dir}, {Path: "/", Kind: dir}}, api.Fault{Code: api.ErrPath}},
		{"what is all right is passed over", []api.Item{{Path: "a", Kind: dir}, {Path: "a/b", Kind: file}, {Path: "b", Kind: file, Bad: true}, {Path: "c", Kind: 9}}, api.Fault{Path: "b", Code: api.ErrRead}},
		{"two of the greater path", []api.Item{{Path: "b", Kind: file}, {Path: "b", Kind: file}, {Path: "a", Kind: file, Bad: true}, {Path: "c", Kind: dir}}, api.Fault{Path: "a", Code: api.ErrRead}},
		{"one of two is a dir, and so a parent", []api.Item{{Path: "b", Kind: file}, {Path: "b", Kind: dir}, {Path: "b/c", Kind: file}, {Path: "a", Kind: dir}}, api.Fault{Path: "b", Code: api.ErrTwice}},
		{"a dir of which there is a fault is a parent", []api.Item{{Path: "b", Kind: dir, Bad: true}, {Path: "b/c", Kind: file}, {Path: "b/d", Kind: 0}}, api.Fault{Path: "b", Code: api.ErrRead}},
	} {
		for _, tree := range orders(x.tree) {
			if got := trees.Check(tree, roomy); got != x.want {
				t.Errorf("%s: Check(%v) = %v, want %v", x.name, tree, got, x.want)
			}
		}
	}
}

func TestCheckOfAllSmallListsB1(t *testing.T) {
	for _, l := range []api.Limits{{}, {Depth: 1, Size: 2, Count: 3}, {Depth: 2, Size: 0, Count: 3}, {Depth: 3, Size: 3, Count: 2}, {Depth: 20, Size: 2, Count: 3}, {Depth: 3, Size: -1, Count: 9}, {Depth: -5, Size: 9, Count: 9}} {
		for _, tree := range lists(some(), 3) {
			if got, want := trees.Check(tree, l), wantCheck(tree, l); got != want {
				t.Fatalf("Check(%v, %v) = %v, want %v", tree, l, got, want)
			}
		}
	}
}

func TestSortB2(t *testing.T) {
	one, two, three := api.Item{Path: "b", Kind: file, Data: "z"}, api.Item{Path: "b", Kind: dir, Bad: true}, api.Item{Path: "b", Kind: file, Data: "a"}
	slash, deep, sign, none := api.Item{Path: "a/b"}, api.Item{Path: "a/b/c"}, api.Item{Path: "a!"}, api.Item{}
	got := trees.Sort([]api.Item{sign, one, deep, two, slash, none, three})
	if want := []api.Item{none, slash, deep, sign, one, two, three}; !slices.Equal(got, want) {
		t.Errorf("%v, want %v", got, want)
	}
	for _, none := range [][]api.Item{nil, {}} {
		if got := trees.Sort(none); len(got) != 0 {
			t.Error(got)
		}
	}
}

// wantSort puts each item behind all that are not greater, one by one.
func wantSort(t []api.Item) []api.Item {
	var sorted []api.Item
	for _, item := range t {
		at := len(sorted)
		for at > 0 && paths.Compare(sorted[at-1].Path, item.Path) > 0 {
			at--
		}
		sorted = slices.Insert(sorted, at, item)
	}
	return sorted
}

func TestSortAndListOfAllSmallListsB2(t *testing.T) {
	for _, tree := range lists(some(), 3) {
		if got, want := trees.Sort(tree), wantSort(tree); !slices.Equal(got, want) {
			t.Fatalf("Sort(%v) = %v, want %v", tree, got, want)
		}
		for _, in := range []string{"", "a", "a/b", "a/", "b"} {
			var want []api.Item
			for _, item := range wantSort(tree) {
				if paths.Check(item.Path) == api.OK && paths.Dir(item.Path) == in {
					want = append(want, item)
				}
			}
			if got := trees.List(tree, in); !slices.Equal(got, want) {
				t.Fatalf("List(%v, %q) = %v, want %v", tree, in, got, want)
			}
		}
	}
}

// many is items of which some share a path, far from sorted.
func many(n int) []api.Item {
	var all []api.Item
	for i := range n {
		name := strconv.Itoa(i * 7919 % n / 3)
		all = append(all, api.Item{Path: name, Kind: file, Data: strconv.Itoa(i)})
	}
	return all
}

func TestSortOfManyKeepsThoseOfOnePathB2(t *testing.T) {
	got := trees.Sort(many(50000))
	for i := 1; i < len(got); i++ {
		c := paths.Compare(got[i-1].Path, got[i].Path)
		before, _ := strconv.Atoi(got[i-1].Data)
		after, _ := strconv.Atoi(got[i].Data)
		if c > 0 || c == 0 && before >= after {
			t.Fatal(got[i-1], got[i])
		}
	}
	if f := trees.Check(many(50000), api.Limits{Depth: 1, Size: 9, Count: 50000}); f != (api.Fault{Path: "0", Code: api.ErrTwice}) {
		t.Error(f)
	}
}

func TestFindB2(t *testing.T) {
	tree := []api.Item{{Path: "b", Kind: file, Data: "x"}, {Path: "a/b", Kind: dir, Bad: true}, {Path: "b", Kind: dir}, {Path: "", Kind: 7}, {Path: "//", Kind: link, Data: "y"}}
	for p, want := range map[string]api.Item{"b": tree[0], "a/b": tree[1], "": tree[3], "//": tree[4]} {
		if got, is := trees.Find(tree, p); !is || got != want {
			t.Errorf("Find(%q) = %v, %v", p, got, is)
		}
	}
	for _, p := range []string{"a", "b/", "B", "a/b/c", "/", "."} {
		if got, is := trees.Find(tree, p); is || got != (api.Item{}) {
			t.Errorf("Find(%q) = %v, %v", p, got, is)
		}
	}
	for _, p := range []string{"", "a"} {
		if got, is := trees.Find(nil, p); is || got != (api.Item{}) {
			t.Errorf("Find in nothing: %v, %v", got, is)
		}
	}
}

func TestListB2(t *testing.T) {
	tree := []api.Item{
		{Path: "b/y/z", Kind: file}, {Path: "b/y", Kind: dir}, {Path: "b/x", Kind: file, Data: "1"}, {Path: "b/x", Kind: link, Data: "0"}, {Path: "b", Kind: dir},
		{Path: "a", Kind: 9, Bad: true}, {Path: "", Kind: dir}, {Path: "/", Kind: dir}, {Path: "b/", Kind: file}, {Path: "b//q", Kind: file}, {Path: "..", Kind: dir}, {Path: deep17, Kind: file}, {Path: "c/d", Kind: file},
	}
	for in, want := range map[string][]api.Item{
		"": {tree[5], tree[4]}, "b": {tree[2], tree[3], tree[1]}, "b/y": {tree[0]}, "c": {tree[12]}, "b/x": nil, "b/": nil, "/": nil, "..": nil, "q": nil, "a/b": nil, strings.Repeat("a/", 15) + "a": nil,
	} {
		if got := trees.List(tree, in); !slices.Equal(got, want) {
			t.Errorf("List(%q) = %v, want %v", in, got, want)
		}
	}
	if got := trees.List(nil, ""); len(got) != 0 {
		t.Error(got)
	}
}

func TestReadB3(t *testing.T) {
	tree := []api.Item{
		{Path: "a", Kind: file, Data: "x\n\x00"}, {Path: "a", Kind: dir}, {Path: "b", Kind: dir}, {Path: "b", Kind: file, Data: "y"}, {Path: "c", Kind: link, Data: "a"}, {Path: "d", Kind: file, Data: "z", Bad: true},
		{Path: "d", Kind: file, Data: "z"}, {Path: "e", Kind: 0, Data: "z", Bad: true}, {Path: "f", Kind: link, Data: "z", Bad: true}, {Path: "g", Kind: file}, {Path: "", Kind: file, Data: "none"}, {Path: "x/y", Kind: file, Data: "alone"},
	}
	for _, x := range []struct {
		p, data string
		code    api.Errno
	}{
		{"a", "x\n\x00", api.OK}, {"g", "", api.OK}, {"x/y", "alone", api.OK}, {"", "none", api.OK},
		{"q", "", api.ErrNone}, {"a/", "", api.ErrNone}, {"x", "", api.ErrNone},
		{"b", "", api.ErrKind}, {"c", "", api.ErrKind}, {"e", "", api.ErrKind}, {"f", "", api.ErrKind},
		{"d", "", api.ErrRead},
	} {
		if data, code := trees.Read(tree, x.p); data != x.data || code != x.code {
			t.Errorf("Read(%q) = %q, %d, want %q, %d", x.p, data, code, x.data, x.code)
		}
	}
	if data, code := trees.Read(nil, ""); data != "" || code != api.ErrNone {
		t.Error(data, code)
	}
}

func TestCheckDoesNotHangOnTheOrderB4(t *testing.T) {
	all := some()
	for n := range all {
		five := []api.Item{all[n], all[(n+2)%len(all)], all[(n+5)%len(all)], all[(n+6)%len(all)], all[(n+11)%len(all)]}
		want := wantCheck(five, roomy)
		for _, tree := range orders(five) {
			if got := trees.Check(tree, roomy); got != want {
				t.Fatalf("Check(%v) = %v, want %v", tree, got, want)
			}
		}
	}
}

// less tells whether a fault is lesser: too many items first, then by path, then as a path's faults are named; none is the greatest.
func less(f, g api.Fault) bool {
	rank := func(f api.Fault) int {
		return slices.Index([]api.Errno{api.ErrMany, api.ErrPath, api.ErrDepth, api.ErrTwice, api.ErrKind, api.ErrParent, api.ErrLong, api.ErrRead, api.OK}, f.Code)
	}
	if f.Code == api.ErrMany || g.Code == api.ErrMany || f.Code == api.OK || g.Code == api.OK {
		return rank(f) < rank(g) && (f.Code == api.ErrMany || g.Code == api.OK)
	}
	if c := paths.Compare(f.Path, g.Path); c != 0 {
		return c < 0
	}
	return rank(f) < rank(g)
}

func TestMoreRoomTellsNoLesserFaultB4(t *testing.T) {
	var steps []api.Limits
	for _, depth := range []int{0, 1, 2, 3, 17} {
		for _, size := range []int{-1, 0, 2, 3} {
			for _, count := range []int{1, 2} {
				steps = append(steps, api.Limits{Depth: depth, Size: size, Count: count})
			}
		}
	}
	for _, tree := range lists(some(), 2) {
		for _, l := range steps {
			f := trees.Check(tree, l)
			for _, more := range []api.Limits{{Depth: l.Depth + 1, Size: l.Size, Count: l.Count}, {Depth: l.Depth, Size: l.Size + 1, Count: l.Count}, {Depth: l.Depth, Size: l.Size, Count: l.Count + 1}} {
				if g := trees.Check(tree, more); less(g, f) {
					t.Fatalf("%v: %v within %v, but %v within %v", tree, f, l, g, more)
				}
			}
		}
	}
}

func TestEachItemIsInOneListB4(t *testing.T) {
	whole := []api.Item{{Path: "a", Kind: dir}, {Path: "a/b", Kind: dir}, {Path: "a/b/c", Kind: file}, {Path: "a!", Kind: dir}, {Path: "a/c", Kind: link}, {Path: "b", Kind: dir}, {Path: "b/a", Kind: file}}
	for chosen := range 1 << len(whole) {
		var tree []api.Item
		for i, item := range whole {
			if chosen>>i&1 == 1 {
				tree = append(tree, item)
			}
		}
		if trees.Check(tree, roomy) != (api.Fault{}) {
			continue
		}
		for _, item := range tree {
			times := 0
			for _, in := range append([]api.Item{{Kind: dir}}, tree...) {
				if slices.Contains(trees.List(tree, in.Path), item) {
					times++
					if in.Kind != dir {
						t.Errorf("%v is in %v", item, in)
					}
				}
			}
			if times != 1 {
				t.Errorf("%v is in %d dirs of %v", item, times, tree)
			}
		}
	}
}

// shared tells whether two texts have bytes in common memory.
func shared(a, b string) bool {
	if a == "" || b == "" {
		return false
	}
	p, q := uintptr(unsafe.Pointer(unsafe.StringData(a))), uintptr(unsafe.Pointer(unsafe.StringData(b)))
	return p < q+uintptr(len(b)) && q < p+uintptr(len(a))
}

func TestNothingIsWrittenIntoB1B2B3(t *testing.T) {
	back := []api.Item{{Path: "c", Kind: file, Data: "1"}, {Path: "b", Kind: dir}, {Path: "a", Kind: file, Bad: true}, {Path: "z", Kind: 9}, {Path: "behind", Kind: link}}
	kept := slices.Clone(back)
	tree := back[:3]
	trees.Check(tree, roomy)
	trees.Sort(tree)
	trees.List(tree, "")
	trees.Find(tree, "b")
	trees.Read(tree, "c")
	if !slices.Equal(back, kept) {
		t.Errorf("%v, was %v", back, kept)
	}
}

func TestWhatComesOutIsNewMemoryB1B2B3(t *testing.T) {
	tree := []api.Item{{Path: "path b", Kind: file, Data: "data b"}, {Path: "path a", Kind: file, Data: "data a"}}
	kept := slices.Clone(tree)
	sorted, again, listed := trees.Sort(tree), trees.Sort(tree), trees.List(tree, "")
	for i := range sorted {
		sorted[i] = api.Item{Path: "other"}
	}
	_ = append(sorted, api.Item{Path: "grown"})
	if !slices.Equal(tree, kept) || again[0] != kept[1] || listed[0] != kept[1] || listed[1] != kept[0] {
		t.Error(tree, again, listed)
	}
	found, _ := trees.Find(tree, "path b")
	data, _ := trees.Read(tree, "path b")
	fault := trees.Check(tree, api.Limits{Depth: 1, Size: 1, Count: 2})
	for _, item := range tree {
		for _, text := range []string{item.Path, item.Data} {
			for _, out := range []string{again[0].Path, again[0].Data, again[1].Path, again[1].Data, listed[0].Path, listed[0].Data, listed[1].Path, listed[1].Data, found.Path, found.Data, data, fault.Path} {
				if shared(text, out) {
					t.Errorf("%q shares memory with what was handed in", out)
				}
			}
		}
	}
}
