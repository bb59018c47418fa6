package report_test

import (
	"fmt"
	"math/rand"
	"slices"
	"strings"
	"testing"

	"collator/api"
	"collator/compare"
	"collator/patch"
	"collator/report"
)

// some is entries of many kinds, by their Path alone; not all may stand together.
func some(path string) []api.Entry {
	return told(
		added(path, 1, ""), added(path, 2, ""), added(path, 3, ""), added(path, 2, "x"), added(path, 2, "1:a"), added(path, 2, "\n"),
		deleted(path, 1), deleted(path, 2), deleted(path, 3),
		modified(path), modified(path, keep(1)), modified(path, cut(1)), modified(path, add("")), modified(path, add("x")), modified(path, cut(1), add("x")), modified(path, keep(1), add("x")), modified(path, keep(11)),
		changed(path, 1, 2, ""), changed(path, 2, 1, ""), changed(path, 3, 3, "x"),
		renamed("", path, 1), renamed("q", path, 1), renamed("q", path, 10), renamed("q", path, 100), renamed("r", path, 1), renamed("q", path, 1, keep(1)), renamed("p", path, 1),
		api.Entry{Path: path}, api.Entry{Op: 1, Path: path}, renamed("q", path, 0),
	)
}

// row is a row of entries as text, for which lists without elements are the same, nil or not.
func row(l []api.Entry) string {
	var t strings.Builder
	for _, e := range l {
		fmt.Fprintf(&t, "%d %q %q %d %d %q %d", e.Op, e.Path, e.From, e.Old, e.New, e.Data, e.Score)
		for _, edit := range e.Script {
			fmt.Fprintf(&t, " [%d %d %q]", edit.Op, edit.N, slices.Clone(edit.Lines))
		}
		t.WriteString("\n")
	}
	return t.String()
}

// rows is all rows of at most two of some entries.
func rows() [][]api.Entry {
	list := [][]api.Entry{nil}
	var single []api.Entry
	for _, path := range []string{"", "a", "p", "q"} {
		single = append(single, some(path)...)
	}
	for _, e := range single {
		list = append(list, told(e))
		for _, f := range single {
			list = append(list, told(e, f))
		}
	}
	return list
}

func TestDecodeUndoesEncodeL3(t *testing.T) {
	bytes, right := map[string]string{}, 0
	for _, l := range rows() {
		checkEncode(t, l)
		s, code := report.Encode(l)
		if code != api.OK {
			continue
		}
		right++
		if other, there := bytes[s]; there && other != row(l) {
			t.Fatalf("%q is told of two rows:\n%s%s", s, other, row(l))
		}
		bytes[s] = row(l)
		back, code := report.Decode(s)
		if code != api.OK || row(back) != row(l) {
			t.Fatalf("Decode(%q) = %+v, %d", s, back, code)
		}
	}
	if right < 3000 {
		t.Errorf("only %d rows are right", right)
	}
}

func TestBothsBytesL3(t *testing.T) {
	for _, l := range rows() {
		if len(l) < 2 || !patch.Right(l) {
			continue
		}
		s, _ := report.Encode(l)
		first, code := report.Encode(l[:1])
		last, code2 := report.Encode(l[1:])
		if s != first+last || code != api.OK || code2 != api.OK {
			t.Fatalf("%q is not %q and %q", s, first, last)
		}
	}
	l := ordinary()
	s, _ := report.Encode(l)
	for i := range len(l) + 1 {
		first, _ := report.Encode(l[:i])
		last, _ := report.Encode(l[i:])
		if s != first+last {
			t.Errorf("%q is not %q and %q", s, first, last)
		}
		m, _ := report.Decode(first)
		n, _ := report.Decode(last)
		if !same(append(m, n...), l) {
			t.Errorf("Decode of both is not that of each: %+v", m)
		}
	}
}

// grow is a tree of chance.
func grow(chance *rand.Rand) []api.Item {
	var tree []api.Item
	for _, path := range []string{"a", "a!", "b", "c:1;", "d=1", "é", "z:", "0"} {
		data := strings.Repeat("x\n", chance.Intn(4)) + strings.Repeat("y\n", chance.Intn(3)) + []string{"", "end"}[chance.Intn(2)]
		if kind := chance.Intn(6); kind > 0 {
			kind = min(kind, 2+kind/5)
			if kind == 1 {
				data = ""
			}
			tree = append(tree, api.Item{Path: path, Kind: kind, Data: data})
		}
	}
	return tree
}

// TestWhatCompareTellsL3 makes bytes of what has become of trees, and of these bytes what they have become.
func TestWhatCompareTellsL3(t *testing.T) {
	chance := rand.New(rand.NewSource(2))
	var ops [6]int
	for range 3000 {
		a, b := grow(chance), grow(chance)
		l, fault := compare.Compare(a, b, api.Limits{Depth: 2, Size: 100, Count: 20}, 50)
		if fault != (api.Fault{}) {
			t.Fatal(fault)
		}
		checkEncode(t, l)
		s, _ := report.Encode(l)
		back, _ := report.Decode(s)
		want, _ := patch.Apply(a, l)
		if made, code := patch.Apply(a, back); code != api.OK || !slices.Equal(made, want) {
			t.Fatalf("%q, done to %+v: %+v, %d", s, a, made, code)
		}
		for op, n := range report.Counts(back) {
			ops[op] += n
		}
	}
	if ops[0] > 0 || slices.Min(ops[1:]) < 500 {
		t.Errorf("too few entries of an Op: %v", ops)
	}
}

func TestManyEntriesL1L3(t *testing.T) {
	var l []api.Entry
	for i := range 50000 {
		path := fmt.Sprintf("%08d", i)
		l = append(l, some(path)[i%20], renamed("r"+path, path+"r", 1+i%100, keep(1), add("x", path)))
	}
	s, code := report.Encode(l)
	back, code2 := report.Decode(s)
	if code != api.OK || code2 != api.OK || !same(back, l) {
		t.Errorf("many entries: %d, %d", code, code2)
	}
	no(t, "a byte too few", s[:len(s)-1])
	no(t, "twice", s+s)
}

func TestLongTextsL1(t *testing.T) {
	long := strings.Repeat("0123456789;:\x00\xff\n", 1<<18)
	for _, l := range [][]api.Entry{told(added(long, 2, long)), told(renamed(long, "p", 60, add(long, long))), told(modified("p", add(strings.SplitAfter(long, "\n")...)))} {
		s, code := report.Encode(l)
		back, code2 := report.Decode(s)
		if code != api.OK || code2 != api.OK || !same(back, l) {
			t.Errorf("long texts: %d, %d", code, code2)
		}
	}
}
