package hunks_test

import (
	"math"
	"math/rand"
	"slices"
	"strconv"
	"strings"
	"testing"
	"unsafe"

	"collator/api"
	"collator/hunks"
	"collator/myers"
	"collator/script"
)

const most = 1 << 20

func keep(n int) api.Edit         { return api.Edit{Op: api.Keep, N: n} }
func cut(n int) api.Edit          { return api.Edit{Op: api.Cut, N: n} }
func add(l ...string) api.Edit    { return api.Edit{Op: api.Add, N: len(l), Lines: l} }
func of(s ...api.Edit) []api.Edit { return s }

func hunk(from, to int, s ...api.Edit) api.Hunk { return api.Hunk{From: from, To: to, Edits: s} }
func all(h ...api.Hunk) []api.Hunk              { return h }

func same(a, b []api.Edit) bool {
	return slices.EqualFunc(a, b, func(x, y api.Edit) bool {
		return x.Op == y.Op && x.N == y.N && slices.Equal(x.Lines, y.Lines)
	})
}

func sameHunks(a, b []api.Hunk) bool {
	return slices.EqualFunc(a, b, func(x, y api.Hunk) bool {
		return x.From == y.From && x.To == y.To && same(x.Edits, y.Edits)
	})
}

// lines is so many lines, no two of them the same.
func lines(n int) []string {
	l := make([]string, n)
	for i := range l {
		l[i] = "line " + strconv.Itoa(i) + "\n"
	}
	return l
}

// step is one line of an edit.
type step struct {
	op   int
	line string
}

// steps is a right script's edits, a line at a time.
func steps(s []api.Edit) []step {
	var row []step
	for _, edit := range s {
		for i := range edit.N {
			one := step{op: edit.Op}
			if edit.Op == api.Add {
				one.line = edit.Lines[i]
			}
			row = append(row, one)
		}
	}
	return row
}

// asEdits is steps, those of one kind that stand side by side as one edit.
func asEdits(row []step) []api.Edit {
	var s []api.Edit
	for i, one := range row {
		if i == 0 || row[i-1].op != one.op {
			s = append(s, api.Edit{Op: one.op})
		}
		last := &s[len(s)-1]
		last.N++
		if one.op == api.Add {
			last.Lines = append(last.Lines, one.line)
		}
	}
	return s
}

// counts is how many lines steps take, and how many they make.
func counts(row []step) (from, to int) {
	for _, one := range row {
		if one.op != api.Add {
			from++
		}
		if one.op != api.Cut {
			to++
		}
	}
	return from, to
}

// isNear is the chapter's word: fewer than context steps that keep stand between this one and one that does not, on either side.
func isNear(row []step, at, context int) bool {
	for _, way := range []int{-1, 1} {
		for far := 1; far <= context; far++ {
			i := at + way*far
			if i < 0 || i >= len(row) {
				break
			}
			if row[i].op != api.Keep {
				return true
			}
		}
	}
	return false
}

// wantMake is promise F1's words, step by step.
func wantMake(s []api.Edit, context int) ([]api.Hunk, api.Errno) {
	if !script.Right(s) || context < 0 || context > 100 {
		return nil, api.ErrArg
	}
	row := steps(s)
	belongs := func(at int) bool { return row[at].op != api.Keep || isNear(row, at, context) }
	var h []api.Hunk
	for i := 0; i < len(row); i++ {
		if !belongs(i) {
			continue
		}
		begin := i
		for i < len(row) && belongs(i) {
			i++
		}
		from, to := counts(row[:begin])
		h = append(h, hunk(from, to, asEdits(row[begin:i])...))
	}
	return h, api.OK
}

// wantRight is the words 'hunks are right', one by one.
func wantRight(h []api.Hunk) bool {
	for i, one := range h {
		if len(one.Edits) == 0 || !script.Right(one.Edits) {
			return false
		}
		if !slices.ContainsFunc(one.Edits, func(e api.Edit) bool { return e.Op != api.Keep }) {
			return false
		}
		if one.From < 0 || one.From > 1048576 {
			return false
		}
		if i == 0 {
			if one.To != one.From {
				return false
			}
			continue
		}
		takes, makes := counts(steps(h[i-1].Edits))
		between := one.From - (h[i-1].From + takes)
		if between <= 0 || one.To-(h[i-1].To+makes) != between {
			return false
		}
	}
	return true
}

// wantScript is promise F2's words, step by step.
func wantScript(h []api.Hunk, n int) ([]api.Edit, api.Errno) {
	if !wantRight(h) || n < 0 || n > 1048576 {
		return nil, api.ErrArg
	}
	var row []step
	keepTill := func(line int) {
		for from, _ := counts(row); from < line; from++ {
			row = append(row, step{op: api.Keep})
		}
	}
	for _, one := range h {
		keepTill(one.From)
		row = append(row, steps(one.Edits)...)
	}
	if from, _ := counts(row); from > n {
		return nil, api.ErrForm
	}
	keepTill(n)
	return asEdits(row), api.OK
}

// scripts is all rows of these edits, of at most so many, that are right.
func scripts(edits []api.Edit, length int) [][]api.Edit {
	rows := [][]api.Edit{nil}
	from := 0
	for range length {
		to := len(rows)
		for _, s := range rows[from:to] {
			for _, edit := range edits {
				if longer := append(slices.Clone(s), edit); script.Right(longer) {
					rows = append(rows, longer)
				}
			}
		}
		from = to
	}
	return rows
}

// some is right scripts of all shapes, with rows of lines that are kept of all lengths about the contexts that are tried.
func some() [][]api.Edit {
	few := of(keep(1), keep(2), keep(3), keep(5), cut(1), cut(2), add("x"), add("", "y\n"))
	return append(scripts(few, 4), scripts(of(keep(4), keep(7), cut(1), add("x")), 7)...)
}

// wrong is scripts that are not right, each for one reason alone.
func wrong() [][]api.Edit {
	return [][]api.Edit{
		of(api.Edit{}), of(api.Edit{Op: 0, N: 1}), of(api.Edit{Op: 4, N: 1}), of(api.Edit{Op: -1, N: 1}),
		of(cut(0)), of(cut(-1)), of(cut(most + 1)), of(cut(math.MaxInt)), of(cut(math.MinInt)),
		of(keep(0), cut(1)), of(cut(1), keep(-1)), of(keep(most+1), cut(1)),
		of(add()), of(api.Edit{Op: api.Add, N: 1}), of(api.Edit{Op: api.Add, N: 1, Lines: []string{"a", "b"}}),
		of(api.Edit{Op: api.Add, N: 2, Lines: []string{"a"}}),
		of(api.Edit{Op: api.Cut, N: 1, Lines: []string{"a"}}), of(cut(1), api.Edit{Op: api.Keep, N: 1, Lines: []string{"a"}}),
		of(cut(1), cut(1)), of(cut(1), keep(1), keep(1)), of(add("a"), add("b")), of(add("a"), cut(1)),
		of(cut(1), keep(1), cut(1), add("a"), cut(1)),
	}
}

func TestMakeOfTheExampleF1(t *testing.T) {
	s := of(keep(9), cut(1), keep(4), add("x"), keep(9))
	one := all(hunk(7, 7, keep(2), cut(1), keep(4), add("x"), keep(2)))
	if h, e := hunks.Make(s, 2); e != api.OK || !sameHunks(h, one) {
		t.Errorf("context 2: %v, %d", h, e)
	}
	two := all(hunk(8, 8, keep(1), cut(1), keep(1)), hunk(13, 12, keep(1), add("x"), keep(1)))
	if h, e := hunks.Make(s, 1); e != api.OK || !sameHunks(h, two) {
		t.Errorf("context 1: %v, %d", h, e)
	}
}

func TestMakeF1(t *testing.T) {
	for _, x := range []struct {
		s       []api.Edit
		context int
		want    []api.Hunk
	}{
		// Nothing is changed.
		{nil, 0, nil},
		{of(), 3, nil},
		{of(keep(1)), 0, nil},
		{of(keep(1)), 1, nil},
		{of(keep(5)), 100, nil},
		{of(keep(most)), 100, nil},
		// It begins, or ends, with what is changed, or does both.
		{of(cut(2)), 0, all(hunk(0, 0, cut(2)))},
		{of(cut(2)), 3, all(hunk(0, 0, cut(2)))},
		{of(add("x", "y")), 3, all(hunk(0, 0, add("x", "y")))},
		{of(cut(2), add("x")), 3, all(hunk(0, 0, cut(2), add("x")))},
		{of(cut(1), keep(9)), 0, all(hunk(0, 0, cut(1)))},
		{of(add("x"), keep(9)), 2, all(hunk(0, 0, add("x"), keep(2)))},
		{of(keep(9), cut(1)), 0, all(hunk(9, 9, cut(1)))},
		{of(keep(9), add("x")), 2, all(hunk(7, 7, keep(2), add("x")))},
		{of(keep(9), cut(1), add("x")), 2, all(hunk(7, 7, keep(2), cut(1), add("x")))},
		// Fewer lines, just as many, and one more than the context ahead and behind.
		{of(keep(1), cut(1), keep(1)), 2, all(hunk(0, 0, keep(1), cut(1), keep(1)))},
		{of(keep(2), cut(1), keep(2)), 2, all(hunk(0, 0, keep(2), cut(1), keep(2)))},
		{of(keep(3), cut(1), keep(3)), 2, all(hunk(1, 1, keep(2), cut(1), keep(2)))},
		{of(keep(100), cut(1), keep(100)), 100, all(hunk(0, 0, keep(100), cut(1), keep(100)))},
		{of(keep(101), cut(1), keep(101)), 100, all(hunk(1, 1, keep(100), cut(1), keep(100)))},
		// Lines between two changes: with context 0 one line parts them.
		{of(cut(1), add("x"), keep(1), cut(1)), 0, all(hunk(0, 0, cut(1), add("x")), hunk(2, 2, cut(1)))},
		{of(cut(1), keep(1), add("x")), 0, all(hunk(0, 0, cut(1)), hunk(2, 1, add("x")))},
		// Else twice the context makes one hunk, and one line more two.
		{of(cut(1), keep(1), cut(1)), 1, all(hunk(0, 0, cut(1), keep(1), cut(1)))},
		{of(cut(1), keep(2), cut(1)), 1, all(hunk(0, 0, cut(1), keep(2), cut(1)))},
		{of(cut(1), keep(3), cut(1)), 1, all(hunk(0, 0, cut(1), keep(1)), hunk(3, 2, keep(1), cut(1)))},
		{of(add("x"), keep(6), cut(1)), 3, all(hunk(0, 0, add("x"), keep(6), cut(1)))},
		{of(add("x"), keep(7), cut(1)), 3, all(hunk(0, 0, add("x"), keep(3)), hunk(4, 5, keep(3), cut(1)))},
		{of(cut(1), keep(200), cut(1)), 100, all(hunk(0, 0, cut(1), keep(200), cut(1)))},
		{of(cut(1), keep(201), cut(1)), 100, all(hunk(0, 0, cut(1), keep(100)), hunk(102, 101, keep(100), cut(1)))},
		// Several hunks, of which To falls behind From, or runs ahead of it.
		{of(keep(3), cut(4), keep(3), add("x", "y"), keep(3), cut(1), add("z"), keep(3)), 1, all(
			hunk(2, 2, keep(1), cut(4), keep(1)),
			hunk(9, 5, keep(1), add("x", "y"), keep(1)),
			hunk(12, 10, keep(1), cut(1), add("z"), keep(1)))},
	} {
		if h, e := hunks.Make(x.s, x.context); e != api.OK || !sameHunks(h, x.want) {
			t.Errorf("Make(%v, %d) = %v, %d", x.s, x.context, h, e)
		}
	}
}

func TestMakeOfWhatMayNotBeF1(t *testing.T) {
	fine := of(keep(3), cut(1))
	for _, context := range []int{-1, -2, -100, 101, 102, 1 << 20, 1 << 32, math.MinInt, math.MaxInt} {
		for _, s := range [][]api.Edit{nil, fine, of(keep(1), keep(1))} {
			if h, e := hunks.Make(s, context); e != api.ErrArg || len(h) > 0 {
				t.Errorf("Make(%v, %d) = %v, %d", s, context, h, e)
			}
		}
	}
	for _, s := range wrong() {
		for _, context := range []int{0, 1, 100} {
			if h, e := hunks.Make(s, context); e != api.ErrArg || len(h) > 0 {
				t.Errorf("Make(%v, %d) = %v, %d", s, context, h, e)
			}
		}
	}
	for _, context := range []int{0, 100} {
		if h, e := hunks.Make(fine, context); e != api.OK || len(h) != 1 {
			t.Errorf("Make(%v, %d) = %v, %d", fine, context, h, e)
		}
	}
}

func TestMakeOfAllShortScriptsF1(t *testing.T) {
	for _, s := range some() {
		for _, context := range []int{-1, 0, 1, 2, 3, 4, 100, 101} {
			h, e := hunks.Make(s, context)
			if want, f := wantMake(s, context); e != f || !sameHunks(h, want) {
				t.Fatalf("Make(%v, %d) = %v, %d, want %v, %d", s, context, h, e, want, f)
			}
		}
	}
}

func TestMakeOfMoreLinesThanHunksMayHaveF1(t *testing.T) {
	s := of(keep(most), cut(most), keep(most), add("x"), keep(most))
	want := all(hunk(most-3, most-3, keep(3), cut(most), keep(3)), hunk(3*most-3, 2*most-3, keep(3), add("x"), keep(3)))
	h, e := hunks.Make(s, 3)
	if e != api.OK || !sameHunks(h, want) {
		t.Errorf("Make(%v, 3) = %v, %d", s, h, e)
	}
	if hunks.Right(h) || !hunks.Right(h[:1]) {
		t.Errorf("Right(%v) = %v", h, hunks.Right(h))
	}
}

// notRight is hunks that are not right, each for one reason alone.
func notRight() [][]api.Hunk {
	one := hunk(2, 2, cut(2), add("q")) // behind 4 lines of the one list, and 3 of the other one
	list := [][]api.Hunk{
		// Without an edit.
		all(api.Hunk{}), all(hunk(3, 3)), all(one, hunk(5, 4)), all(hunk(0, 0), hunk(1, 1, cut(1))),
		// One that only keeps.
		all(hunk(0, 0, keep(1))), all(hunk(7, 7, keep(most))), all(one, hunk(5, 4, keep(1))), all(hunk(0, 0, keep(1)), hunk(2, 2, cut(1))),
		// From is below 0, or above 2^20.
		all(hunk(-1, -1, cut(1))), all(hunk(-1, -1, add("x"))), all(hunk(math.MinInt, math.MinInt, cut(1))),
		all(hunk(most+1, most+1, cut(1))), all(hunk(math.MaxInt, math.MaxInt, cut(1))), all(one, hunk(most+1, most, cut(1))),
		all(hunk(-1, -1, keep(1), cut(1))), all(one, hunk(most+1, most, add("x"))),
		// The first one's To is not its From.
		all(hunk(1, 0, cut(1))), all(hunk(0, 1, cut(1))), all(hunk(5, 6, add("x"))), all(hunk(0, -1, add("x"))),
		all(hunk(0, math.MaxInt, cut(1))), all(hunk(0, math.MinInt, cut(1))), all(hunk(0, 1<<32, cut(1))),
		all(hunk(1, 0, cut(1)), hunk(5, 3, cut(1))),
		// From is no more than where the one ahead of it ends.
		all(one, one), all(one, hunk(4, 3, cut(1))), all(one, hunk(4, 3, add("x"))), all(one, hunk(3, 2, cut(1))), all(one, hunk(2, 1, cut(1))), all(one, hunk(0, -1, cut(1))),
		all(hunk(0, 0, add("x")), hunk(0, 1, add("y"))), all(hunk(0, 0, cut(1), keep(2)), hunk(3, 2, keep(1), cut(1))),
		all(hunk(0, 0, cut(most)), hunk(most, 0, cut(1))), all(hunk(1, 1, cut(most)), hunk(most, 0, cut(1))),
		all(hunk(0, 0, add("x"), keep(most), cut(most), keep(most)), hunk(most, 1-most, add("y"))),
		// To is not as much more.
		all(one, hunk(5, 5, cut(1))), all(one, hunk(5, 3, cut(1))), all(one, hunk(6, 6, cut(1))), all(one, hunk(6, 4, cut(1))),
		all(one, hunk(5, 0, cut(1))), all(one, hunk(5, math.MinInt, cut(1))), all(one, hunk(5, math.MaxInt, cut(1))), all(one, hunk(5, 4+1<<32, cut(1))),
		all(one, hunk(5, 4, cut(1)), hunk(7, 6, cut(1))), all(one, hunk(5, 4, cut(1)), hunk(7, 4, cut(1))), all(one, hunk(5, 4, cut(1)), hunk(6, 4, cut(1))),
	}
	// Its edits are no right script.
	for _, s := range wrong() {
		list = append(list, all(hunk(0, 0, s...)), all(one, hunk(5, 4, s...)), all(hunk(0, 0, s...), hunk(most, most, cut(1))))
	}
	return list
}

func TestRightF2(t *testing.T) {
	one := hunk(2, 2, cut(2), add("q"))
	for _, h := range [][]api.Hunk{
		nil,
		all(),
		all(hunk(0, 0, cut(1))),
		all(hunk(0, 0, add(""))),
		all(hunk(0, 0, keep(1), add("x"))),
		all(hunk(0, 0, cut(1), keep(1))),
		all(one),
		all(hunk(most, most, cut(most))),
		all(hunk(most, most, keep(most), add("x"), keep(most))),
		all(hunk(0, 0, keep(most), cut(most), add("x"))),
		all(one, hunk(5, 4, cut(1))),
		all(one, hunk(5, 4, cut(1)), hunk(7, 5, add("x"))),
		all(one, hunk(most, most-1, cut(most))),
		all(hunk(0, 0, add("x", "y")), hunk(1, 3, add("z"))),
		all(hunk(0, 0, cut(7)), hunk(8, 1, keep(2), cut(1), keep(2)), hunk(14, 6, cut(1))),
		all(hunk(0, 0, cut(most-1)), hunk(most, 1, cut(1))),
		all(hunk(0, 0, api.Edit{Op: api.Cut, N: 1, Lines: []string{}})),
	} {
		if !hunks.Right(h) {
			t.Errorf("%v is not right", h)
		}
	}
	for _, h := range notRight() {
		if hunks.Right(h) {
			t.Errorf("%v is right", h)
		}
	}
}

func TestScriptF2(t *testing.T) {
	two := all(hunk(2, 2, cut(2), add("q")), hunk(5, 4, keep(1), cut(1), keep(1)))
	for _, x := range []struct {
		h    []api.Hunk
		n    int
		want []api.Edit
	}{
		{nil, 0, nil},
		{all(), 0, nil},
		{nil, 1, of(keep(1))},
		{nil, most, of(keep(most))},
		{all(hunk(0, 0, add("x"))), 0, of(add("x"))},
		{all(hunk(0, 0, add("x"))), 3, of(add("x"), keep(3))},
		{all(hunk(3, 3, add("x"))), 3, of(keep(3), add("x"))},
		{all(hunk(0, 0, cut(3))), 3, of(cut(3))},
		{all(hunk(0, 0, cut(3))), 4, of(cut(3), keep(1))},
		{all(hunk(1, 1, keep(1), cut(1), keep(1))), 4, of(keep(2), cut(1), keep(1))},
		{all(hunk(1, 1, keep(1), cut(1), keep(1))), 5, of(keep(2), cut(1), keep(2))},
		{two, 8, of(keep(2), cut(2), add("q"), keep(2), cut(1), keep(1))},
		{two, 9, of(keep(2), cut(2), add("q"), keep(2), cut(1), keep(2))},
		{two, most, of(keep(2), cut(2), add("q"), keep(2), cut(1), keep(most-7))},
		{all(hunk(0, 0, cut(1), keep(1)), hunk(3, 2, keep(1), add("x"))), 4, of(cut(1), keep(3), add("x"))},
		{all(hunk(most, most, add("x"))), most, of(keep(most), add("x"))},
		{all(hunk(most-1, most-1, cut(1))), most, of(keep(most-1), cut(1))},
		{all(hunk(0, 0, cut(most))), most, of(cut(most))},
		{all(hunk(0, 0, add("x"), keep(2)), hunk(most-2, most-1, keep(2), add("y"))), most, of(add("x"), keep(most), add("y"))},
	} {
		s, e := hunks.Script(x.h, x.n)
		if e != api.OK || !same(s, x.want) {
			t.Errorf("Script(%v, %d) = %v, %d", x.h, x.n, s, e)
		}
		if from, _ := script.Spans(s); !script.Right(s) || from != x.n {
			t.Errorf("Script(%v, %d) = %v, which takes %d", x.h, x.n, s, from)
		}
	}
}

func TestHunksThatTakeMoreLinesThanThereAreF2F3(t *testing.T) {
	for _, x := range []struct {
		h []api.Hunk
		n int // the fewest lines that are enough
	}{
		{all(hunk(0, 0, cut(1))), 1},
		{all(hunk(1, 1, add("x"))), 1},
		{all(hunk(3, 3, add("x"))), 3},
		{all(hunk(2, 2, keep(2), cut(3), add("x", "y", "z", "u"), keep(1))), 8},
		{all(hunk(2, 2, cut(2), add("q")), hunk(5, 4, cut(1))), 6},
		{all(hunk(0, 0, cut(7)), hunk(8, 1, add("q"))), 8},
		{all(hunk(0, 0, cut(5)), hunk(9, 4, keep(1), cut(1), keep(1))), 12},
	} {
		for n := range x.n + 3 {
			want := api.OK
			if n < x.n {
				want = api.ErrForm
			}
			if s, e := hunks.Script(x.h, n); e != want || e != api.OK && len(s) > 0 {
				t.Errorf("Script(%v, %d) = %v, %d", x.h, n, s, e)
			}
			if b, e := hunks.Apply(x.h, lines(n)); e != want || e != api.OK && len(b) > 0 {
				t.Errorf("Apply(%v) of %d lines = %q, %d", x.h, n, b, e)
			}
		}
	}
	for _, h := range [][]api.Hunk{
		all(hunk(most, most, cut(1))),
		all(hunk(1, 1, cut(most))),
		all(hunk(0, 0, keep(most), cut(most))),
		all(hunk(most, most, keep(most), add("x"), keep(most))),
		all(hunk(0, 0, cut(most-1)), hunk(most, 1, cut(1))),
	} {
		if s, e := hunks.Script(h, most); e != api.ErrForm || len(s) > 0 {
			t.Errorf("Script(%v, 2^20) = %v, %d", h, s, e)
		}
	}
}

func TestNumbersThatMayNotBeF2(t *testing.T) {
	fine, far := all(hunk(0, 0, cut(1))), all(hunk(most, most, cut(most)))
	for _, n := range []int{-1, -2, math.MinInt, most + 1, most + 2, 1 << 32, 1 << 40, math.MaxInt} {
		// Where the hunks take more than there is, too: ErrArg is named first.
		for _, h := range [][]api.Hunk{nil, fine, far, all(hunk(0, 0))} {
			if s, e := hunks.Script(h, n); e != api.ErrArg || len(s) > 0 {
				t.Errorf("Script(%v, %d) = %v, %d", h, n, s, e)
			}
		}
	}
	if s, e := hunks.Script(nil, 0); e != api.OK || len(s) > 0 {
		t.Errorf("Script of nothing, 0 = %v, %d", s, e)
	}
	if s, e := hunks.Script(fine, most); e != api.OK || !same(s, of(cut(1), keep(most-1))) {
		t.Errorf("Script(%v, 2^20) = %v, %d", fine, s, e)
	}
}

func TestHunksThatAreNotRightF2F3(t *testing.T) {
	for _, h := range notRight() {
		for _, n := range []int{0, 1, 5, 50, most} {
			if s, e := hunks.Script(h, n); e != api.ErrArg || len(s) > 0 {
				t.Errorf("Script(%v, %d) = %v, %d", h, n, s, e)
			}
		}
		for _, n := range []int{0, 1, 5, 50} {
			if b, e := hunks.Apply(h, lines(n)); e != api.ErrArg || len(b) > 0 {
				t.Errorf("Apply(%v) of %d lines = %q, %d", h, n, b, e)
			}
		}
	}
}

// pairs is all rows of at most three small hunks with numbers about those that are right.
func pairs() [][]api.Hunk {
	shapes := [][]api.Edit{of(cut(1)), of(add("x", "y")), of(keep(1), cut(2), keep(1)), of(cut(1), add("x"), keep(2)), of(keep(1)), nil}
	var list [][]api.Hunk
	for _, first := range shapes {
		for from := -1; from <= 2; from++ {
			for _, to := range []int{from - 1, from, from + 1} {
				list = append(list, all(hunk(from, to, first...)))
			}
			for _, second := range shapes {
				for at := range 8 {
					for to := -1; to <= 8; to++ {
						list = append(list, all(hunk(from, from, first...), hunk(at, to, second...)))
					}
				}
			}
		}
	}
	return list
}

func TestAllShortRowsOfHunksF2F3(t *testing.T) {
	right := 0
	for _, h := range pairs() {
		want := wantRight(h)
		if hunks.Right(h) != want {
			t.Fatalf("Right(%v) = %v", h, !want)
		}
		if want {
			right++
		}
		for n := range 13 {
			s, e := hunks.Script(h, n)
			wantS, f := wantScript(h, n)
			if e != f || !same(s, wantS) {
				t.Fatalf("Script(%v, %d) = %v, %d, want %v, %d", h, n, s, e, wantS, f)
			}
			a := lines(n)
			var wantB []string
			if f == api.OK {
				wantB, f = script.Apply(wantS, a)
			}
			if b, e := hunks.Apply(h, a); e != f || !slices.Equal(b, wantB) {
				t.Fatalf("Apply(%v, %q) = %q, %d, want %q, %d", h, a, b, e, wantB, f)
			}
		}
	}
	if right < 100 {
		t.Errorf("of all these only %d are right", right)
	}
}

func TestApplyF3(t *testing.T) {
	two := all(hunk(1, 1, keep(1), cut(1), add("x", "y")), hunk(4, 5, add("z"), keep(1)))
	for _, x := range []struct {
		h    []api.Hunk
		a, b string
		want api.Errno
	}{
		{nil, "", "", api.OK},
		{nil, "abc", "abc", api.OK},
		{all(hunk(0, 0, add("x"))), "", "x", api.OK},
		{all(hunk(0, 0, cut(3))), "abc", "", api.OK},
		{all(hunk(3, 3, add("x"))), "abc", "abcx", api.OK},
		{all(hunk(3, 3, add("x"))), "abcd", "abcxd", api.OK},
		{all(hunk(3, 3, add("x"))), "ab", "", api.ErrForm},
		{two, "abcde", "abxydze", api.OK},
		{two, "abcdefg", "abxydzefg", api.OK},
		{two, "abcd", "", api.ErrForm},
		{two, "", "", api.ErrForm},
		{all(hunk(0, 0)), "abc", "", api.ErrArg},
		{all(hunk(3, 2, cut(1))), "abcdef", "", api.ErrArg},
		{all(hunk(3, 2, cut(1))), "", "", api.ErrArg},
	} {
		b, e := hunks.Apply(x.h, strings.Split(x.a, ""))
		if e != x.want || strings.Join(b, "") != x.b {
			t.Errorf("Apply(%v, %q) = %q, %d", x.h, x.a, b, e)
		}
	}
}

func TestApplyToTheMostLinesF3(t *testing.T) {
	a := make([]string, most+1)
	a[most-1] = "last"
	h := all(hunk(1, 1, cut(most-2), add("x")))
	if b, e := hunks.Apply(h, a[:most]); e != api.OK || !slices.Equal(b, []string{"", "x", "last"}) {
		t.Errorf("Apply to 2^20 lines: %d lines, %d", len(b), e)
	}
	if b, e := hunks.Apply(nil, a[:most]); e != api.OK || !slices.Equal(b, a[:most]) {
		t.Errorf("Apply of nothing to 2^20 lines: %d lines, %d", len(b), e)
	}
	for _, h := range [][]api.Hunk{nil, h, all(hunk(most, most, cut(most))), all(hunk(0, 0))} {
		if b, e := hunks.Apply(h, a); e != api.ErrArg || len(b) > 0 {
			t.Errorf("Apply(%v) to one line more than 2^20: %d lines, %d", h, len(b), e)
		}
	}
}

// checkUndone tells where Script does not undo Make.
func checkUndone(t *testing.T, s []api.Edit, context int) {
	t.Helper()
	h, e := hunks.Make(s, context)
	if e != api.OK || !hunks.Right(h) {
		t.Fatalf("Make(%v, %d) = %v, %d, which is not right", s, context, h, e)
	}
	n, _ := script.Spans(s)
	if back, e := hunks.Script(h, n); e != api.OK || !same(back, s) {
		t.Fatalf("context %d: of %v came %v, and of that %v, %d", context, s, h, back, e)
	}
}

func TestScriptUndoesMakeF4(t *testing.T) {
	for _, s := range some() {
		for _, context := range []int{0, 1, 2, 3, 4, 100} {
			checkUndone(t, s, context)
		}
	}
	for _, s := range [][]api.Edit{
		of(keep(most)), of(cut(most)), of(keep(most), add("x")), of(add("x"), keep(most)), of(keep(most-1), cut(1)),
		of(cut(1), keep(most-2), cut(1)), of(keep(most/2), add("x"), keep(most/2)),
		of(cut(1), keep(200), cut(1), keep(201), add("x"), keep(101)),
	} {
		for _, context := range []int{0, 1, 99, 100} {
			checkUndone(t, s, context)
		}
	}
}

// checkDiff tells where hunks of Diff, applied, do not make what Diff makes.
func checkDiff(t *testing.T, a, b []string, context int) {
	t.Helper()
	s := myers.Diff(a, b)
	checkUndone(t, s, context)
	h, _ := hunks.Make(s, context)
	if got, e := hunks.Apply(h, a); e != api.OK || !slices.Equal(got, b) {
		t.Fatalf("context %d: %v makes %q of %q, %d, want %q", context, h, got, a, e, b)
	}
}

func TestHunksOfDiffF4(t *testing.T) {
	for _, a := range []string{"", "a", "b", "ab", "aab", "abcabba", "abcdefghij", "aaaaaaaaaa"} {
		for _, b := range []string{"", "a", "c", "ba", "cbabac", "abcdeXfghij", "Xabcdefghi", "jihgfedcba", "aaabaaabaaa"} {
			for _, context := range []int{0, 1, 2, 3, 100} {
				checkDiff(t, strings.Split(a, ""), strings.Split(b, ""), context)
			}
		}
	}
}

func TestHunksOfDiffOfLongListsF4(t *testing.T) {
	source := rand.New(rand.NewSource(6))
	for range 200 {
		a := lines(300 + source.Intn(300))
		b := slices.Clone(a)
		for range source.Intn(12) {
			at := source.Intn(len(b))
			b = slices.Delete(b, at, min(len(b), at+source.Intn(3)))
			b = slices.Insert(b, at, lines(source.Intn(3))...)
		}
		for _, context := range []int{0, 1, 3, 20, 100} {
			checkDiff(t, a, b, context)
			s := myers.Diff(a, b)
			h, _ := hunks.Make(s, context)
			if want, _ := wantMake(s, context); !sameHunks(h, want) {
				t.Fatalf("Make(%v, %d) = %v, want %v", s, context, h, want)
			}
		}
	}
}

// meet tells whether two texts have a byte of memory in common.
func meet(a, b string) bool {
	if a == "" || b == "" {
		return false
	}
	p, q := uintptr(unsafe.Pointer(unsafe.StringData(a))), uintptr(unsafe.Pointer(unsafe.StringData(b)))
	return p < q+uintptr(len(b)) && q < p+uintptr(len(a))
}

// apart tells of lines that share memory with one another, or with what was handed in.
func apart(t *testing.T, what string, out []string, in ...string) {
	t.Helper()
	for i, line := range out {
		for _, other := range out[:i] {
			if meet(line, other) {
				t.Errorf("%s: two lines share memory", what)
			}
		}
		for _, other := range in {
			if meet(line, other) {
				t.Errorf("%s: a line is what was handed in", what)
			}
		}
	}
}

// allLines is all lines of hunks.
func allLines(h ...api.Hunk) []string {
	var l []string
	for _, one := range h {
		for _, edit := range one.Edits {
			l = append(l, edit.Lines...)
		}
	}
	return l
}

// spoil writes into all that a list has, spare room too.
func spoil(l []string) {
	l = l[:cap(l)]
	for i := range l {
		l[i] = "spoilt"
	}
}

func spoilEdits(s []api.Edit) {
	s = s[:cap(s)]
	for i := range s {
		spoil(s[i].Lines)
		s[i] = api.Edit{Op: 9, N: 9}
	}
}

func spoilHunks(h []api.Hunk) {
	h = h[:cap(h)]
	for i := range h {
		spoilEdits(h[i].Edits)
		h[i] = api.Hunk{From: 9, To: 99}
	}
}

func copyEdits(s []api.Edit) []api.Edit {
	c := slices.Clone(s)
	for i := range c {
		c[i].Lines = slices.Clone(c[i].Lines)
	}
	return c
}

func copyHunks(h []api.Hunk) []api.Hunk {
	c := slices.Clone(h)
	for i := range c {
		c[i].Edits = copyEdits(c[i].Edits)
	}
	return c
}

func TestWhatComesOutSharesNothingF1F2F3(t *testing.T) {
	twice := strings.Clone("same")
	s := of(keep(2), cut(2), add(twice, twice, strings.Clone("x")), keep(5), add(twice), keep(1))
	a := []string{twice, twice, strings.Clone("c"), strings.Clone("d"), twice, "", "f", "g", twice, "h"}
	wantS, wantA := copyEdits(s), slices.Clone(a)
	wantH := all(hunk(1, 1, keep(1), cut(2), add("same", "same", "x"), keep(1)), hunk(8, 9, keep(1), add("same"), keep(1)))
	wantB := []string{"same", "same", "same", "same", "x", "same", "", "f", "g", "same", "same", "h"}

	h, _ := hunks.Make(s, 1)
	apart(t, "Make", allLines(h...), append(allLines(hunk(0, 0, s...)), a...)...)
	back, _ := hunks.Script(h, 10)
	apart(t, "Script", allLines(hunk(0, 0, back...)), append(allLines(h...), a...)...)
	b, _ := hunks.Apply(h, a)
	apart(t, "Apply", b, append(allLines(h...), a...)...)
	if !sameHunks(h, wantH) || !same(back, wantS) || !slices.Equal(b, wantB) {
		t.Fatalf("Make %v, Script %v, Apply %q", h, back, b)
	}

	// Who owns an answer may write into it: what was handed in, and the other answers, stay as they are.
	spoil(b)
	spoilEdits(back)
	if !sameHunks(h, wantH) || !slices.Equal(a, wantA) {
		t.Errorf("the hunks have become %v, the lines %q", h, a)
	}
	if back, e := hunks.Script(h, 10); e != api.OK || !same(back, wantS) {
		t.Errorf("Script is changed by its owner: %v, %d", back, e)
	}
	if b, e := hunks.Apply(h, a); e != api.OK || !slices.Equal(b, wantB) {
		t.Errorf("Apply is changed by its owner: %q, %d", b, e)
	}
	spoilHunks(h)
	if !same(s, wantS) {
		t.Errorf("the script has become %v", s)
	}
	if h, e := hunks.Make(s, 1); e != api.OK || !sameHunks(h, wantH) {
		t.Errorf("Make is changed by its owner: %v, %d", h, e)
	}
}

func TestSpareRoomThatWasHandedInIsNotHandedOutF1F2(t *testing.T) {
	room := []string{"p", "q"}
	s := of(api.Edit{Op: api.Keep, N: 1, Lines: room[:0]}, api.Edit{Op: api.Cut, N: 1, Lines: room[:0]}, api.Edit{Op: api.Add, N: 1, Lines: room[:1]}, api.Edit{Op: api.Keep, N: 2, Lines: room[:0]})
	for _, context := range []int{0, 1, 2} {
		h, e := hunks.Make(s, context)
		if e != api.OK {
			t.Fatalf("Make = %v, %d", h, e)
		}
		spoilHunks(h)
	}
	for _, n := range []int{4, 5} {
		back, e := hunks.Script(all(api.Hunk{Edits: s}), n)
		if e != api.OK || !same(back, of(keep(1), cut(1), add("p"), keep(n-2))) {
			t.Fatalf("Script = %v, %d", back, e)
		}
		spoilEdits(back)
	}
	if !slices.Equal(room, []string{"p", "q"}) {
		t.Errorf("what was handed in has become %q", room)
	}
}

func TestListsOfOneAnswerShareNothingF1F2(t *testing.T) {
	shared := []string{"x", "y"}
	s := of(add(shared...), keep(3), add(shared...), keep(3), add(shared...))
	h, _ := hunks.Make(s, 1)
	back, _ := hunks.Script(h, 6)
	for i := range 2 {
		for _, edit := range h[i].Edits {
			_ = append(edit.Lines, "more", "and more")
		}
		_ = append(h[i].Edits, cut(1), keep(1))
		spoilEdits(h[i].Edits)
		_ = append(back[2*i].Lines, "more")
		spoil(back[2*i].Lines)
	}
	if !sameHunks(h[2:], all(hunk(5, 9, keep(1), add("x", "y")))) {
		t.Errorf("Make: the last hunk is changed by others: %v", h[2])
	}
	if !same(back[3:], of(keep(3), add("x", "y"))) {
		t.Errorf("Script: the last edits are changed by others: %v", back[3:])
	}
}

func TestNothingIsWrittenIntoF1F2F3(t *testing.T) {
	rows := some()
	for i := 0; i < len(rows); i += 7 {
		s := append(slices.Clone(rows[i]), keep(77), add("behind"))
		before := copyEdits(s)
		for _, context := range []int{-1, 0, 1, 100} {
			hunks.Make(s[:len(rows[i])], context)
		}
		if !same(s, before) {
			t.Fatalf("%v has become %v", before, s)
		}
	}
	for _, row := range append(pairs(), notRight()...) {
		h := append(copyHunks(row), hunk(77, 78, cut(79)))
		for i := range row {
			h[i].Edits = append(h[i].Edits, add("behind"))[:len(row[i].Edits)]
		}
		before := copyHunks(h)
		in := h[:len(row)]
		for _, n := range []int{-1, 4, 12} {
			a := append(lines(max(0, n)), "behind")
			hunks.Right(in)
			hunks.Script(in, n)
			hunks.Apply(in, a[:len(a)-1])
			if a[len(a)-1] != "behind" || !slices.Equal(a[:len(a)-1], lines(len(a)-1)) {
				t.Fatalf("the lines have become %q", a)
			}
		}
		for i := range row {
			behind := h[i].Edits[:len(row[i].Edits)+1]
			if !same(behind[len(behind)-1:], of(add("behind"))) {
				t.Fatalf("behind %v stands %v", row[i], behind)
			}
		}
		if !sameHunks(h, before) {
			t.Fatalf("%v has become %v", before, h)
		}
	}
}
