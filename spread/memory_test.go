package spread_test

import (
	"slices"
	"strconv"
	"testing"
	"unsafe"

	"collator/api"
	"collator/spread"
)

// lent is a text in memory that its owner can write into.
func lent(s string) (string, func()) {
	memory := []byte(s)
	return unsafe.String(unsafe.SliceData(memory), len(memory)), func() {
		for i := range memory {
			memory[i] = '#'
		}
	}
}

// roomy is a copy of a list with something written in the room behind its length.
func roomy[T any](l []T, behind T) []T {
	all := append(slices.Clone(l), behind, behind, behind)
	return all[:len(l):len(all)]
}

// roomyRows is a copy of lists of lines with something written behind each one of them.
func roomyRows(l [][]string) [][]string {
	l = roomy(l, []string{"behind"})
	for i := range l {
		l[i] = roomy(l[i], "behind")
	}
	return l
}

// whole is a copy of a list to the end of its memory.
func whole[T any](l []T) []T { return slices.Clone(l[:cap(l)]) }

func wholeRows(l [][]string) [][]string {
	l = whole(l)
	for i := range l {
		l[i] = whole(l[i])
	}
	return l
}

// overwrite writes into a list, spare room too.
func overwrite[T any](l []T, by T) {
	l = l[:cap(l)]
	for i := range l {
		l[i] = by
	}
}

var (
	badEdit = api.Edit{Op: 2, N: 99, Lines: []string{"spoilt"}}
	badTask = api.Task{Req: -99, Slot: -99, Left: "spoilt", Right: "spoilt"}
	badKey  = api.Key{Sum: 99, Len: -99}
)

func spoilScript(s []api.Edit) {
	for _, edit := range s {
		overwrite(edit.Lines, "spoilt")
	}
	overwrite(s, badEdit)
}

func growScript(s []api.Edit) {
	for _, edit := range s {
		_ = append(edit.Lines, "grown", "grown")
	}
	_ = append(s, badEdit, badEdit)
}

// textsIn is where all texts of scripts stand.
func textsIn(scripts [][]api.Edit) []string {
	var all []string
	for _, s := range scripts {
		for _, edit := range s {
			all = append(all, edit.Lines...)
		}
	}
	return all
}

// meet tells whether two texts have a byte in common.
func meet(a, b string) bool {
	if a == "" || b == "" {
		return false
	}
	x, y := uintptr(unsafe.Pointer(unsafe.StringData(a))), uintptr(unsafe.Pointer(unsafe.StringData(b)))
	return x < y+uintptr(len(b)) && y < x+uintptr(len(a))
}

// apart fails if two of some texts have memory in common.
func apart(t *testing.T, all []string) {
	t.Helper()
	for i, a := range all {
		for _, b := range all[:i] {
			if meet(a, b) {
				t.Fatalf("%q and %q have memory in common", a, b)
			}
		}
	}
}

// inCommon is tasks of which many have texts in common, with what adds lines, and what does not.
func inCommon() []api.Task {
	l := pairs([]string{lines("abc"), lines("bcd"), "x\ny", ""})
	return slices.Concat(l, l, l)
}

// TestWhatStandsBehindIsNotWrittenIntoR1R2 has lists with room behind their lengths.
func TestWhatStandsBehindIsNotWrittenIntoR1R2(t *testing.T) {
	for _, workers := range few() {
		for _, tasks := range [][]api.Task{{}, many(1), many(40), inCommon()} {
			l := roomy(tasks, badTask)
			was := whole(l)
			if checkAll(t, workers, l); !slices.Equal(whole(l), was) {
				t.Fatalf("%d workers: %+v, not %+v", workers, whole(l), was)
			}
		}
		a, b := roomyRows([][]string{row("ab"), nil, {}, row("b")}), roomyRows([][]string{row("bab"), {}, row("c")})
		wasA, wasB := wholeRows(a), wholeRows(b)
		checkScores(t, workers, a, b)
		checkScores(t, workers, a[:0], b)
		checkScores(t, workers, a, b[:0])
		if !sameRows(wholeRows(a), wasA) || !sameRows(wholeRows(b), wasB) {
			t.Fatalf("%d workers: %q, %q", workers, wholeRows(a), wholeRows(b))
		}
		words := roomy(texts(), "behind")
		wasWords := whole(words)
		checkSums(t, workers, 9, words...)
		if checkSums(t, workers, 9, words[:0]...); !slices.Equal(whole(words), wasWords) {
			t.Fatalf("%d workers: %q", workers, whole(words))
		}
	}
}

// TestScriptsDoNotKeepTextsR1 writes into the texts of tasks behind All.
func TestScriptsDoNotKeepTextsR1(t *testing.T) {
	for _, workers := range few() {
		var ends []func()
		tasks := inCommon()
		l := slices.Clone(tasks)
		for i := range l {
			var left, right func()
			l[i].Left, left = lent(l[i].Left)
			l[i].Right, right = lent(l[i].Right)
			ends = append(ends, left, right)
		}
		got := spread.All(workers, l)
		for _, end := range ends {
			end()
		}
		if want := wantAll(tasks); !same(got, want) {
			t.Fatalf("%d workers: %+v, not %+v", workers, got, want)
		}
	}
}

// TestTextsOfScriptsAreNobodyElsesR1 looks where the lines of scripts stand: apart from one another, from those of another call, and from what was handed in.
func TestTextsOfScriptsAreNobodyElsesR1(t *testing.T) {
	for _, workers := range few() {
		l := inCommon()
		all := append(textsIn(spread.All(workers, l)), textsIn(spread.All(workers, l))...)
		for _, x := range l {
			for _, text := range all {
				if meet(text, x.Left) || meet(text, x.Right) {
					t.Fatalf("%d workers: %q stands in a task", workers, text)
				}
			}
		}
		apart(t, all)
	}
}

// TestScriptsOfOneAnswerAreNobodyElsesR1 writes into one script, grows it, and looks at all others of one answer.
func TestScriptsOfOneAnswerAreNobodyElsesR1(t *testing.T) {
	l := inCommon()
	want := wantAll(l)
	for _, workers := range few() {
		got := spread.All(workers, l)
		other := spread.All(workers, l)
		for i := range got {
			growScript(got[i])
			if !same(got[i:], want[i:]) {
				t.Fatalf("%d workers: script %d has grown into another one: %+v", workers, i, got)
			}
			spoilScript(got[i])
			if !same(got[i+1:], want[i+1:]) {
				t.Fatalf("%d workers: what was written into script %d is in another one: %+v", workers, i, got)
			}
		}
		overwrite(got, []api.Edit{badEdit})
		if !same(other, want) {
			t.Fatalf("%d workers: what was written into one answer is in another one: %+v", workers, other)
		}
		if checkAll(t, workers, l); !same(wantAll(l), want) {
			t.Fatalf("%d workers: what was written into an answer is in what was handed in: %+v", workers, l)
		}
	}
}

// TestEditsOfOneScriptAreNobodyElsesR1 writes into one edit's lines, and looks at the others of one script.
func TestEditsOfOneScriptAreNobodyElsesR1(t *testing.T) {
	l := slices.Repeat(list(task(lines("abcd"), lines("xaybzc"))), 20)
	want := by(add("x\n"), keep(1), add("y\n"), keep(1), add("z\n"), keep(1), cut(1))
	for _, workers := range few() {
		for _, s := range spread.All(workers, l) {
			for i := range s {
				if !sameScript(s[i:], want[i:]) {
					t.Fatalf("%d workers: %+v, not %+v", workers, s[i:], want[i:])
				}
				_ = append(s[i].Lines, "grown")
				overwrite(s[i].Lines, "spoilt")
			}
		}
	}
}

// TestRowsOfScoresAreNobodyElsesR2 writes into one row, grows it, and looks at all others.
func TestRowsOfScoresAreNobodyElsesR2(t *testing.T) {
	one := row("ab")
	// Some of them stand in one memory.
	a := [][]string{one, one, nil, row("ab"), row("c"), one[:1], one, nil, nil, {}, {}}
	want := wantScores(a, a)
	for _, workers := range few() {
		got, other := spread.Scores(workers, a, a), spread.Scores(workers, a, a)
		for i := range got {
			_ = append(got[i], -1, -1, -1)
			if !sameRows(got[i:], want[i:]) {
				t.Fatalf("%d workers: row %d has grown into another one: %v", workers, i, got)
			}
			if overwrite(got[i], -99); !sameRows(got[i+1:], want[i+1:]) {
				t.Fatalf("%d workers: what was written into row %d is in another one: %v", workers, i, got)
			}
		}
		overwrite(got, nil)
		if !sameRows(other, want) {
			t.Fatalf("%d workers: what was written into one answer is in another one: %v", workers, other)
		}
	}
	// Rows without scores may have spare room all the same.
	got := spread.Scores(2, a, nil)
	for i := range got {
		got[i] = append(got[i], i)
	}
	for i := range got {
		if !slices.Equal(got[i], []int{i}) {
			t.Errorf("%v", got)
		}
	}
}

// TestScoresAndSumsDoNotKeepWhatWasHandedInR2 writes into what was handed in behind the call, and into what came out.
func TestScoresAndSumsDoNotKeepWhatWasHandedInR2(t *testing.T) {
	for _, workers := range few() {
		a := [][]string{row("ab"), row("b"), row("cab")}
		scores, words := wantScores(a, a), texts()
		keys := wantSums(64, words...)
		got, sums := spread.Scores(workers, a, a), spread.Sums(workers, 64, words...)
		other := spread.Sums(workers, 64, words...)
		for _, l := range a {
			overwrite(l, "spoilt")
		}
		overwrite(a, nil)
		overwrite(words, "spoilt")
		if !sameRows(got, scores) || !slices.Equal(sums, keys) {
			t.Fatalf("%d workers: %v, %v", workers, got, sums)
		}
		_ = append(sums, badKey)
		if overwrite(sums, badKey); !slices.Equal(other, keys) || !slices.Equal(words, slices.Repeat([]string{"spoilt"}, len(words))) {
			t.Fatalf("%d workers: %v, %q", workers, other, words)
		}
	}
}

// TestTheSameAgainAndAgainR3 asks the same of all numbers of workers, many times, with other calls between.
func TestTheSameAgainAndAgainR3(t *testing.T) {
	l, words := inCommon(), texts()
	var a [][]string
	for i := range 9 {
		a = append(a, row("abc"[:i%3]+strconv.Itoa(i)))
	}
	all, scores, keys := spread.All(1, l), spread.Scores(1, a, a), spread.Sums(1, 21, words...)
	for range 10 {
		for _, workers := range numbers() {
			if !same(spread.All(workers, l), all) || !sameRows(spread.Scores(workers, a, a), scores) || !slices.Equal(spread.Sums(workers, 21, words...), keys) {
				t.Fatalf("%d workers tell something else", workers)
			}
			spread.All(workers, many(3))
			spread.Scores(workers, a, a[1:])
			spread.Sums(workers, 22, words...)
		}
	}
}
