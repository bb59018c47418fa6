package spread_test

import (
	"math"
	"math/rand"
	"slices"
	"strconv"
	"strings"
	"testing"

	"collator/alike"
	"collator/api"
	"collator/myers"
	"collator/rows"
	"collator/spread"
	"collator/sums"
)

// lines is a text of lines of one letter each.
func lines(letters string) string {
	var text strings.Builder
	for _, letter := range []byte(letters) {
		text.WriteByte(letter)
		text.WriteByte('\n')
	}
	return text.String()
}

// row is lines of one letter each, as a list.
func row(letters string) []string { return rows.Split(lines(letters)) }

func task(left, right string) api.Task { return api.Task{Left: left, Right: right} }

func list(l ...api.Task) []api.Task { return l }

func keep(n int) api.Edit { return api.Edit{Op: 1, N: n} }

func cut(n int) api.Edit { return api.Edit{Op: 2, N: n} }

func add(l ...string) api.Edit { return api.Edit{Op: 3, N: len(l), Lines: l} }

func by(edits ...api.Edit) []api.Edit { return edits }

func sameEdit(a, b api.Edit) bool {
	return a.Op == b.Op && a.N == b.N && slices.Equal(a.Lines, b.Lines)
}

func sameScript(a, b []api.Edit) bool { return slices.EqualFunc(a, b, sameEdit) }

// same tells whether scripts are the same, where a list that is nil is one without elements.
func same(a, b [][]api.Edit) bool { return slices.EqualFunc(a, b, sameScript) }

// sameRows tells whether rows are the same, of scores or of lines.
func sameRows[T comparable](a, b [][]T) bool { return slices.EqualFunc(a, b, slices.Equal[[]T]) }

// wantAll is promise R1's words.
func wantAll(l []api.Task) [][]api.Edit {
	var all [][]api.Edit
	for _, x := range l {
		all = append(all, myers.Diff(rows.Split(x.Left), rows.Split(x.Right)))
	}
	return all
}

// wantScores is promise R2's words of Scores.
func wantScores(a, b [][]string) [][]int {
	var all [][]int
	for _, x := range a {
		var of []int
		for _, y := range b {
			of = append(of, alike.Score(x, y))
		}
		all = append(all, of)
	}
	return all
}

// wantSums is promise R2's words of Sums.
func wantSums(width int, texts ...string) []api.Key {
	var all []api.Key
	for _, text := range texts {
		all = append(all, sums.Of(text, width))
	}
	return all
}

// copiedRows is a copy of lists that shares no list with these.
func copiedRows[T any](l [][]T) [][]T {
	l = slices.Clone(l)
	for i := range l {
		l[i] = slices.Clone(l[i])
	}
	return l
}

func copiedScripts(l [][]api.Edit) [][]api.Edit {
	l = copiedRows(l)
	for _, s := range l {
		for i := range s {
			s[i].Lines = slices.Clone(s[i].Lines)
		}
	}
	return l
}

// checkAll holds All against the chapter's words, and what was handed in against what it was.
func checkAll(t *testing.T, workers int, l []api.Task) [][]api.Edit {
	t.Helper()
	was := slices.Clone(l)
	got := spread.All(workers, l)
	if want := wantAll(was); !same(got, want) {
		t.Fatalf("All of %d workers and %+v: %+v, not %+v", workers, was, got, want)
	}
	if !slices.Equal(l, was) {
		t.Fatalf("All of %d workers and %+v has written into these: %+v", workers, was, l)
	}
	return got
}

// checkScores holds Scores against the chapter's words, and what was handed in against what it was.
func checkScores(t *testing.T, workers int, a, b [][]string) [][]int {
	t.Helper()
	wasA, wasB := copiedRows(a), copiedRows(b)
	got := spread.Scores(workers, a, b)
	if want := wantScores(wasA, wasB); !sameRows(got, want) {
		t.Fatalf("Scores of %d workers, %q and %q: %v, not %v", workers, wasA, wasB, got, want)
	}
	if !sameRows(a, wasA) || !sameRows(b, wasB) {
		t.Fatalf("Scores of %d workers, %q and %q has written into these: %q and %q", workers, wasA, wasB, a, b)
	}
	return got
}

// checkSums holds Sums against the chapter's words, and what was handed in against what it was.
func checkSums(t *testing.T, workers, width int, texts ...string) []api.Key {
	t.Helper()
	was := slices.Clone(texts)
	got := spread.Sums(workers, width, texts...)
	if want := wantSums(width, was...); !slices.Equal(got, want) {
		t.Fatalf("Sums of %d workers by %d bits of %q: %v, not %v", workers, width, was, got, want)
	}
	if !slices.Equal(texts, was) {
		t.Fatalf("Sums of %d workers by %d bits of %q has written into these: %q", workers, width, was, texts)
	}
	return got
}

// numbers is numbers of workers: few, about the bounds, far beyond them, and such as come to these where bits are lost.
func numbers() []int {
	return []int{
		0, -1, 1, -3, 2, 3, 7, 15, 16, 17, 18, 100, 1000, -16, -17, 1 << 16, 1<<16 + 1, 1 << 32, 1<<32 + 2, -1 << 32, 1<<32 - 16,
		math.MaxInt32, math.MinInt32, math.MaxInt, math.MaxInt - 1, math.MinInt, math.MinInt + 1, math.MinInt + 16,
	}
}

// few is those of numbers that suffice where there are many lists.
func few() []int { return []int{0, 1, 2, 16, 17, math.MaxInt} }

// widths is all that may be, about the ends of these, far beyond them, and such as come to these where bits are lost.
func widths() []int {
	l := []int{-1, -2, -64, 65, 66, 128, 1 << 32, 1<<32 + 7, -1<<32 + 7, math.MaxInt, math.MinInt, math.MaxInt32, math.MinInt32, 1<<16 + 3}
	for i := range 65 {
		l = append(l, i)
	}
	return l
}

// counts is how many things there are: none, about the numbers of workers, and more than may wait at once.
func counts() []int {
	return []int{0, 1, 2, 3, 14, 15, 16, 17, 18, 33, 255, 256, 257, 271, 272, 273, 513, 1000}
}

// texts is texts of every kind: none, such as are the same but for one thing, without a line feed at the end, and such as are no text at all.
func texts() []string {
	return []string{
		"", "\n", "\n\n", "a", "a\n", "b", "b\n", "a\nb", "a\nb\n", "b\na\n", "a\nb\nc\n", "b\nc\nd\n", "x\ny\nz", "x\ny\nz\n",
		"\x00", "\x00\n", "\xff\xfe\n\x80", "\u00e9\n", "\r\n", "a\r\nb\r\n", lines("abcabba"), lines("cbabac"), lines("aaaaaaa"), lines("aaaa"),
		"one\ntwo\n" + strings.Repeat("long ", 100) + "\n", strings.Repeat("x\n", 60), strings.Repeat("x\n", 40) + "y\n" + strings.Repeat("x\n", 19),
	}
}

// pairs is all tasks of two of some texts, of unlike requests and slots.
func pairs(of []string) []api.Task {
	var l []api.Task
	for i, left := range of {
		for j, right := range of {
			l = append(l, api.Task{Req: i - 3, Slot: 100 - j, Left: left, Right: right})
		}
	}
	return l
}

// many is so many tasks, of which no two are the same.
func many(n int) []api.Task {
	var l []api.Task
	for i := range n {
		l = append(l, api.Task{Req: i, Slot: i % 7, Left: lines("abc") + strconv.Itoa(i), Right: lines("bcd") + strconv.Itoa(i/2)})
	}
	return l
}

// heavy is so many tasks of which each takes a while, whoever has found out the others.
func heavy(n, size int) []api.Task {
	chance := rand.New(rand.NewSource(int64(size)))
	var l []api.Task
	for i := range n {
		l = append(l, task(lines(someLetters(chance, size))+strconv.Itoa(i), lines(someLetters(chance, size))))
	}
	return l
}

func someLetters(chance *rand.Rand, n int) string {
	letters := make([]byte, n)
	for i := range letters {
		letters[i] = byte('a' + chance.Intn(20))
	}
	return string(letters)
}

// someText is a few lines of chance, of which the last one may have no line feed.
func someText(chance *rand.Rand, letters int) string {
	var text strings.Builder
	for range chance.Intn(7) {
		text.WriteByte(byte('a' + chance.Intn(letters)))
		text.WriteByte('\n')
	}
	if chance.Intn(3) == 0 {
		text.WriteByte(byte('a' + chance.Intn(letters)))
	}
	return text.String()
}

// someTasks is tasks of chance, many of which have texts in common.
func someTasks(chance *rand.Rand, n, letters int) []api.Task {
	few := make([]string, 1+chance.Intn(6))
	for i := range few {
		few[i] = someText(chance, letters)
	}
	l := make([]api.Task, n)
	for i := range l {
		l[i] = api.Task{Req: chance.Int() - chance.Int(), Slot: chance.Int() - chance.Int(), Left: few[chance.Intn(len(few))], Right: few[chance.Intn(len(few))]}
		if chance.Intn(4) == 0 {
			l[i].Left = someText(chance, letters)
		}
	}
	return l
}

// someRows is lists of lines of chance, which need not be right.
func someRows(chance *rand.Rand, n int) [][]string {
	words := []string{"", "a", "a\n", "b\n", "a\nb\n", "\n", "\xff", "c\n"}
	l := make([][]string, n)
	for i := range l {
		for range chance.Intn(8) {
			l[i] = append(l[i], words[chance.Intn(len(words))])
		}
	}
	return l
}
