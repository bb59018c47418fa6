package spread_test

import (
	"math"
	"slices"
	"strconv"
	"strings"
	"testing"

	"collator/api"
	"collator/spread"
)

// TestExampleR1 is the chapter's example.
func TestExampleR1(t *testing.T) {
	for _, workers := range numbers() {
		if got := spread.All(workers, nil); len(got) != 0 {
			t.Errorf("%d workers: %+v", workers, got)
		}
		if got := spread.All(workers, []api.Task{}); len(got) != 0 {
			t.Errorf("%d workers: %+v", workers, got)
		}
	}
}

// TestAllByHandR1 has scripts that are written down here, and not found out by another package.
func TestAllByHandR1(t *testing.T) {
	abc, bcd := lines("abc"), lines("bcd")
	l := list(
		task(abc, bcd), task("", ""), task("", abc), task(abc, ""), task(abc, abc), task("a", "b"), task("a", "a\n"), task("a\n", "a"),
		task("x\ny", "x\nz"), task(abc, bcd), task(bcd, abc), task("\n\n", "\n"), task(lines("abcabba"), lines("cbabac")), task("", "\n"), task(abc, bcd),
	)
	first := by(cut(1), keep(2), add("d\n"))
	want := [][]api.Edit{
		first, nil, by(add("a\n", "b\n", "c\n")), by(cut(3)), by(keep(3)), by(cut(1), add("b")), by(cut(1), add("a\n")), by(cut(1), add("a")),
		by(keep(1), cut(1), add("z")), first, by(add("a\n"), keep(2), cut(1)), by(keep(1), cut(1)),
		by(cut(2), keep(1), cut(1), keep(1), add("a\n"), keep(2), add("c\n")), by(add("\n")), first,
	}
	for _, workers := range numbers() {
		if got := spread.All(workers, l); !same(got, want) {
			t.Errorf("%d workers: %+v, not %+v", workers, got, want)
		}
	}
}

func TestAllOfOneR1(t *testing.T) {
	for _, x := range pairs(texts()) {
		for _, workers := range few() {
			checkAll(t, workers, list(x))
		}
	}
}

func TestAllOfAllTextsR1(t *testing.T) {
	l := pairs(texts())
	for _, workers := range numbers() {
		checkAll(t, workers, l)
	}
}

// TestAllOfSoManyR1 has fewer tasks than workers, as many, and more, up to more than may wait at once.
func TestAllOfSoManyR1(t *testing.T) {
	for _, n := range counts() {
		l := many(n)
		for _, workers := range numbers() {
			if got := checkAll(t, workers, l); len(got) != n {
				t.Fatalf("%d scripts of %d tasks", len(got), n)
			}
		}
	}
}

// TestAllOfOneTextManyTimesR1 has tasks that have one text, or both, in common; those that have both on the other side are other ones.
func TestAllOfOneTextManyTimesR1(t *testing.T) {
	const n = 90
	one, other := lines("abcabba"), lines("cbabac")
	ofLeft, ofRight, ofBoth, turned, alike := make([]api.Task, n), make([]api.Task, n), make([]api.Task, n), make([]api.Task, n), make([]api.Task, n)
	for i := range n {
		own := lines("ab" + strconv.Itoa(i))
		ofLeft[i], ofRight[i], ofBoth[i], turned[i], alike[i] = task(one, own), task(own, one), task(one, other), task(one, other), task(one, one)
		if i%2 == 1 {
			turned[i] = task(other, one)
		}
	}
	for _, workers := range numbers() {
		for _, l := range [][]api.Task{ofLeft, ofRight, ofBoth, turned, alike, slices.Concat(ofLeft, ofRight, ofBoth, turned, alike)} {
			checkAll(t, workers, l)
		}
	}
}

// TestAllOfTextsThatAreAlikeSideBySideR1 has tasks whose two texts are the same, if one stands behind the other one.
func TestAllOfTextsThatAreAlikeSideBySideR1(t *testing.T) {
	var l []api.Task
	for _, text := range []string{"", "a\nb\nc\n", "aaaa", "\x00\x00\x00", "0\n0\n", "a\x00b\x00c"} {
		for cut := range len(text) + 1 {
			l = append(l, task(text[:cut], text[cut:]))
		}
	}
	for _, workers := range few() {
		checkAll(t, workers, l)
	}
}

// TestAllWhateverReqAndSlotAreR1 has tasks of the same texts whose numbers are unlike, and of unlike texts whose numbers are the same.
func TestAllWhateverReqAndSlotAreR1(t *testing.T) {
	far := []int{0, -1, 1, 2, 16, math.MaxInt, math.MinInt, 1 << 32, -1 << 32, math.MaxInt32}
	var l []api.Task
	for _, req := range far {
		for _, slot := range far {
			l = append(l, api.Task{Req: req, Slot: slot, Left: lines("abc"), Right: lines("bcd")})
			l = append(l, api.Task{Req: req, Slot: slot, Left: lines("bcd"), Right: lines("xbc") + strconv.Itoa(len(l)%9)})
		}
	}
	want := spread.All(1, list(l[0]))[0]
	for _, workers := range numbers() {
		got := checkAll(t, workers, l)
		for i := 0; i < len(got); i += 2 {
			if !sameScript(got[i], want) {
				t.Fatalf("%d workers: %+v of %+v, not %+v", workers, got[i], l[i], want)
			}
		}
	}
}

// TestAllOfLongTextsR1 has tasks that take long beside such as take short, so that they do not end in the order in which they stand.
func TestAllOfLongTextsR1(t *testing.T) {
	l := heavy(6, 1500)
	for i := range 40 {
		l = append(l, task(lines("ab")+strconv.Itoa(i), lines("b")))
	}
	l = append(l, heavy(3, 900)...)
	for _, workers := range []int{1, 4, 16} {
		checkAll(t, workers, l)
	}
}

// TestScoresByHandR2 has scores that are written down here, and not found out by another package.
func TestScoresByHandR2(t *testing.T) {
	a := [][]string{{"x\n", "y\n", "x\n"}, nil, {"q"}, {"x\n", "z\n"}}
	b := [][]string{{"x\n", "z\n"}, {}, {"y\n", "x\n", "x\n"}, {"q\n"}, {"q"}}
	want := [][]int{{40, 0, 100, 0, 0}, {0, 100, 0, 0, 0}, {0, 0, 0, 0, 100}, {100, 0, 40, 0, 0}}
	for _, workers := range numbers() {
		if got := spread.Scores(workers, a, b); !sameRows(got, want) {
			t.Errorf("%d workers: %v, not %v", workers, got, want)
		}
	}
}

// TestScoresOfNoneR2 has none of a, none of b, and none of either: there is a row of each of a all the same.
func TestScoresOfNoneR2(t *testing.T) {
	some := [][]string{row("ab"), nil, {}, row("b"), {""}}
	for _, workers := range numbers() {
		for _, none := range [][][]string{nil, {}} {
			if got := spread.Scores(workers, none, some); len(got) != 0 {
				t.Errorf("%d workers: %v of no a", workers, got)
			}
			if got := spread.Scores(workers, none, none); len(got) != 0 {
				t.Errorf("%d workers: %v of nothing", workers, got)
			}
			got := spread.Scores(workers, some, none)
			if len(got) != len(some) {
				t.Fatalf("%d workers: %v of no b", workers, got)
			}
			for _, scores := range got {
				if len(scores) != 0 {
					t.Errorf("%d workers: %v of no b", workers, got)
				}
			}
		}
	}
}

// TestScoresOfAllListsR2 has lists without lines, such as are no right lines, and such as are the same in another order.
func TestScoresOfAllListsR2(t *testing.T) {
	l := [][]string{
		nil, {}, {""}, {"", ""}, {"\n"}, {"a"}, {"a\n"}, {"a", "a"}, {"a\nb\n"}, row("a"), row("ab"), row("ba"), row("aab"), row("aabb"), row("abc"), row("xyz"),
		row("zyx"), {"\xff", "\x00"}, {"\x00", "\xff"}, row(strings.Repeat("a", 99)), row(strings.Repeat("a", 98) + "b"), row(strings.Repeat("ab", 100)),
	}
	for _, workers := range numbers() {
		checkScores(t, workers, l, l)
		for i := range l {
			checkScores(t, workers, l[i:i+1], l)
			checkScores(t, workers, l, l[i:i+1])
		}
	}
}

// TestScoresOfSoManyR2 has fewer pairs than workers, as many, and more, with many of a and few of b and the other way round.
func TestScoresOfSoManyR2(t *testing.T) {
	var l [][]string
	for i := range 300 {
		l = append(l, row("ab"+strconv.Itoa(i)))
	}
	for _, n := range []int{0, 1, 2, 3, 4, 5, 15, 16, 17, 255, 256, 257, 273, 300} {
		for _, m := range []int{0, 1, 2, 3, 4, 5, 17} {
			for _, workers := range few() {
				checkScores(t, workers, l[:n], l[300-m:])
				checkScores(t, workers, l[:m], l[300-n:])
			}
		}
	}
	checkScores(t, 16, l[:70], l[100:160])
}

// TestSumsByHandR2 has keys that are written down here, and not found out by another package.
func TestSumsByHandR2(t *testing.T) {
	want := map[int][]api.Key{
		64: {{Sum: 98, Len: 1}, {Sum: 3137, Len: 2}, {Len: 0}, {Sum: 1, Len: 1}, {Sum: 98, Len: 1}},
		4:  {{Sum: 2, Len: 1}, {Sum: 1, Len: 2}, {Len: 0}, {Sum: 1, Len: 1}, {Sum: 2, Len: 1}},
		0:  {{Len: 1}, {Len: 2}, {Len: 0}, {Len: 1}, {Len: 1}},
	}
	want[65], want[math.MaxInt], want[-1], want[math.MinInt] = want[64], want[64], want[0], want[0]
	for _, workers := range numbers() {
		for width, keys := range want {
			if got := spread.Sums(workers, width, "a", "ab", "", "\x00", "a"); !slices.Equal(got, keys) {
				t.Errorf("%d workers, %d bits: %v, not %v", workers, width, got, keys)
			}
		}
	}
}

func TestSumsOfNoneR2(t *testing.T) {
	for _, workers := range numbers() {
		for _, width := range widths() {
			if got := spread.Sums(workers, width); len(got) != 0 {
				t.Errorf("%d workers, %d bits: %v", workers, width, got)
			}
			if got := spread.Sums(workers, width, []string{}...); len(got) != 0 {
				t.Errorf("%d workers, %d bits: %v", workers, width, got)
			}
		}
	}
}

func TestSumsOfAllTextsR2(t *testing.T) {
	all := append(texts(), "", strings.Repeat("\xff", 5000), strings.Repeat("ab", 1<<16), "")
	for _, width := range widths() {
		for _, workers := range few() {
			checkSums(t, workers, width, texts()...)
		}
	}
	for _, workers := range numbers() {
		for _, width := range []int{-1, 0, 1, 7, 63, 64, 65} {
			checkSums(t, workers, width, all...)
		}
	}
	for _, text := range all {
		for _, workers := range few() {
			checkSums(t, workers, 17, text)
		}
	}
}

// TestSumsOfSoManyR2 has fewer texts than workers, as many, and more, up to more than may wait at once.
func TestSumsOfSoManyR2(t *testing.T) {
	for _, n := range counts() {
		var l []string
		for i := range n {
			l = append(l, strconv.Itoa(i*i))
		}
		for _, workers := range numbers() {
			if got := checkSums(t, workers, 40, l...); len(got) != n {
				t.Fatalf("%d keys of %d texts", len(got), n)
			}
		}
	}
}
