package alike_test

import (
	"math/rand"
	"slices"
	"strconv"
	"strings"
	"testing"

	"collator/alike"
)

func of(l ...string) []string { return l }

// times is one line, so many times.
func times(n int, line string) []string {
	l := make([]string, n)
	for i := range l {
		l[i] = line
	}
	return l
}

// count is how often a line is in a list.
func count(l []string, line string) int {
	n := 0
	for _, other := range l {
		if other == line {
			n++
		}
	}
	return n
}

// wantCommon is promise G1's words: each line once, as often as it is in that in which it is less often.
func wantCommon(a, b []string) int {
	n := 0
	for i, line := range a {
		if slices.Contains(a[:i], line) {
			continue
		}
		n += min(count(a, line), count(b, line))
	}
	return n
}

// wantScore is promise G1's words; the greatest whole number that is not more is found by counting up.
func wantScore(a, b []string) int {
	together := len(a) + len(b)
	if together == 0 {
		return 100
	}
	score := 0
	for (score+1)*together <= 200*wantCommon(a, b) {
		score++
	}
	return score
}

// wantBest is promise G2's words.
func wantBest(a []string, others ...[]string) (int, int) {
	for i, other := range others {
		mine := wantScore(a, other)
		less := func(l []string) bool { return wantScore(a, l) < mine }
		notMore := func(l []string) bool { return wantScore(a, l) <= mine }
		if all(others[:i], less) && all(others[i:], notMore) {
			return i, mine
		}
	}
	return -1, 0
}

func all(lists [][]string, holds func([]string) bool) bool {
	return !slices.ContainsFunc(lists, func(l []string) bool { return !holds(l) })
}

// sameOften tells whether two lists have the same lines, each as often.
func sameOften(a, b []string) bool {
	a, b = slices.Clone(a), slices.Clone(b)
	slices.Sort(a)
	slices.Sort(b)
	return slices.Equal(a, b)
}

// short is all lists of some lines, of at most so many.
func short(length int, lines ...string) [][]string {
	lists := [][]string{nil}
	for begin := 0; length > 0; length-- {
		end := len(lists)
		for _, l := range lists[begin:end] {
			for _, line := range lines {
				lists = append(lists, append(slices.Clone(l), line))
			}
		}
		begin = end
	}
	return lists
}

type pair struct {
	name          string
	a, b          []string
	common, score int
}

func pairs() []pair {
	return []pair{
		{"the chapter's example", of("x", "y", "x"), of("x", "z"), 1, 40},
		{"no lines on either side", nil, nil, 0, 100},
		{"no lines, and no list", of(), nil, 0, 100},
		{"none on one side", of("a"), nil, 0, 0},
		{"none on one side, several on the other one", of("a", "b", "a"), of(), 0, 0},
		{"the same lines", of("a\n", "b\n", "c"), of("a\n", "b\n", "c"), 3, 100},
		{"the same lines in another order", of("a", "b", "c"), of("c", "a", "b"), 3, 100},
		{"nothing in common", of("a", "b"), of("c", "d"), 0, 0},
		{"several times on the first side", of("a", "a", "a"), of("a"), 1, 50},
		{"several times on the second side", of("a"), of("a", "a", "a"), 1, 50},
		{"several times on both, more often on the first", of("a", "a", "a", "b"), of("a", "a"), 2, 66},
		{"several times on both, more often on the second", of("a", "a"), of("b", "a", "a", "a"), 2, 66},
		{"one more often here, another one there", of("a", "a", "b"), of("a", "b", "b"), 2, 66},
		{"as often, but not side by side", of("a", "b", "a"), of("a", "a", "b"), 3, 100},
		{"the empty line", of(""), of(""), 1, 100},
		{"the empty line several times", of("", "", "a"), of("b", ""), 1, 40},
		{"the empty line, and none", of(""), nil, 0, 0},
		{"a line and its line feed", of("a"), of("a\n"), 0, 0},
		{"a line that begins another one", of("a"), of("ab"), 0, 0},
		{"great letters are others", of("A"), of("a"), 0, 0},
		{"bytes that are no signs", of("\xff", "\xfe", "\x00"), of("\xfe", "\xff", "\x00\x00"), 2, 66},
		{"one sign in two ways", of("\u00e9"), of("e\u0301"), 0, 0},
		{"divides evenly", of("a", "b", "c", "d"), of("a", "b", "c", "e"), 3, 75},
		{"does not: 22 and two ninths", of("a", "b"), of("b", "c", "d", "e", "f", "g", "h"), 1, 22},
		{"does not: 66 and two thirds", of("a", "b"), of("a"), 1, 66},
		{"does not: 28 and four sevenths", of("a", "b", "c"), of("a", "x", "y", "z"), 1, 28},
		{"less than one", of("a"), times(199, "b"), 0, 0},
		{"just one", of("a"), append(times(198, "b"), "a"), 1, 1},
		{"not quite one", of("a"), append(times(200, "b"), "a"), 1, 0},
		{"not quite 100", times(500, "a"), times(501, "a"), 500, 99},
	}
}

func TestCommonG1(t *testing.T) {
	for _, p := range pairs() {
		if got := alike.Common(p.a, p.b); got != p.common {
			t.Errorf("%s: %d, not %d", p.name, got, p.common)
		}
		if got := alike.Common(p.b, p.a); got != p.common {
			t.Errorf("%s, the other way round: %d, not %d", p.name, got, p.common)
		}
	}
}

func TestScoreG1(t *testing.T) {
	for _, p := range pairs() {
		if got := alike.Score(p.a, p.b); got != p.score {
			t.Errorf("%s: %d, not %d", p.name, got, p.score)
		}
		if got := alike.Score(p.b, p.a); got != p.score {
			t.Errorf("%s, the other way round: %d, not %d", p.name, got, p.score)
		}
	}
}

func TestAllShortListsG1G3(t *testing.T) {
	lists := short(4, "", "x", "y")
	for _, a := range lists {
		for _, b := range lists {
			checkPair(t, a, b)
		}
	}
}

// checkPair holds two lists against promises G1 and G3.
func checkPair(t *testing.T, a, b []string) {
	t.Helper()
	if got, want := alike.Common(a, b), wantCommon(a, b); got != want {
		t.Errorf("Common of %q and %q: %d, not %d", a, b, got, want)
	}
	score := alike.Score(a, b)
	if want := wantScore(a, b); score != want {
		t.Errorf("Score of %q and %q: %d, not %d", a, b, score, want)
	}
	if score < 0 || score > 100 {
		t.Errorf("Score of %q and %q is %d", a, b, score)
	}
	if other := alike.Score(b, a); other != score {
		t.Errorf("Score of %q and %q is %d, and the other way round %d", a, b, score, other)
	}
	if (score == 100) != sameOften(a, b) {
		t.Errorf("Score of %q and %q is %d", a, b, score)
	}
}

func someLines(chance *rand.Rand, most, kinds int) []string {
	l := make([]string, chance.Intn(most+1))
	for i := range l {
		l[i] = "line " + strconv.Itoa(chance.Intn(kinds)) + "\n"
	}
	return l
}

func shuffled(chance *rand.Rand, l []string) []string {
	l = slices.Clone(l)
	chance.Shuffle(len(l), func(i, j int) { l[i], l[j] = l[j], l[i] })
	return l
}

func TestLongerListsG1G3(t *testing.T) {
	chance := rand.New(rand.NewSource(7))
	for i := range 2000 {
		a := someLines(chance, 60, 1+i%40)
		b := someLines(chance, 60, 1+i%30)
		checkPair(t, a, b)
		checkPair(t, a, shuffled(chance, a))
	}
}

func TestScoreDoesNotHangOnTheOrderG3(t *testing.T) {
	chance := rand.New(rand.NewSource(3))
	for range 500 {
		a, b := someLines(chance, 20, 6), someLines(chance, 20, 6)
		want := alike.Score(a, b)
		for range 4 {
			c, d := shuffled(chance, a), shuffled(chance, b)
			if got := alike.Score(c, d); got != want {
				t.Fatalf("Score of %q and %q is %d, of %q and %q %d", a, b, want, c, d, got)
			}
		}
	}
}

func TestScoreOfOneLineMoreIsLessThan100G3(t *testing.T) {
	for n := range 400 {
		a := times(n, "a")
		if got := alike.Score(a, append(slices.Clone(a), "a")); got >= 100 {
			t.Fatalf("%d lines and one more: %d", n, got)
		}
		b := append(slices.Clone(a), "b")
		if got := alike.Score(append(slices.Clone(a), "a"), b); got >= 100 {
			t.Fatalf("%d lines and another one: %d", n, got)
		}
	}
}

func TestManyLinesG1(t *testing.T) {
	const n = 1 << 20
	if got := alike.Common(times(n, "a"), times(2*n, "a")); got != n {
		t.Errorf("Common is %d, not %d", got, n)
	}
	if got := alike.Score(times(n, "a"), times(2*n, "a")); got != 66 {
		t.Errorf("Score is %d, not 66", got)
	}
}

func TestBestG2(t *testing.T) {
	a := of("a", "b")
	for _, x := range []struct {
		name      string
		a         []string
		others    [][]string
		at, score int
	}{
		{"none", a, nil, -1, 0},
		{"none, of no lines", nil, [][]string{}, -1, 0},
		{"one", a, [][]string{{"b"}}, 0, 66},
		{"one that is the same", a, [][]string{{"b", "a"}}, 0, 100},
		{"one that has nothing in common", a, [][]string{{"x"}}, 0, 0},
		{"several that have nothing in common", a, [][]string{{"x"}, {"y"}, nil}, 0, 0},
		{"the first one", a, [][]string{{"a", "b"}, {"a"}, {"x"}}, 0, 100},
		{"one between", a, [][]string{{"x"}, {"a", "b"}, {"a"}}, 1, 100},
		{"the last one", a, [][]string{{"x"}, {"a"}, {"a", "b"}}, 2, 100},
		{"several that score the same", a, [][]string{{"x"}, {"b"}, {"a"}}, 1, 66},
		{"several that are the same", a, [][]string{{"a"}, {"b", "a"}, {"a", "b"}}, 1, 100},
		{"as many in common, but fewer lines", a, [][]string{{"a", "x"}, {"a"}}, 1, 66},
		{"scores that are the same but for what is left", times(100, "a"), [][]string{times(300, "a"), times(299, "a")}, 0, 50},
		{"no lines in any", nil, [][]string{nil, {}}, 0, 100},
		{"no lines in one", nil, [][]string{{"a"}, nil}, 1, 100},
		{"lists without lines", a, [][]string{nil, {}}, 0, 0},
		{"a list without lines is not the best", a, [][]string{nil, {"b"}, {}}, 1, 66},
		{"lists with lines, and none", nil, [][]string{{"a"}, {"b"}}, 0, 0},
	} {
		if at, score := alike.Best(x.a, x.others...); at != x.at || score != x.score {
			t.Errorf("%s: %d, %d, not %d, %d", x.name, at, score, x.at, x.score)
		}
	}
}

func TestBestOfAllShortListsG2(t *testing.T) {
	lists := short(2, "", "x")
	for _, a := range lists {
		for _, b := range lists {
			for _, c := range lists {
				checkBest(t, a, b, c)
				for _, d := range lists {
					checkBest(t, a, b, c, d)
				}
			}
		}
	}
}

func checkBest(t *testing.T, a []string, others ...[]string) {
	t.Helper()
	at, score := alike.Best(a, others...)
	if wantAt, want := wantBest(a, others...); at != wantAt || score != want {
		t.Errorf("Best of %q and %q: %d, %d, not %d, %d", a, others, at, score, wantAt, want)
	}
}

func TestBestOfManyG2(t *testing.T) {
	chance := rand.New(rand.NewSource(2))
	for range 300 {
		others := make([][]string, chance.Intn(12))
		for i := range others {
			others[i] = someLines(chance, 8, 5)
		}
		checkBest(t, someLines(chance, 8, 5), others...)
	}
}

// TestNothingIsWrittenIntoG1G2 also looks at what stands behind the lists' lengths.
func TestNothingIsWrittenIntoG1G2(t *testing.T) {
	whole := strings.Split("c,a,b,a,behind,more", ",")
	other := strings.Split("a,c,a,x,behind,more", ",")
	lists := [][]string{whole[:4], other[:4], nil, {}, {"behind"}}
	a, b := lists[0], lists[1]
	alike.Common(a, b)
	alike.Score(a, b)
	alike.Best(a, lists[:4]...)
	if !slices.Equal(whole, strings.Split("c,a,b,a,behind,more", ",")) {
		t.Errorf("the first list has become %q", whole)
	}
	if !slices.Equal(other, strings.Split("a,c,a,x,behind,more", ",")) {
		t.Errorf("the second list has become %q", other)
	}
	if &lists[0][0] != &whole[0] || &lists[1][0] != &other[0] || lists[2] != nil || len(lists[3]) != 0 || lists[4][0] != "behind" {
		t.Errorf("the list of lists has become %q", lists)
	}
}

// TestTheSameTwiceG1G2 would find something that is kept from call to call.
func TestTheSameTwiceG1G2(t *testing.T) {
	a, b := of("x", "y", "x"), of("x", "z")
	for range 3 {
		if common, score := alike.Common(a, b), alike.Score(a, b); common != 1 || score != 40 {
			t.Errorf("%d, %d, not 1, 40", common, score)
		}
		if at, score := alike.Best(a, nil, b, a); at != 2 || score != 100 {
			t.Errorf("%d, %d, not 2, 100", at, score)
		}
	}
}

// TestOneListAsBothG1 hands one list in on both sides.
func TestOneListAsBothG1(t *testing.T) {
	a := of("x", "y", "x", "")
	if common, score := alike.Common(a, a), alike.Score(a, a); common != 4 || score != 100 {
		t.Errorf("%d, %d, not 4, 100", common, score)
	}
	if at, score := alike.Best(a, a[:2], a, a); at != 1 || score != 100 {
		t.Errorf("%d, %d, not 1, 100", at, score)
	}
}
