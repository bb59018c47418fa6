package rename_test

import (
	"math"
	"math/rand"
	"slices"
	"strconv"
	"strings"
	"testing"
	"unsafe"

	"collator/api"
	"collator/rename"
)

// file is a file of lines of one letter each.
func file(path, letters string) api.Item {
	return api.Item{Path: path, Kind: api.KindFile, Data: lines(letters)}
}

func lines(letters string) string {
	var text strings.Builder
	for _, letter := range []byte(letters) {
		text.WriteByte(letter)
		text.WriteByte('\n')
	}
	return text.String()
}

func of(items ...api.Item) []api.Item { return items }

func to(pairs ...api.Pair) []api.Pair { return pairs }

// less is chapter 1's order: part by part.
func less(a, b string) bool {
	return slices.Compare(strings.Split(a, "/"), strings.Split(b, "/")) < 0
}

// filesOf is the chapter's words 'the files of items'.
func filesOf(items []api.Item) []api.Item {
	var files []api.Item
	for _, item := range items {
		samePath := func(other api.Item) bool { return other.Path == item.Path }
		if item.Kind == 2 && !slices.ContainsFunc(files, samePath) {
			files = append(files, item)
		}
	}
	return files
}

// wantScore is chapter 7's Score of two texts' lines: each line that is in both is struck out of both.
func wantScore(a, b string) int {
	left, right := strings.SplitAfter(a, "\n"), strings.SplitAfter(b, "\n")
	left = slices.DeleteFunc(left, func(line string) bool { return line == "" })
	right = slices.DeleteFunc(right, func(line string) bool { return line == "" })
	together, common := len(left)+len(right), 0
	if together == 0 {
		return 100
	}
	for _, line := range left {
		if at := slices.Index(right, line); at >= 0 {
			right = slices.Delete(right, at, at+1)
			common++
		}
	}
	return 200 * common / together
}

// candidatesOf is the chapter's words 'a candidate'.
func candidatesOf(old, fresh []api.Item, threshold int) []api.Pair {
	var candidates []api.Pair
	for _, from := range filesOf(old) {
		for _, to := range filesOf(fresh) {
			if score := wantScore(from.Data, to.Data); score >= threshold && score >= 1 {
				candidates = append(candidates, api.Pair{From: from.Path, To: to.Path, Score: score})
			}
		}
	}
	return candidates
}

// better is the chapter's words 'of two candidates the better one'.
func better(a, b api.Pair) bool {
	if a.Score != b.Score {
		return a.Score > b.Score
	}
	if a.From != b.From {
		return less(a.From, b.From)
	}
	return less(a.To, b.To)
}

// wantPairs is promise H1's words: the best one of those that are left is taken, and all that have a file in common with it are no more.
func wantPairs(old, fresh []api.Item, threshold int) []api.Pair {
	left := candidatesOf(old, fresh, threshold)
	var taken []api.Pair
	for len(left) > 0 {
		best := left[0]
		for _, other := range left {
			if better(other, best) {
				best = other
			}
		}
		taken = append(taken, best)
		left = slices.DeleteFunc(left, func(other api.Pair) bool {
			return other.From == best.From || other.To == best.To
		})
	}
	slices.SortFunc(taken, func(a, b api.Pair) int {
		if less(a.To, b.To) {
			return -1
		}
		return 1
	})
	return taken
}

// check holds an answer against promises H1 and H2.
func check(t *testing.T, old, fresh []api.Item, threshold int) {
	t.Helper()
	got := rename.Pairs(old, fresh, threshold)
	if want := wantPairs(old, fresh, threshold); !slices.Equal(got, want) {
		t.Fatalf("Pairs of %+v and %+v at %d: %v, not %v", old, fresh, threshold, got, want)
	}
	checkTheorem(t, candidatesOf(old, fresh, threshold), got)
}

// checkTheorem holds pairs against the first two sentences of H2, whatever H1 says.
func checkTheorem(t *testing.T, candidates, got []api.Pair) {
	t.Helper()
	for i, pair := range got {
		for _, other := range got[:i] {
			if other.From == pair.From || other.To == pair.To {
				t.Fatalf("%v has a file in common with %v", other, pair)
			}
		}
		if !slices.Contains(candidates, pair) {
			t.Fatalf("%v is no candidate", pair)
		}
	}
	for _, c := range candidates {
		blocks := func(taken api.Pair) bool {
			return better(taken, c) && (taken.From == c.From || taken.To == c.To)
		}
		if !slices.Contains(got, c) && !slices.ContainsFunc(got, blocks) {
			t.Fatalf("%v is not taken, and none of %v that has one of its files is better", c, got)
		}
	}
}

type example struct {
	name       string
	old, fresh []api.Item
	threshold  int
	want       []api.Pair
}

func run(t *testing.T, examples []example) {
	t.Helper()
	for _, x := range examples {
		if got := rename.Pairs(x.old, x.fresh, x.threshold); !slices.Equal(got, x.want) {
			t.Errorf("%s: %v, not %v", x.name, got, x.want)
		}
		if want := wantPairs(x.old, x.fresh, x.threshold); !slices.Equal(want, x.want) {
			t.Errorf("%s: by the chapter's words %v, not %v", x.name, want, x.want)
		}
	}
}

func TestExampleH1(t *testing.T) {
	old, fresh := of(file("a", "xy"), file("b", "x")), of(file("c", "xy"))
	run(t, []example{
		{"the chapter's example", old, fresh, 50, to(api.Pair{From: "a", To: "c", Score: 100})},
		{"the chapter's example, at 101", old, fresh, 101, nil},
	})
}

func TestOrdinaryItemsH1(t *testing.T) {
	run(t, []example{
		{"one that has gone elsewhere, as it was", of(file("a", "xyz")), of(file("b", "xyz")), 50, to(api.Pair{From: "a", To: "b", Score: 100})},
		{"one that was changed", of(file("a", "wxyz")), of(file("b", "wxy")), 50, to(api.Pair{From: "a", To: "b", Score: 85})},
		{"its lines in another order", of(file("a", "xyz")), of(file("b", "zxy")), 100, to(api.Pair{From: "a", To: "b", Score: 100})},
		{"a line several times", of(file("a", "xxx")), of(file("b", "x")), 50, to(api.Pair{From: "a", To: "b", Score: 50})},
		{"nothing in common", of(file("a", "xy")), of(file("b", "vw")), 1, nil},
		{"one more on the old side", of(file("a", "x"), file("b", "y")), of(file("c", "y")), 50, to(api.Pair{From: "b", To: "c", Score: 100})},
		{"one more on the fresh side", of(file("a", "y")), of(file("b", "x"), file("c", "y")), 50, to(api.Pair{From: "a", To: "c", Score: 100})},
		{"one path on both sides", of(file("a", "x")), of(file("a", "x")), 50, to(api.Pair{From: "a", To: "a", Score: 100})},
		{"crosswise", of(file("a", "x"), file("b", "y")), of(file("a", "y"), file("b", "x")), 50, to(api.Pair{From: "b", To: "a", Score: 100}, api.Pair{From: "a", To: "b", Score: 100})},
		{"a last line without its line feed", of(api.Item{Path: "a", Kind: 2, Data: "x\ny"}), of(file("b", "xy")), 1, to(api.Pair{From: "a", To: "b", Score: 50})},
		{"bytes in common, but no line", of(api.Item{Path: "a", Kind: 2, Data: "xxxx"}), of(api.Item{Path: "b", Kind: 2, Data: "xxx"}), 1, nil},
		{"one that can't be read has Data all the same", of(api.Item{Path: "a", Kind: 2, Data: "x\n", Bad: true}), of(file("b", "x")), 1, to(api.Pair{From: "a", To: "b", Score: 100})},
	})
}

func TestNoItemsH1(t *testing.T) {
	some := of(file("a", "x"), file("b", ""))
	for _, threshold := range []int{math.MinInt, -1, 0, 1, 50, 100, 101, math.MaxInt} {
		run(t, []example{
			{"none on either side", nil, nil, threshold, nil},
			{"none, in lists", of(), of(), threshold, nil},
			{"none on the old side", nil, some, threshold, nil},
			{"none on the fresh side", some, nil, threshold, nil},
		})
	}
}

func TestItemsThatAreNoFilesH1(t *testing.T) {
	x := lines("x")
	var others []api.Item
	for _, kind := range []int{api.KindDir, api.KindLink, 0, -1, -2, 4, 102, math.MinInt, math.MaxInt} {
		others = append(others, api.Item{Path: "k" + strconv.Itoa(kind), Kind: kind, Data: x})
	}
	run(t, []example{
		{"on both sides", others, others, 1, nil},
		{"on the old side", others, of(file("f", "x")), 1, nil},
		{"on the fresh side", of(file("f", "x")), others, 1, nil},
		{"beside files", slices.Concat(others, of(file("f", "x"))), slices.Concat(others, of(file("g", "x"))), 1, to(api.Pair{From: "f", To: "g", Score: 100})},
		{"dirs without Data", of(api.Item{Path: "a", Kind: 1}), of(api.Item{Path: "b", Kind: 1}), 1, nil},
	})
}

func TestSeveralWithOnePathH1(t *testing.T) {
	link := api.Item{Path: "f", Kind: api.KindLink, Data: lines("y")}
	first := to(api.Pair{From: "f", To: "g", Score: 100})
	second := to(api.Pair{From: "g", To: "f", Score: 100})
	run(t, []example{
		{"the first old one is the file", of(file("f", "x"), file("f", "y")), of(file("g", "x")), 1, first},
		{"the second old one is none", of(file("f", "x"), file("f", "y")), of(file("g", "y")), 1, nil},
		{"the first fresh one is the file", of(file("g", "x")), of(file("f", "x"), file("f", "y")), 1, second},
		{"the second fresh one is none", of(file("g", "y")), of(file("f", "x"), file("f", "y")), 1, nil},
		{"not side by side", of(file("f", "x"), file("e", "z"), file("f", "y")), of(file("g", "y")), 1, nil},
		{"the same twice, of which one is taken", of(file("f", "x"), file("f", "x")), of(file("g", "x"), file("h", "x")), 1, first},
		{"the same twice on the fresh side", of(file("g", "x"), file("h", "x")), of(file("f", "x"), file("f", "x")), 1, second},
		{"the first one without lines", of(file("f", ""), file("f", "x")), of(file("g", "x")), 1, nil},
		{"what is no file ahead of the first one", of(link, file("f", "x"), file("f", "y")), of(file("g", "x")), 1, first},
		{"what is no file ahead, on the fresh side", of(file("g", "x")), of(link, file("f", "x"), file("f", "y")), 1, second},
		{"what is no file behind", of(file("f", "x"), link), of(file("g", "y")), 1, nil},
		{"one path on both sides is there twice on neither", of(file("f", "x"), file("g", "y")), of(file("f", "y"), file("g", "x")), 1, to(api.Pair{From: "g", To: "f", Score: 100}, api.Pair{From: "f", To: "g", Score: 100})},
	})
}

func TestFilesWithoutLinesH1(t *testing.T) {
	run(t, []example{
		{"on both sides", of(file("a", "")), of(file("b", "")), 100, to(api.Pair{From: "a", To: "b", Score: 100})},
		{"on both sides, above 100", of(file("a", "")), of(file("b", "")), 101, nil},
		{"on the old side", of(file("a", "")), of(file("b", "x")), 0, nil},
		{"on the fresh side", of(file("a", "x")), of(file("b", "")), 0, nil},
		{"several on the old side", of(file("b", ""), file("a", "")), of(file("c", "")), 1, to(api.Pair{From: "a", To: "c", Score: 100})},
		{"an empty line is a line", of(file("a", "")), of(api.Item{Path: "b", Kind: 2, Data: "\n"}), 1, nil},
	})
}

func TestThresholdsH1(t *testing.T) {
	// Of 75 there is one pair, of 1 one, and of 0 all others.
	long := "a" + strings.Repeat("b", 99)
	old := of(file("a", "stuv"), file("b", "a"+strings.Repeat("c", 99)), file("c", "m"))
	fresh := of(file("d", "stuw"), file("e", long), file("f", "n"))
	great := api.Pair{From: "a", To: "d", Score: 75}
	small := api.Pair{From: "b", To: "e", Score: 1}
	for _, x := range []struct {
		threshold int
		want      []api.Pair
	}{
		{math.MinInt, to(great, small)},
		{-100, to(great, small)},
		{-1, to(great, small)},
		{0, to(great, small)},
		{1, to(great, small)},
		{2, to(great)},
		{74, to(great)},
		{75, to(great)},
		{76, nil},
		{100, nil},
		{101, nil},
		{math.MaxInt, nil},
	} {
		run(t, []example{{"at " + strconv.Itoa(x.threshold), old, fresh, x.threshold, x.want}})
	}
	same := to(api.Pair{From: "a", To: "b", Score: 100})
	run(t, []example{
		{"99 of 100, at 100", of(file("a", strings.Repeat("x", 100))), of(file("b", strings.Repeat("x", 101))), 100, nil},
		{"the same, at 100", of(file("a", "x")), of(file("b", "x")), 100, same},
		{"the same, at 101", of(file("a", "x")), of(file("b", "x")), 101, nil},
		{"less than one in a hundred is 0", of(file("a", "a"+strings.Repeat("b", 200))), of(file("b", "a")), 0, nil},
	})
}

func TestCandidatesThatScoreTheSameH1(t *testing.T) {
	pair := func(from, to string) api.Pair { return api.Pair{From: from, To: to, Score: 100} }
	run(t, []example{
		{"of one old file", of(file("m", "x")), of(file("c", "x"), file("a", "x"), file("b", "x")), 1, to(pair("m", "a"))},
		{"of one fresh file", of(file("c", "x"), file("a", "x"), file("b", "x")), of(file("m", "x")), 1, to(pair("a", "m"))},
		{"of several", of(file("b", "x"), file("a", "x")), of(file("d", "x"), file("c", "x")), 1, to(pair("a", "c"), pair("b", "d"))},
		{"the lesser old path is more than the lesser fresh one", of(file("a", "xz"), file("b", "xy")), of(file("c", "yq"), file("d", "xq")), 50, to(api.Pair{From: "b", To: "c", Score: 50}, api.Pair{From: "a", To: "d", Score: 50})},
		{"an old path part by part", of(file("b!", "x"), file("b/c", "x")), of(file("m", "x")), 1, to(pair("b/c", "m"))},
		{"a fresh path part by part", of(file("m", "x")), of(file("b!", "x"), file("b/c", "x")), 1, to(pair("m", "b/c"))},
		{"a path that begins another one", of(file("ab", "x"), file("a", "x")), of(file("d/", "x"), file("d", "x")), 1, to(pair("a", "d"), pair("ab", "d/"))},
		{"scores that are the same but for what is left", of(file("b", strings.Repeat("x", 299)), file("a", strings.Repeat("x", 300))), of(file("c", strings.Repeat("x", 100))), 1, to(api.Pair{From: "a", To: "c", Score: 50})},
		{"texts that are no paths", of(file("/", "x"), file("", "x"), file("..", "x")), of(file("\xff", "x"), file("\x00", "x"), file("a//b", "x")), 1, to(pair("", "\x00"), pair("/", "a//b"), pair("..", "\xff"))},
	})
}

func TestAFileThatIsInABetterOneH1H2(t *testing.T) {
	// a and c score 80, a and d 100, b and c 40, b and d 50.
	old, fresh := of(file("a", "uvwx"), file("b", "uvyz")), of(file("c", "uvwxpq"), file("d", "uvwx"))
	run(t, []example{
		{"the better one has the old file", of(file("a", "uvwx")), fresh, 1, to(api.Pair{From: "a", To: "d", Score: 100})},
		{"the better one has the fresh file", of(file("a", "uvwxp"), file("b", "uvwx")), of(file("d", "uvwx")), 1, to(api.Pair{From: "b", To: "d", Score: 100})},
		{"what is left is taken for another one", old, fresh, 1, to(api.Pair{From: "b", To: "c", Score: 40}, api.Pair{From: "a", To: "d", Score: 100})},
		{"what is left is too little for another one", old, fresh, 41, to(api.Pair{From: "a", To: "d", Score: 100})},
		// The sum of scores would be greater the other way: a to c and b to d score 80 each.
		{"one after the other, and not the most in all", of(file("a", "abc"), file("b", "ab")), of(file("c", "bc"), file("d", "abc")), 1, to(api.Pair{From: "b", To: "c", Score: 50}, api.Pair{From: "a", To: "d", Score: 100})},
	})
	// One that is not taken is in the way of none.
	run(t, []example{{
		"a chain",
		of(file("a", "pqrs"), file("b", "rstu")),
		of(file("c", "pqrs"), file("d", "pqrstu"), file("e", "tu")),
		1,
		to(api.Pair{From: "a", To: "c", Score: 100}, api.Pair{From: "b", To: "d", Score: 80}),
	}})
}

func TestPairsStandInTheOrderOfToH1(t *testing.T) {
	names := []string{"b/c", "a", "b!", "b", "c", "a/z", "a!"}
	var old, fresh []api.Item
	for i, name := range names {
		letter := string(rune('a' + i))
		old = append(old, file(names[len(names)-1-i], letter))
		fresh = append(fresh, file(name, letter))
	}
	var got []string
	for _, pair := range rename.Pairs(old, fresh, 50) {
		got = append(got, pair.To)
	}
	if want := []string{"a", "a/z", "a!", "b", "b/c", "b!", "c"}; !slices.Equal(got, want) {
		t.Errorf("%q, not %q", got, want)
	}
	// A greater score does not go ahead of a lesser To.
	run(t, []example{{
		"scores that go up", of(file("a", "xy"), file("b", "pqr")), of(file("m", "x"), file("n", "pqr")), 1,
		to(api.Pair{From: "a", To: "m", Score: 66}, api.Pair{From: "b", To: "n", Score: 100}),
	}})
}

// short is all lists of some items, of at most so many.
func short(length int, items ...api.Item) [][]api.Item {
	lists := [][]api.Item{nil}
	for begin := 0; length > 0; length-- {
		end := len(lists)
		for _, list := range lists[begin:end] {
			for _, item := range items {
				lists = append(lists, append(slices.Clone(list), item))
			}
		}
		begin = end
	}
	return lists
}

func TestAllShortListsH1H2(t *testing.T) {
	lists := short(2,
		file("b!", ""), file("b!", "x"), file("b!", "xy"),
		file("b/c", ""), file("b/c", "x"), file("b/c", "yxz"),
		api.Item{Path: "b!", Kind: api.KindLink, Data: "x\n"}, api.Item{Path: "b/c", Kind: api.KindDir},
	)
	for _, old := range lists {
		for _, fresh := range lists {
			for _, threshold := range []int{-1, 1, 50, 66, 67, 100, 101} {
				check(t, old, fresh, threshold)
			}
		}
	}
}

func TestAllListsOfThreeH1H2(t *testing.T) {
	lists := short(3, file("a", "x"), file("b", "xy"), file("c", "yz"), file("a/b", "xyz"), file("a", "y"))
	for _, old := range lists {
		for _, fresh := range lists {
			check(t, old, fresh, 1)
		}
	}
}

// names are texts of which some are no paths, and whose order by bytes is another one than by parts.
func names() []string {
	return []string{"a", "a/b", "a!", "a!/b", "ab", "b", "b/", "b\x00", "", "/", "c", "c/d/e", "c/d", "c/d!", "\xff", "é"}
}

func someItems(chance *rand.Rand, most, kinds, letters int) []api.Item {
	list := make([]api.Item, chance.Intn(most+1))
	for i := range list {
		var text []byte
		for range chance.Intn(6) {
			text = append(text, byte('a'+chance.Intn(letters)))
		}
		list[i] = file(names()[chance.Intn(len(names()))], string(text))
		if chance.Intn(kinds) == 0 {
			list[i].Kind = chance.Intn(6) - 1
		}
	}
	return list
}

func TestSomeListsH1H2(t *testing.T) {
	chance := rand.New(rand.NewSource(8))
	for i := range 6000 {
		letters := 1 + i%5
		old, fresh := someItems(chance, 12, 5, letters), someItems(chance, 12, 5, letters)
		check(t, old, fresh, chance.Intn(110)-5)
	}
}

func TestManyFilesH1H2(t *testing.T) {
	chance := rand.New(rand.NewSource(9))
	many := func(letters string) []api.Item {
		var list []api.Item
		for i := range 40 {
			text := []byte(strings.Repeat(letters, 2))
			for j := range text {
				if chance.Intn(3) == 0 {
					text[j] = byte('a' + chance.Intn(20))
				}
			}
			list = append(list, file("dir/"+strconv.Itoa(i), string(text)))
		}
		return shuffled(chance, list)
	}
	for range 10 {
		check(t, many("abcde"), many("abcfg"), 1)
		check(t, many("abcde"), many("abcfg"), 50)
	}
}

func shuffled(chance *rand.Rand, list []api.Item) []api.Item {
	list = slices.Clone(list)
	chance.Shuffle(len(list), func(i, j int) { list[i], list[j] = list[j], list[i] })
	return list
}

// once is the items without those whose path is there ahead of them.
func once(list []api.Item) []api.Item {
	var kept []api.Item
	for _, item := range list {
		if !slices.ContainsFunc(kept, func(other api.Item) bool { return other.Path == item.Path }) {
			kept = append(kept, item)
		}
	}
	return kept
}

func TestPairsDoNotHangOnTheOrderH2(t *testing.T) {
	chance := rand.New(rand.NewSource(10))
	for range 600 {
		old, fresh := once(someItems(chance, 16, 6, 2)), once(someItems(chance, 16, 6, 2))
		threshold := chance.Intn(90)
		want := rename.Pairs(old, fresh, threshold)
		for range 4 {
			if got := rename.Pairs(shuffled(chance, old), shuffled(chance, fresh), threshold); !slices.Equal(got, want) {
				t.Fatalf("Pairs of %+v and %+v at %d: %v, and in another order %v", old, fresh, threshold, want, got)
			}
		}
	}
}

func TestNoPathStandsTwiceH2(t *testing.T) {
	var old, fresh []api.Item
	for range 3 {
		for _, name := range names() {
			old, fresh = append(old, file(name, "x")), append(fresh, file(name, "x"))
		}
	}
	got := rename.Pairs(old, fresh[:40], 1)
	if len(got) != len(names()) {
		t.Errorf("%d pairs of %d files", len(got), len(names()))
	}
	checkTheorem(t, candidatesOf(old, fresh[:40], 1), got)
}

// TestNothingIsWrittenIntoH1 also looks at what stands behind the lists' lengths.
func TestNothingIsWrittenIntoH1(t *testing.T) {
	old := of(file("d", "x"), file("b", "xy"), file("b", "z"), file("a", "x"), file("behind", "x"), file("more", "x"))
	fresh := of(file("z", "x"), file("y", "xy"), file("x", "x"), file("y", "x"), file("behind", "x"), file("more", "x"))
	oldWas, freshWas := slices.Clone(old), slices.Clone(fresh)
	if got := rename.Pairs(old[:4], fresh[:4], 1); len(got) != 3 {
		t.Errorf("%v", got)
	}
	if !slices.Equal(old, oldWas) {
		t.Errorf("the old items have become %+v", old)
	}
	if !slices.Equal(fresh, freshWas) {
		t.Errorf("the fresh items have become %+v", fresh)
	}
	// One list may be both sides.
	if got := rename.Pairs(old[:4], old[:4], 1); len(got) != 3 || !slices.Equal(old, oldWas) {
		t.Errorf("%v, and the items are %+v", got, old)
	}
}

// TestWhatComesOutIsNewH1 looks at the texts' memory too.
func TestWhatComesOutIsNewH1(t *testing.T) {
	old, fresh := of(file("from/a", "x"), file("from/b", "yz")), of(file("to/c", "x"), file("to/d", "yz"))
	first, second := rename.Pairs(old, fresh, 1), rename.Pairs(old, fresh, 1)
	want := to(api.Pair{From: "from/a", To: "to/c", Score: 100}, api.Pair{From: "from/b", To: "to/d", Score: 100})
	for i, pair := range first {
		texts := []string{pair.From, pair.To, second[i].From, second[i].To, old[i].Path, fresh[i].Path}
		for j, text := range texts {
			for _, other := range texts[:j] {
				if unsafe.StringData(text) == unsafe.StringData(other) {
					t.Errorf("%q and %q share memory", text, other)
				}
			}
		}
	}
	for i := range first[:cap(first)] {
		first[:cap(first)][i] = api.Pair{From: "spoilt"}
	}
	_ = append(first, api.Pair{From: "spoilt"})
	if !slices.Equal(second, want) {
		t.Errorf("another answer has become %v", second)
	}
	if third := rename.Pairs(old, fresh, 1); !slices.Equal(third, want) {
		t.Errorf("the next answer is %v", third)
	}
}

// TestTheSameTwiceH1 would find something that is kept from call to call.
func TestTheSameTwiceH1(t *testing.T) {
	old, fresh := of(file("a", "xy"), file("b", "x")), of(file("c", "xy"), file("d", "x"))
	want := rename.Pairs(old, fresh, 1)
	for range 3 {
		rename.Pairs(fresh, old, 60)
		if got := rename.Pairs(old, fresh, 1); !slices.Equal(got, want) {
			t.Errorf("%v, not %v", got, want)
		}
	}
}
