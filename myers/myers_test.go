package myers_test

import (
	"math/rand"
	"slices"
	"strconv"
	"strings"
	"testing"
	"unsafe"

	"collator/api"
	"collator/myers"
	"collator/script"
)

const most = 1 << 20

func keep(n int) api.Edit         { return api.Edit{Op: api.Keep, N: n} }
func cut(n int) api.Edit          { return api.Edit{Op: api.Cut, N: n} }
func add(l ...string) api.Edit    { return api.Edit{Op: api.Add, N: len(l), Lines: l} }
func of(s ...api.Edit) []api.Edit { return s }

func same(a, b []api.Edit) bool {
	return slices.EqualFunc(a, b, func(x, y api.Edit) bool {
		return x.Op == y.Op && x.N == y.N && slices.Equal(x.Lines, y.Lines)
	})
}

// letters is a text's signs, each a line.
func letters(s string) []string { return strings.Split(s, "") }

// lines is so many lines, no two of them the same, and none with another name.
func lines(name string, n int) []string {
	l := make([]string, n)
	for i := range l {
		l[i] = name + " " + strconv.Itoa(i) + "\n"
	}
	return l
}

// lists is all lists of these lines, of at most so many.
func lists(of []string, length int) [][]string {
	all := [][]string{nil}
	from := 0
	for range length {
		to := len(all)
		for _, l := range all[from:to] {
			for _, line := range of {
				all = append(all, append(slices.Clone(l), line))
			}
		}
		from = to
	}
	return all
}

// A way is told by a byte for each step, in the order in which the first one of two ways is told.
const (
	keeps = '1'
	cuts  = '2'
	adds  = '3'
)

// ways is all ways from a to b, by the chapter's word.
func ways(a, b []string) []string {
	var all []string
	var from func(a, b []string, way string)
	from = func(a, b []string, way string) {
		if len(a) == 0 && len(b) == 0 {
			all = append(all, way)
			return
		}
		if len(a) > 0 && len(b) > 0 && a[0] == b[0] {
			from(a[1:], b[1:], way+string(keeps))
		}
		if len(a) > 0 {
			from(a[1:], b, way+string(cuts))
		}
		if len(b) > 0 {
			from(a, b[1:], way+string(adds))
		}
	}
	from(a, b, "")
	return all
}

// paid is how many steps of a way cut or add.
func paid(way string) int { return len(way) - strings.Count(way, string(keeps)) }

// firstOf is the first one of the ways with the fewest steps that cut or add.
func firstOf(all []string) string {
	best := all[0]
	for _, way := range all {
		if paid(way) < paid(best) || paid(way) == paid(best) && way < best {
			best = way
		}
	}
	return best
}

// firstByTable is the same for long lists: what is left to pay from each place on stands in a table.
func firstByTable(a, b []string) string {
	left := make([][]int, len(a)+1)
	for i := len(a); i >= 0; i-- {
		left[i] = make([]int, len(b)+1)
		for j := len(b); j >= 0; j-- {
			switch {
			case i == len(a) || j == len(b):
				left[i][j] = len(a) - i + len(b) - j
			default:
				left[i][j] = 1 + min(left[i+1][j], left[i][j+1])
				if a[i] == b[j] {
					left[i][j] = min(left[i][j], left[i+1][j+1])
				}
			}
		}
	}
	var way strings.Builder
	for i, j := 0, 0; i < len(a) || j < len(b); {
		switch {
		case i < len(a) && j < len(b) && a[i] == b[j] && left[i+1][j+1] == left[i][j]:
			way.WriteByte(keeps)
			i, j = i+1, j+1
		case i < len(a) && left[i+1][j] == left[i][j]-1:
			way.WriteByte(cuts)
			i++
		default:
			way.WriteByte(adds)
			j++
		}
	}
	return way.String()
}

// asScript is a way to b as a script, side by side steps of one kind as one edit.
func asScript(way string, b []string) []api.Edit {
	var s []api.Edit
	j := 0
	for i := 0; i < len(way); {
		n := len(way[i:]) - len(strings.TrimLeft(way[i:], way[i:i+1]))
		switch way[i] {
		case keeps:
			s, j = append(s, keep(n)), j+n
		case cuts:
			s = append(s, cut(n))
		case adds:
			s, j = append(s, add(b[j:j+n]...)), j+n
		}
		i += n
	}
	return s
}

// rowsOf is all rows that come of a list by leaving out lines.
func rowsOf(l []string) [][]string {
	all := [][]string{nil}
	for _, line := range l {
		for _, row := range slices.Clone(all) {
			all = append(all, append(slices.Clone(row), line))
		}
	}
	return all
}

// comesOf tells whether a row comes of a list by leaving out lines.
func comesOf(row, l []string) bool {
	for _, line := range l {
		if len(row) > 0 && row[0] == line {
			row = row[1:]
		}
	}
	return len(row) == 0
}

// longestCommon is how many lines the longest one of all common rows has.
func longestCommon(a, b []string) int {
	longest := 0
	for _, row := range rowsOf(a) {
		if comesOf(row, b) {
			longest = max(longest, len(row))
		}
	}
	return longest
}

// checkTheorem tells where promise E3 does not hold.
func checkTheorem(t *testing.T, a, b []string) {
	t.Helper()
	s := myers.Diff(a, b)
	if !script.Right(s) {
		t.Fatalf("Diff(%q, %q) = %v, which is not right", a, b, s)
	}
	if got, e := script.Apply(s, a); e != api.OK || !slices.Equal(got, b) {
		t.Fatalf("Diff(%q, %q) = %v, which makes %q, %d", a, b, s, got, e)
	}
	cost, common := myers.Cost(a, b), myers.Common(a, b)
	if script.Cost(s) != cost || cost != len(a)+len(b)-2*common {
		t.Fatalf("%q, %q: the script costs %d, Cost is %d, Common %d", a, b, script.Cost(s), cost, common)
	}
	if back := myers.Cost(b, a); back != cost || myers.Common(b, a) != common {
		t.Fatalf("%q, %q: Cost is %d, but turned %d", a, b, cost, back)
	}
}

// checkWay tells where the three calls do not answer what the first one of the shortest ways says.
func checkWay(t *testing.T, a, b []string, way string) {
	t.Helper()
	if got, want := myers.Diff(a, b), asScript(way, b); !same(got, want) {
		t.Fatalf("Diff(%q, %q) = %v, want %v", a, b, got, want)
	}
	if got := myers.Cost(a, b); got != paid(way) {
		t.Fatalf("Cost(%q, %q) = %d, want %d", a, b, got, paid(way))
	}
	if got, want := myers.Common(a, b), strings.Count(way, string(keeps)); got != want {
		t.Fatalf("Common(%q, %q) = %d, want %d", a, b, got, want)
	}
	checkTheorem(t, a, b)
}

func TestCommonAndCostE1(t *testing.T) {
	for _, x := range []struct {
		a, b         string
		common, cost int
	}{
		{"", "", 0, 0},
		{"abc", "", 0, 3},
		{"", "abc", 0, 3},
		{"abc", "abc", 3, 0},
		{"abc", "def", 0, 6},
		{"a", "b", 0, 2},
		{"abc", "bcd", 2, 2},
		{"abc", "abd", 2, 2},
		{"abc", "dbc", 2, 2},
		{"abc", "cba", 1, 4},
		{"aaaa", "aa", 2, 2},
		{"aa", "aaaa", 2, 2},
		{"abab", "baba", 3, 2},
		{"abcabba", "cbabac", 4, 5},
		{"xaxbxcx", "abc", 3, 4},
		{"abc", "xaxbxcx", 3, 4},
	} {
		a, b := letters(x.a), letters(x.b)
		if common, cost := myers.Common(a, b), myers.Cost(a, b); common != x.common || cost != x.cost {
			t.Errorf("%q, %q: Common %d, Cost %d", x.a, x.b, common, cost)
		}
	}
}

func TestDiffE2(t *testing.T) {
	for _, x := range []struct {
		a, b string
		want []api.Edit
	}{
		// The chapter's examples.
		{"abc", "bcd", of(cut(1), keep(2), add("d"))},
		{"a", "b", of(cut(1), add("b"))},
		// Empty lists, a list and itself, and lists that have nothing in common.
		{"", "", nil},
		{"abc", "", of(cut(3))},
		{"", "abc", of(add("a", "b", "c"))},
		{"abc", "abc", of(keep(3))},
		{"aaa", "aaa", of(keep(3))},
		{"abc", "de", of(cut(3), add("d", "e"))},
		{"ab", "cde", of(cut(2), add("c", "d", "e"))},
		// The same lines ahead, behind, or both.
		{"abc", "ab", of(keep(2), cut(1))},
		{"ab", "abc", of(keep(2), add("c"))},
		{"abc", "bc", of(cut(1), keep(2))},
		{"bc", "abc", of(add("a"), keep(2))},
		{"abcx", "abcyz", of(keep(3), cut(1), add("y", "z"))},
		{"xyabc", "zabc", of(cut(2), add("z"), keep(3))},
		{"abxcd", "abycd", of(keep(2), cut(1), add("y"), keep(2))},
		{"abcd", "ad", of(keep(1), cut(2), keep(1))},
		{"ad", "abcd", of(keep(1), add("b", "c"), keep(1))},
		// Several ways have the fewest steps: the one that keeps first, and else that cuts first.
		{"ab", "ba", of(cut(1), keep(1), add("a"))},
		{"ba", "ab", of(cut(1), keep(1), add("b"))},
		{"aab", "ab", of(keep(1), cut(1), keep(1))},
		{"ab", "aab", of(keep(1), add("a"), keep(1))},
		{"aaa", "a", of(keep(1), cut(2))},
		{"a", "aaa", of(keep(1), add("a", "a"))},
		{"abcd", "acbd", of(keep(1), cut(1), keep(1), add("b"), keep(1))},
		{"abc", "cba", of(cut(2), keep(1), add("b", "a"))},
		{"abab", "baba", of(cut(1), keep(3), add("a"))},
		{"abcabba", "cbabac", of(cut(2), keep(1), cut(1), keep(1), add("a"), keep(2), add("c"))},
		{"aba", "bab", of(cut(1), keep(2), add("b"))},
		// A way that cuts first is first only if it is as short.
		{"bcda", "abcd", of(add("a"), keep(3), cut(1))},
		{"xy", "zx", of(add("z"), keep(1), cut(1))},
		{"xay", "bxza", of(add("b"), keep(1), add("z"), keep(1), cut(1))},
		// Of lines that one list alone has those of the one are cut ahead of what is added.
		{"pxq", "rxs", of(cut(1), add("r"), keep(1), cut(1), add("s"))},
		{"xpy", "yqx", of(cut(2), keep(1), add("q", "x"))},
		{"apb", "qba", of(cut(2), add("q"), keep(1), add("a"))},
	} {
		a, b := letters(x.a), letters(x.b)
		if got := myers.Diff(a, b); !same(got, x.want) {
			t.Errorf("Diff(%q, %q) = %v, want %v", x.a, x.b, got, x.want)
		}
		checkTheorem(t, a, b)
	}
}

func TestNilAndEmptyListsE1E2(t *testing.T) {
	for _, a := range [][]string{nil, {}} {
		for _, b := range [][]string{nil, {}} {
			if s := myers.Diff(a, b); len(s) != 0 || myers.Cost(a, b) != 0 || myers.Common(a, b) != 0 {
				t.Errorf("Diff of two empty lists = %v", s)
			}
		}
		if s := myers.Diff(a, []string{""}); !same(s, of(add(""))) {
			t.Errorf("Diff of nothing and an empty line = %v", s)
		}
		if s := myers.Diff([]string{""}, a); !same(s, of(cut(1))) {
			t.Errorf("Diff of an empty line and nothing = %v", s)
		}
	}
}

func TestLinesOfAnyBytesE1E2(t *testing.T) {
	odd := []string{"", "\n", "\x00", "\x00\x00", "\xff", "\xfe", "a", "a\n", "A", "a\r\n", " a", "\u00e9", "e\u0301", "\xc3", strings.Repeat("x", 1000), strings.Repeat("x", 1001)}
	for _, p := range odd {
		for _, q := range odd {
			want := of(cut(1), add(q))
			if p == q {
				want = of(keep(1))
			}
			if got := myers.Diff([]string{p}, []string{q}); !same(got, want) {
				t.Errorf("Diff(%q, %q) = %v", p, q, got)
			}
		}
	}
	turned := slices.Clone(odd)
	slices.Reverse(turned)
	for _, b := range [][]string{odd, turned, odd[3:], append(slices.Clone(odd[5:]), odd[:5]...)} {
		checkWay(t, odd, b, firstByTable(odd, b))
	}
}

func TestLinesThatJoinedAreTheSameTextE1E2(t *testing.T) {
	a, b := []string{"ab", "c"}, []string{"a", "bc"}
	if got := myers.Diff(a, b); !same(got, of(cut(2), add("a", "bc"))) || myers.Common(a, b) != 0 {
		t.Errorf("Diff(%q, %q) = %v", a, b, got)
	}
}

func TestAllWaysOfShortListsE1E2E3(t *testing.T) {
	for _, all := range [][][]string{
		lists([]string{"a", "b"}, 5),
		lists([]string{"", "\n", "\xff"}, 3),
	} {
		for _, a := range all {
			for _, b := range all {
				way := firstOf(ways(a, b))
				checkWay(t, a, b, way)
				if got, want := myers.Common(a, b), longestCommon(a, b); got != want {
					t.Fatalf("Common(%q, %q) = %d, want %d", a, b, got, want)
				}
				if long := firstByTable(a, b); long != way {
					t.Fatalf("%q, %q: by a table %s, of all ways %s", a, b, long, way)
				}
			}
		}
	}
}

func TestListsWithLinesOfTheirOwnE1E2E3(t *testing.T) {
	for _, a := range lists([]string{"a", "b", "p"}, 4) {
		for _, b := range lists([]string{"a", "b", "q"}, 4) {
			checkWay(t, a, b, firstByTable(a, b))
		}
	}
}

func TestMoreLettersE1E2E3(t *testing.T) {
	all := lists([]string{"a", "b", "c", "d"}, 4)
	for i, a := range all {
		for j := i % 3; j < len(all); j += 3 {
			checkWay(t, a, all[j], firstByTable(a, all[j]))
		}
	}
}

// scriptsOf is all rows of steps of at most so many, as scripts, whether they fit any lines or not.
func scriptsOf(lines []string, length int) [][]api.Edit {
	kinds := []string{string(keeps), string(cuts)}
	for i := range lines {
		kinds = append(kinds, string(rune('a'+i)))
	}
	var all [][]api.Edit
	for _, row := range lists(kinds, length) {
		var b []string
		way := ""
		for _, kind := range row {
			switch kind {
			case string(keeps):
				b, way = append(b, ""), way+kind
			case string(cuts):
				way += kind
			default:
				b, way = append(b, lines[kind[0]-'a']), way+string(adds)
			}
		}
		all = append(all, asScript(way, b))
	}
	return all
}

func TestNoRightScriptCostsLessE3(t *testing.T) {
	both := []string{"x", "y"}
	scripts := scriptsOf(both, 6)
	short := lists(both, 3)
	for _, a := range short {
		least := map[string]int{}
		for _, s := range scripts {
			b, e := script.Apply(s, a)
			if e != api.OK {
				continue
			}
			made := strings.Join(b, "")
			if cost, known := least[made]; !known || script.Cost(s) < cost {
				least[made] = script.Cost(s)
			}
		}
		for _, b := range short {
			if got, want := script.Cost(myers.Diff(a, b)), least[strings.Join(b, "")]; got != want || myers.Cost(a, b) != want {
				t.Fatalf("Diff(%q, %q) costs %d, Cost is %d, and a right script costs %d", a, b, got, myers.Cost(a, b), want)
			}
		}
	}
}

// some is a list of so many lines out of so many that there are, always the same one for the same source.
func some(source *rand.Rand, length, kinds int) []string {
	l := make([]string, length)
	for i := range l {
		l[i] = "line " + strconv.Itoa(source.Intn(kinds)) + "\n"
	}
	return l
}

func TestLongerListsE1E2E3(t *testing.T) {
	source := rand.New(rand.NewSource(5))
	for _, kinds := range []int{1, 2, 3, 5, 20, 100, 1000} {
		for range 30 {
			a, b := some(source, source.Intn(60), kinds), some(source, source.Intn(60), kinds)
			checkWay(t, a, b, firstByTable(a, b))
		}
	}
}

func TestListsOfWhichOneIsMuchLongerE1E2E3(t *testing.T) {
	source := rand.New(rand.NewSource(6))
	for _, kinds := range []int{1, 2, 3, 10} {
		for length := range 8 {
			long, short := some(source, 700, kinds), some(source, length, kinds)
			checkWay(t, long, short, firstByTable(long, short))
			checkWay(t, short, long, firstByTable(short, long))
		}
	}
}

func TestHighCostsE1E2E3(t *testing.T) {
	source := rand.New(rand.NewSource(7))
	mixed := func(n int) []string {
		l := lines("line", n)
		source.Shuffle(n, func(i, j int) { l[i], l[j] = l[j], l[i] })
		return l
	}
	for _, n := range []int{120, 135, 150, 270, 300, 600, 800} {
		a, b := lines("line", n), mixed(n)
		checkWay(t, a, b, firstByTable(a, b))
		checkWay(t, b, a, firstByTable(b, a))
	}
	for _, kinds := range []int{2, 4, 30} {
		a, b := some(source, 900, kinds), some(source, 700, kinds)
		checkWay(t, a, b, firstByTable(a, b))
	}
}

// TestEveryCostE1E2E3 has every even cost up to some hundreds, by lines that are turned, all but one of which must go;
// and every odd one, by one line more.
func TestEveryCostE1E2E3(t *testing.T) {
	for n := 2; n < 300; n++ {
		a := lines("line", n)
		b := slices.Clone(a)
		slices.Reverse(b)
		if got := myers.Diff(a, b); !same(got, of(cut(n-1), keep(1), add(b[1:]...))) || myers.Cost(a, b) != 2*n-2 {
			t.Fatalf("Diff of %d lines that are turned = %v, Cost %d", n, got, myers.Cost(a, b))
		}
		more := append(slices.Clone(b), a[0])
		if got := myers.Diff(a, more); !same(got, of(cut(n-1), keep(1), add(more[1:]...))) || myers.Cost(a, more) != 2*n-1 {
			t.Fatalf("Diff of %d lines and one more = %v, Cost %d", n, got, myers.Cost(a, more))
		}
	}
}

func TestLongListsComeToAnEndE1E2(t *testing.T) {
	const n = 200000
	a, b := lines("a", n), lines("b", n)
	for _, x := range []struct {
		a, b []string
		want []api.Edit
	}{
		{a, nil, of(cut(n))},
		{nil, b, of(add(b...))},
		{a, a, of(keep(n))},
		{a, b, of(cut(n), add(b...))},
		{a, slices.Concat(a[:n/2], []string{"x"}, a[n/2+1:]), of(keep(n/2), cut(1), add("x"), keep(n/2-1))},
		{a, slices.Concat(a[1:], a[:1]), of(cut(1), keep(n-1), add(a[0]))},
		{slices.Repeat([]string{"x"}, n), []string{"x"}, of(keep(1), cut(n-1))},
		{[]string{"x", "y"}, slices.Concat([]string{"y"}, slices.Repeat([]string{"x"}, n)),
			of(cut(1), keep(1), add(slices.Repeat([]string{"x"}, n)...))},
		{slices.Concat([]string{"y"}, slices.Repeat([]string{"x"}, n)), []string{"x", "y"}, of(cut(1), keep(1), cut(n-1), add("y"))},
	} {
		cost := script.Cost(x.want)
		if got := myers.Diff(x.a, x.b); !same(got, x.want) {
			t.Errorf("Diff of %d and %d lines has %d edits", len(x.a), len(x.b), len(got))
		}
		if myers.Cost(x.a, x.b) != cost || 2*myers.Common(x.a, x.b) != len(x.a)+len(x.b)-cost {
			t.Errorf("%d and %d lines: Cost %d, Common %d", len(x.a), len(x.b), myers.Cost(x.a, x.b), myers.Common(x.a, x.b))
		}
	}
}

func TestTheGreatestEditsE2(t *testing.T) {
	a, b := make([]string, most), slices.Repeat([]string{"x"}, most)
	for _, x := range []struct {
		a, b []string
		want []api.Edit
	}{
		{a, a, of(keep(most))},
		{a, b, of(cut(most), add(b...))},
		{slices.Concat(a, []string{"y"}, a), slices.Concat(a, a), of(keep(most), cut(1), keep(most))},
	} {
		got := myers.Diff(x.a, x.b)
		if !same(got, x.want) || !script.Right(got) {
			t.Errorf("Diff of %d and %d lines has %d edits", len(x.a), len(x.b), len(got))
		}
	}
}

// TestMoreLinesThanOneEditMayHaveE1E2 is of lists whose way no right script tells: its steps are one edit all the same.
func TestMoreLinesThanOneEditMayHaveE1E2(t *testing.T) {
	a := make([]string, most+1)
	if got := myers.Diff(a, a); !same(got, of(keep(most+1))) || myers.Cost(a, a) != 0 || myers.Common(a, a) != most+1 {
		t.Errorf("Diff has %d edits, Cost is %d", len(got), myers.Cost(a, a))
	}
	if got := myers.Diff(a, nil); !same(got, of(cut(most+1))) || myers.Cost(a, nil) != most+1 || myers.Common(a, nil) != 0 {
		t.Errorf("Diff has %d edits, Cost is %d", len(got), myers.Cost(a, nil))
	}
}

func TestTheSameForTheSameE1E2(t *testing.T) {
	source := rand.New(rand.NewSource(8))
	a, b := some(source, 300, 40), some(source, 300, 40)
	first, cost, common := myers.Diff(a, b), myers.Cost(a, b), myers.Common(a, b)
	for range 20 {
		// Other lists with the same bytes, at other addresses, and with other room.
		c, d := slices.Grow(copies(a), 7), copies(b)
		if !same(myers.Diff(c, d), first) || myers.Cost(c, d) != cost || myers.Common(c, d) != common {
			t.Fatal("the same lists are told otherwise")
		}
	}
}

func copies(l []string) []string {
	out := make([]string, len(l))
	for i, line := range l {
		out[i] = strings.Clone(line)
	}
	return out
}

// meet tells whether two texts have a byte of memory in common.
func meet(a, b string) bool {
	if a == "" || b == "" {
		return false
	}
	p, q := uintptr(unsafe.Pointer(unsafe.StringData(a))), uintptr(unsafe.Pointer(unsafe.StringData(b)))
	return p < q+uintptr(len(b)) && q < p+uintptr(len(a))
}

// spoil writes into all that a script has, spare room too.
func spoil(s []api.Edit) {
	for _, edit := range s {
		l := edit.Lines[:cap(edit.Lines)]
		for i := range l {
			l[i] = "spoilt"
		}
	}
	s = s[:cap(s)]
	for i := range s {
		s[i] = api.Edit{Op: 9, N: 9}
	}
}

func TestWhatComesOutSharesNothingE2(t *testing.T) {
	twice := strings.Clone("same")
	a := []string{strings.Clone("a"), strings.Clone("b"), strings.Clone("c")}
	b := []string{twice, twice, a[0], strings.Clone("x"), a[1], twice, a[2], strings.Clone("y")}
	want := of(add("same", "same"), keep(1), add("x"), keep(1), add("same"), keep(1), add("y"))
	s := myers.Diff(a, b)
	if !same(s, want) {
		t.Fatalf("Diff = %v", s)
	}
	var out []string
	for _, edit := range s {
		out = append(out, edit.Lines...)
	}
	for i, line := range out {
		for _, other := range slices.Concat(out[:i], a, b) {
			if meet(line, other) {
				t.Errorf("the line %q shares memory with another one", line)
			}
		}
	}
	again := myers.Diff(a, b)
	spoil(s)
	if !same(again, want) || !same(myers.Diff(a, b), want) {
		t.Error("an answer is changed by another one's owner")
	}
	if !slices.Equal(a, []string{"a", "b", "c"}) || !slices.Equal(b, []string{"same", "same", "a", "x", "b", "same", "c", "y"}) {
		t.Errorf("what was handed in has become %q, %q", a, b)
	}
}

func TestAllIsNewMemoryWhereOneListIsEmptyE2(t *testing.T) {
	room := []string{"p", "q", "r", "s"}
	for n := range 4 {
		s := myers.Diff(nil, room[:n])
		spoil(s)
		s = myers.Diff(room[:n], nil)
		spoil(s)
		s = myers.Diff(room[:n], room)
		spoil(s)
	}
	if !slices.Equal(room, []string{"p", "q", "r", "s"}) {
		t.Errorf("what was handed in has become %q", room)
	}
}

func TestListsOfOneAnswerShareNothingE2(t *testing.T) {
	s := myers.Diff(letters("ab"), letters("123a456b789"))
	want := of(add("1", "2", "3"), keep(1), add("4", "5", "6"), keep(1), add("7", "8", "9"))
	if !same(s, want) {
		t.Fatalf("Diff = %v", s)
	}
	for i := range 3 {
		_ = append(s[2*i].Lines, "more", "and more")
	}
	if !same(s, want) {
		t.Errorf("a list is changed where another one grows: %v", s)
	}
	spoil(s[:1:1])
	if !same(s[1:], want[1:]) {
		t.Errorf("a list is changed by another one: %v", s)
	}
}

func TestEditsWithoutLinesHaveNoneE2(t *testing.T) {
	for _, edit := range myers.Diff(letters("abcxd"), letters("bcyd")) {
		if edit.Op != api.Add && len(edit.Lines) != 0 || edit.Op == api.Add && len(edit.Lines) != edit.N {
			t.Errorf("an edit %v", edit)
		}
	}
}

func TestNothingIsWrittenIntoE1E2(t *testing.T) {
	all := lists([]string{"a", "b", "c"}, 3)
	for _, a := range all {
		for _, b := range all {
			roomA, roomB := append(slices.Clone(a), "behind", "it"), append(slices.Clone(b), "and", "here")
			wantA, wantB := slices.Clone(roomA), slices.Clone(roomB)
			inA, inB := roomA[:len(a)], roomB[:len(b)]
			myers.Diff(inA, inB)
			myers.Cost(inA, inB)
			myers.Common(inA, inB)
			if !slices.Equal(roomA, wantA) || !slices.Equal(roomB, wantB) {
				t.Fatalf("%q, %q have become %q, %q", wantA, wantB, roomA, roomB)
			}
		}
	}
}
