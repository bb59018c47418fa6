package flight_test

import (
	"math"
	"math/rand"
	"slices"
	"testing"

	"collator/api"
	"collator/flight"
)

// TestExampleO1O2 is the chapter's example.
func TestExampleO1O2(t *testing.T) {
	first, f, e := flight.Begin(nil, "a", "b", 1)
	if !first || !same(f, fills(fill("a", "b", 1))) || e != api.OK {
		t.Fatal(first, f, e)
	}
	first, f, e = flight.Begin(f, "a", "b", 2)
	if first || !same(f, fills(fill("a", "b", 1, 2))) || e != api.OK {
		t.Fatal(first, f, e)
	}
	first, f, e = flight.Begin(f, "a", "b", 3)
	if first || !same(f, fills(fill("a", "b", 1, 2, 3))) || e != api.OK {
		t.Fatal(first, f, e)
	}
	f, e = flight.Leave(f, 2)
	if !same(f, fills(fill("a", "b", 1, 3))) || e != api.OK {
		t.Fatal(f, e)
	}
	told, f, e := flight.Done(f, 1)
	if !slices.Equal(told, numbers(3)) || len(f) > 0 || e != api.OK {
		t.Fatal(told, f, e)
	}
}

func TestRightO1(t *testing.T) {
	for _, x := range []struct {
		name string
		f    []api.Fill
		want bool
	}{
		{"no fills, and no list", nil, true},
		{"no fills", fills(), true},
		{"one whose fields are all zero", fills(api.Fill{}), true},
		{"one that nobody waits for", fills(fill("a", "b", 1)), true},
		{"one that some wait for", fills(fill("a", "b", 1, 2, 3, 0, -1)), true},
		{"one of two texts that are the same", fills(fill("a", "a", 1)), true},
		{"many", fills(fill("a", "b", 1, 2, 3), fill("a", "c", 4), fill("d", "b", 5, 6), fill("e", "f", 7)), true},
		{"alike in Left alone", fills(fill("a", "b", 1), fill("a", "c", 2)), true},
		{"alike in Right alone", fills(fill("a", "c", 1), fill("b", "c", 2)), true},
		{"texts the other way round", fills(fill("a", "b", 1), fill("b", "a", 2)), true},
		{"alike when they stand side by side", fills(fill("ab", "c", 1), fill("a", "bc", 2), fill("abc", "", 3), fill("", "abc", 4)), true},
		{"alike with a sign between", fills(fill("a", "\x00b", 1), fill("a\x00", "b", 2)), true},
		{"the same texts", fills(fill("a", "b", 1), fill("a", "b", 2)), false},
		{"the same empty texts", fills(fill("", "", 1), fill("", "", 2)), false},
		{"the same fill twice", fills(fill("a", "b", 1), fill("a", "b", 1)), false},
		{"the same texts, with others between", fills(fill("a", "b", 1), fill("a", "c", 2), fill("b", "b", 3), fill("a", "b", 4)), false},
		{"two Bys", fills(fill("a", "b", 1), fill("a", "c", 1)), false},
		{"two Bys that are 0", fills(fill("a", "b", 0), fill("a", "c", 0)), false},
		{"two Bys, with others between", fills(fill("a", "b", 1), fill("a", "c", 2), fill("a", "d", 1)), false},
		{"a By that waits for its own fill", fills(fill("a", "b", 1, 1)), false},
		{"a By 0 that waits for its own fill", fills(fill("", "", 0, 0)), false},
		{"a By that waits for its own fill, behind others", fills(fill("a", "b", 1, 2, 3, 1)), false},
		{"a By that waits for a fill behind", fills(fill("a", "b", 1), fill("a", "c", 2, 1)), false},
		{"a By that waits for a fill ahead", fills(fill("a", "b", 1, 2), fill("a", "c", 2)), false},
		{"a number that waits twice", fills(fill("a", "b", 1, 2, 2)), false},
		{"a number that waits twice, with others between", fills(fill("a", "b", 1, 2, 3, 2)), false},
		{"a number that waits for two fills", fills(fill("a", "b", 1, 2), fill("a", "c", 3, 2)), false},
		{"a number that waits for the first fill and the last one", fills(fill("a", "b", 1, 2), fill("a", "c", 3), fill("a", "d", 4, 5, 2)), false},
	} {
		if got := flight.Right(x.f); got != x.want || wantRight(x.f) != x.want {
			t.Errorf("%s: %v, and by the words %v", x.name, got, wantRight(x.f))
		}
	}
}

// TestRightOfAlikeTextsO1 has fills that are alike in all but what matters.
func TestRightOfAlikeTextsO1(t *testing.T) {
	var f []api.Fill
	for i, p := range alikes() {
		f = append(f, fill(p.left, p.right, i))
	}
	if !flight.Right(f) {
		t.Error("fills of unlike texts are not right")
	}
	for i, x := range f {
		x.By = -1
		if flight.Right(slices.Insert(slices.Clone(f), i*7%len(f), x)) {
			t.Errorf("fills with %q, %q twice are right", x.Left, x.Right)
		}
		for j, y := range f {
			y.By = -1
			if got := flight.Right(fills(f[i], y)); got != (i != j) {
				t.Errorf("%v beside %v: %v", f[i], y, got)
			}
		}
	}
}

// TestRightOfFarNumbersO1 has far numbers as Bys, as those that wait for one fill, and for several.
func TestRightOfFarNumbersO1(t *testing.T) {
	for i, who := range far() {
		for j, other := range far() {
			for k, f := range [][]api.Fill{
				fills(fill("a", "b", who), fill("a", "c", other)),
				fills(fill("a", "b", who, other)),
				fills(fill("a", "b", who), fill("a", "c", 7, other)),
				fills(fill("a", "b", 7, who), fill("a", "c", other)),
				fills(fill("a", "b", 7, who, other)),
				fills(fill("a", "b", 7, who), fill("a", "c", 9, other)),
			} {
				if got := flight.Right(f); got != (i != j) {
					t.Errorf("%d and %d, as %d: %v", who, other, k, got)
				}
			}
		}
	}
}

// wrong is fills that are wrong in one thing alone, and in which one.
type wrong struct {
	rule string
	f    []api.Fill
}

// bases is fills that are right.
func bases() [][]api.Fill {
	var l [][]api.Fill
	for n := 1; n < 5; n++ {
		l = append(l, flown(n, func(int) int { return 0 }), flown(n, func(int) int { return 1 }), someWait(n), flown(n, func(i int) int { return 2 * (n - i) }))
	}
	return l
}

// wrongs is each base with one thing in it that may not be, at each place.
func wrongs() []wrong {
	var l []wrong
	add := func(rule string, base []api.Fill, spoil func(f []api.Fill)) {
		f := copied(base)
		spoil(f)
		l = append(l, wrong{rule, f})
	}
	for _, base := range bases() {
		for i, x := range base {
			for j := range base {
				if j == i {
					continue
				}
				add(twiceTexts, base, func(f []api.Fill) { f[j].Left, f[j].Right = x.Left, x.Right })
				add(twiceBy, base, func(f []api.Fill) { f[j].By = x.By })
			}
			for j, y := range base {
				for place := range len(y.Waiting) + 1 {
					rule := waitsOther
					if i == j {
						rule = waitsOwn
					}
					add(rule, base, func(f []api.Fill) { f[j].Waiting = slices.Insert(f[j].Waiting, place, x.By) })
					for _, who := range x.Waiting {
						rule := forTwo
						if i == j {
							rule = twiceForOne
						}
						add(rule, base, func(f []api.Fill) { f[j].Waiting = slices.Insert(f[j].Waiting, place, who) })
					}
				}
			}
		}
	}
	return l
}

// TestWrongInOneThingAloneO1O2 is that such fills are not right, and that each call tells ErrArg, and nothing else, whatever else it is called with.
func TestWrongInOneThingAloneO1O2(t *testing.T) {
	often := make(map[string]int)
	for _, w := range wrongs() {
		if names := broken(w.f); !slices.Equal(names, []string{w.rule}) {
			t.Fatalf("%s: %v is wrong in %v", w.rule, w.f, names)
		}
		often[w.rule]++
		if flight.Right(w.f) {
			t.Fatalf("%s: %v is right", w.rule, w.f)
		}
		for _, who := range append(everyone(w.f), 0, -1, 9, math.MinInt, math.MaxInt) {
			for _, p := range textsOf(w.f) {
				first, now, e := flight.Begin(w.f, p.left, p.right, who)
				if first || len(now) > 0 || e != api.ErrArg {
					t.Fatalf("%s: Begin(%v, %q, %d) = %v, %v, %d", w.rule, w.f, p, who, first, now, e)
				}
			}
			told, now, e := flight.Done(w.f, who)
			if len(told) > 0 || len(now) > 0 || e != api.ErrArg {
				t.Fatalf("%s: Done(%v, %d) = %v, %v, %d", w.rule, w.f, who, told, now, e)
			}
			now, e = flight.Leave(w.f, who)
			if len(now) > 0 || e != api.ErrArg {
				t.Fatalf("%s: Leave(%v, %d) = %v, %d", w.rule, w.f, who, now, e)
			}
		}
	}
	for _, rule := range []string{twiceTexts, twiceBy, waitsOwn, waitsOther, twiceForOne, forTwo} {
		if often[rule] < 50 {
			t.Errorf("only %d are wrong in %s", often[rule], rule)
		}
	}
}

// three is fills of which one has nobody who waits, one has one, and one has many.
func three() []api.Fill {
	return fills(fill("a", "b", 1), fill("a", "c", 2, 9), fill("d", "c", 3, 8, -5, 7))
}

func TestBeginO1(t *testing.T) {
	one, two, last := three()[0], three()[1], three()[2]
	for _, x := range []struct {
		name        string
		f           []api.Fill
		left, right string
		who         int
		first       bool
		want        []api.Fill
	}{
		{"the first one of all", nil, "a", "b", 4, true, fills(fill("a", "b", 4))},
		{"empty texts, by 0", fills(), "", "", 0, true, fills(fill("", "", 0))},
		{"the first fill's, for which nobody waits", three(), "a", "b", 4, false, fills(fill("a", "b", 1, 4), two, last)},
		{"of one between, for which one waits", three(), "a", "c", 4, false, fills(one, fill("a", "c", 2, 9, 4), last)},
		{"the last fill's, for which many wait", three(), "d", "c", 4, false, fills(one, two, fill("d", "c", 3, 8, -5, 7, 4))},
		{"nobody's", three(), "e", "f", 4, true, fills(one, two, last, fill("e", "f", 4))},
		{"a Left and a Right of two fills", three(), "d", "b", 4, true, fills(one, two, last, fill("d", "b", 4))},
		{"the other way round", three(), "b", "a", 4, true, fills(one, two, last, fill("b", "a", 4))},
		{"alike side by side", three(), "ab", "", 4, true, fills(one, two, last, fill("ab", "", 4))},
		{"empty texts", three(), "", "", 4, true, fills(one, two, last, fill("", "", 4))},
		{"waiting, by 0", three(), "a", "c", 0, false, fills(one, fill("a", "c", 2, 9, 0), last)},
		{"waiting, by the least number", three(), "a", "c", math.MinInt, false, fills(one, fill("a", "c", 2, 9, math.MinInt), last)},
		{"waiting, by the greatest number", three(), "a", "b", math.MaxInt, false, fills(fill("a", "b", 1, math.MaxInt), two, last)},
		{"finding out, by one below 0", three(), "e", "f", -1, true, fills(one, two, last, fill("e", "f", -1))},
		{"finding out, by the least number", three(), "e", "f", math.MinInt, true, fills(one, two, last, fill("e", "f", math.MinInt))},
		{"finding out, by the greatest number", three(), "e", "f", math.MaxInt, true, fills(one, two, last, fill("e", "f", math.MaxInt))},
	} {
		first, now, e := flight.Begin(x.f, x.left, x.right, x.who)
		if first != x.first || !same(now, x.want) || e != api.OK {
			t.Errorf("%s: %v, %v, %d", x.name, first, now, e)
		}
	}
}

// TestBeginByWhoIsThereO1 asks for the texts of the one's own fill, for those of others, and for nobody's.
func TestBeginByWhoIsThereO1(t *testing.T) {
	for _, f := range append(bases(), three(), fills(api.Fill{}), fills(fill("a", "b", math.MinInt, math.MaxInt, 0))) {
		for _, who := range everyone(f) {
			for _, p := range textsOf(f) {
				first, now, e := flight.Begin(f, p.left, p.right, who)
				if first || len(now) > 0 || e != api.ErrTwice {
					t.Fatalf("Begin(%v, %q, %d) = %v, %v, %d", f, p, who, first, now, e)
				}
			}
		}
	}
}

// TestBeginByManyO1 is that who begins to wait stands behind all that do, and a new fill behind all fills.
func TestBeginByManyO1(t *testing.T) {
	var f []api.Fill
	var want []api.Fill
	for i, who := range far() {
		p := pair{"left", string(rune('c' - i%3))}
		first, now, e := flight.Begin(f, p.left, p.right, who)
		if first != (i < 3) || e != api.OK {
			t.Fatalf("Begin(%v, %q, %d) = %v, %v, %d", f, p, who, first, now, e)
		}
		if first {
			want = append(want, fill(p.left, p.right, who))
		} else {
			want[i%3].Waiting = append(want[i%3].Waiting, who)
		}
		f = now
	}
	if !same(f, want) {
		t.Errorf("%v, not %v", f, want)
	}
}

func TestDoneO2(t *testing.T) {
	one, two, last := three()[0], three()[1], three()[2]
	for _, x := range []struct {
		name string
		f    []api.Fill
		who  int
		told []int
		want []api.Fill
	}{
		{"nobody waits", three(), 1, nil, fills(two, last)},
		{"one waits", three(), 2, numbers(9), fills(one, last)},
		{"many wait", three(), 3, numbers(8, -5, 7), fills(one, two)},
		{"the only fill", fills(last), 3, numbers(8, -5, 7), nil},
		{"the only fill, by 0", fills(api.Fill{}), 0, nil, nil},
		{"the least number, and 0 waits", fills(one, fill("x", "y", math.MinInt, 0)), math.MinInt, numbers(0), fills(one)},
		{"the greatest number, and the least one waits", fills(fill("x", "y", math.MaxInt, math.MinInt), one), math.MaxInt, numbers(math.MinInt), fills(one)},
	} {
		told, now, e := flight.Done(x.f, x.who)
		if !slices.Equal(told, x.told) || !same(now, x.want) || e != api.OK {
			t.Errorf("%s: %v, %v, %d", x.name, told, now, e)
		}
	}
}

// TestDoneByWhoIsNoByO2 has who waits alone, and who is nowhere.
func TestDoneByWhoIsNoByO2(t *testing.T) {
	for _, f := range append(bases(), nil, fills(), three(), fills(fill("a", "b", 5, 0))) {
		whos := numbers(0, -1, 77, math.MinInt, math.MaxInt)
		for _, x := range f {
			whos = append(whos, x.Waiting...)
		}
		for _, who := range whos {
			told, now, e := flight.Done(f, who)
			if len(told) > 0 || len(now) > 0 || e != api.ErrNone {
				t.Fatalf("Done(%v, %d) = %v, %v, %d", f, who, told, now, e)
			}
		}
	}
}

func TestLeaveO2(t *testing.T) {
	one, two, last := three()[0], three()[1], three()[2]
	for _, x := range []struct {
		name string
		f    []api.Fill
		who  int
		want []api.Fill
	}{
		{"the only one", three(), 9, fills(one, fill("a", "c", 2), last)},
		{"the first one", three(), 8, fills(one, two, fill("d", "c", 3, -5, 7))},
		{"one between", three(), -5, fills(one, two, fill("d", "c", 3, 8, 7))},
		{"the last one", three(), 7, fills(one, two, fill("d", "c", 3, 8, -5))},
		{"0, of the only fill", fills(fill("a", "b", 1, 0)), 0, fills(fill("a", "b", 1))},
		{"the least number, from the By 0", fills(fill("a", "b", 0, math.MinInt), two), math.MinInt, fills(fill("a", "b", 0), two)},
		{"the greatest number", fills(fill("a", "b", 0, 5, math.MaxInt), two), math.MaxInt, fills(fill("a", "b", 0, 5), two)},
	} {
		now, e := flight.Leave(x.f, x.who)
		if !same(now, x.want) || e != api.OK {
			t.Errorf("%s: %v, %d", x.name, now, e)
		}
	}
}

// TestLeaveByWhoWaitsForNoneO2 has who is a By, and who is nowhere.
func TestLeaveByWhoWaitsForNoneO2(t *testing.T) {
	for _, f := range append(bases(), nil, fills(), three(), fills(api.Fill{Waiting: numbers(5)})) {
		whos := numbers(0, -1, 77, math.MinInt, math.MaxInt)
		for _, x := range f {
			whos = append(whos, x.By)
		}
		for _, who := range whos {
			now, e := flight.Leave(f, who)
			if len(now) > 0 || e != api.ErrNone {
				t.Fatalf("Leave(%v, %d) = %v, %d", f, who, now, e)
			}
		}
	}
}

// TestAtEachPlaceO1O2 is all calls by all who are there, for all texts: all other fills stay as they are.
func TestAtEachPlaceO1O2(t *testing.T) {
	for _, f := range bases() {
		check(t, f, textsOf(f), append(everyone(f), far()...))
	}
}

// TestFarNumbersO1O2 has fills of which all numbers are far ones.
func TestFarNumbersO1O2(t *testing.T) {
	all := far()
	for first := range all {
		all := slices.Concat(all[first:], all[:first])
		f := fills(fill("a", "b", all[0]), fill("a", "c", all[1], all[2]), fill("", "", all[3], all[4:9]...), fill("ab", "", all[9], all[10:14]...))
		check(t, f, textsOf(f), append(all, 3, -3, math.MinInt+2, math.MaxInt-2))
	}
}

// TestAlikeTextsO1 begins for each texts of which others are there that are alike.
func TestAlikeTextsO1(t *testing.T) {
	for i, p := range alikes() {
		var f []api.Fill
		for j, other := range alikes() {
			if j != i {
				f = append(f, fill(other.left, other.right, j, -1-j))
			}
		}
		if first, _, e := flight.Begin(f, p.left, p.right, i); !first || e != api.OK {
			t.Errorf("%q is there with others", p)
		}
		check(t, f, alikes(), numbers(i, -1-i, 1000))
	}
}

// short is all rows of at most so many fills, each one of some.
func short(length int, some []api.Fill) [][]api.Fill {
	rows := [][]api.Fill{nil, {}}
	for begin := 1; length > 0; length-- {
		end := len(rows)
		for _, f := range rows[begin:end] {
			for _, x := range some {
				rows = append(rows, append(slices.Clone(f), x))
			}
		}
		begin = end
	}
	return rows
}

// TestAllShortFillsO1O2 holds all rows of up to two, and of up to three, odd fills against the chapter's words.
func TestAllShortFillsO1O2(t *testing.T) {
	some := []pair{{"", ""}, {"a", ""}, {"", "a"}}
	waiting := [][]int{nil, {0}, {1}, {2}, {0, 1}, {1, 2}, {2, 1}, {1, 1}}
	var odd, few []api.Fill
	for _, p := range some {
		for by := range 3 {
			for i, w := range waiting {
				odd = append(odd, fill(p.left, p.right, by, w...))
				if p.left == "" && (i < 4 || i == 6) {
					few = append(few, fill(p.left, p.right, by, w...))
				}
			}
		}
	}
	for _, f := range append(short(2, odd), short(3, few)...) {
		check(t, f, some, numbers(0, 1, 2, 3))
	}
}

// TestFillsOfChanceO1O2 has many fills, most of them right, and some of them wrong somewhere.
func TestFillsOfChanceO1O2(t *testing.T) {
	chance := rand.New(rand.NewSource(15))
	right := 0
	for range 1500 {
		whos, some := chance.Perm(60), alikes()
		chance.Shuffle(len(some), func(i, j int) { some[i], some[j] = some[j], some[i] })
		var f []api.Fill
		for i := range chance.Intn(9) {
			n := 1 + chance.Intn(5)
			f = append(f, fill(some[i].left, some[i].right, whos[0], whos[1:n]...))
			whos = whos[n:]
		}
		if len(f) > 0 && chance.Intn(4) == 0 {
			x := &f[chance.Intn(len(f))]
			x.By = chance.Intn(60)
			x.Waiting = append(slices.Clone(x.Waiting), chance.Intn(60))
		}
		if wantRight(f) {
			right++
		}
		check(t, f, some[:10], chance.Perm(62)[:20])
	}
	if right < 1000 || right > 1450 {
		t.Errorf("%d are right", right)
	}
}

// TestManyFillsO1O2 has so many fills, and so many that wait, that who goes through all of them for each one never ends.
func TestManyFillsO1O2(t *testing.T) {
	const n = 200000
	var f []api.Fill
	for i := range n {
		f = append(f, fill("left", string(rune(0x10000+i)), i))
	}
	f[n/2].Waiting = make([]int, n)
	for i := range n {
		f[n/2].Waiting[i] = -1 - i
	}
	if first, now, e := flight.Begin(f, "left", f[7].Right, n); first || len(now) != n || !slices.Equal(now[7].Waiting, numbers(n)) || e != api.OK {
		t.Error("Begin of what is there:", first, len(now), e)
	}
	if first, now, e := flight.Begin(f, "right", "left", n); !first || len(now) != n+1 || now[n].By != n || e != api.OK {
		t.Error("Begin of what is not there:", first, len(now), e)
	}
	if told, now, e := flight.Done(f, n/2); !slices.Equal(told, f[n/2].Waiting) || len(now) != n-1 || now[n/2].By != n/2+1 || e != api.OK {
		t.Error("Done:", len(told), len(now), e)
	}
	if now, e := flight.Leave(f, -n); len(now) != n || !slices.Equal(now[n/2].Waiting, f[n/2].Waiting[:n-1]) || e != api.OK {
		t.Error("Leave:", len(now), e)
	}
	f[n-1].By = -n
	if _, _, e := flight.Done(f, 0); flight.Right(f) || e != api.ErrArg {
		t.Error("a number that is there twice:", e)
	}
}
