package flight_test

import (
	"math"
	"slices"
	"testing"

	"collator/api"
	"collator/flight"
)

// pair is two texts that may be found out about.
type pair struct{ left, right string }

// fill is a fill that is written down in one line.
func fill(left, right string, by int, waiting ...int) api.Fill {
	return api.Fill{Left: left, Right: right, By: by, Waiting: waiting}
}

func fills(l ...api.Fill) []api.Fill { return l }

func numbers(l ...int) []int { return l }

// copied is fills that share no list with those that are handed in.
func copied(f []api.Fill) []api.Fill {
	var l []api.Fill
	for _, x := range f {
		x.Waiting = slices.Clone(x.Waiting)
		l = append(l, x)
	}
	return l
}

// same tells whether fills are the same, where a list that is nil is one without elements.
func same(f, g []api.Fill) bool {
	return slices.EqualFunc(f, g, func(x, y api.Fill) bool {
		return x.Left == y.Left && x.Right == y.Right && x.By == y.By && slices.Equal(x.Waiting, y.Waiting)
	})
}

// seat is where a number is there: in which fill, and whether as its By.
type seat struct {
	who, fill int
	by        bool
}

func seats(f []api.Fill) []seat {
	var l []seat
	for i, x := range f {
		l = append(l, seat{x.By, i, true})
		for _, who := range x.Waiting {
			l = append(l, seat{who, i, false})
		}
	}
	return l
}

// everyone is all numbers that are there.
func everyone(f []api.Fill) []int {
	var l []int
	for _, s := range seats(f) {
		l = append(l, s.who)
	}
	return l
}

// The things of which each one alone makes fills wrong.
const (
	twiceTexts  = "two fills of the same Left and Right"
	twiceBy     = "a number that is two Bys"
	waitsOwn    = "a By that waits for its own fill"
	waitsOther  = "a By that waits for another fill"
	twiceForOne = "a number that waits twice for one fill"
	forTwo      = "a number that waits for two fills"
)

// twice is which thing two seats of one number make wrong.
func twice(s, o seat) string {
	switch {
	case s.by && o.by:
		return twiceBy
	case (s.by || o.by) && s.fill == o.fill:
		return waitsOwn
	case s.by || o.by:
		return waitsOther
	case s.fill == o.fill:
		return twiceForOne
	}
	return forTwo
}

// broken is which things make fills wrong: each two are held against each other.
func broken(f []api.Fill) []string {
	var l []string
	for i := range f {
		for j := range i {
			if f[i].Left == f[j].Left && f[i].Right == f[j].Right {
				l = append(l, twiceTexts)
			}
		}
	}
	all := seats(f)
	for i := range all {
		for j := range i {
			if all[i].who == all[j].who {
				l = append(l, twice(all[i], all[j]))
			}
		}
	}
	slices.Sort(l)
	return slices.Compact(l)
}

// wantRight is the chapter's words of fills that are right.
func wantRight(f []api.Fill) bool { return len(broken(f)) == 0 }

// wantBegin is promise O1's words of Begin.
func wantBegin(f []api.Fill, p pair, who int) (bool, []api.Fill, api.Errno) {
	if !wantRight(f) {
		return false, nil, 1
	}
	if slices.Contains(everyone(f), who) {
		return false, nil, 4
	}
	f = copied(f)
	for i, x := range f {
		if x.Left == p.left && x.Right == p.right {
			f[i].Waiting = append(x.Waiting, who)
			return false, f, 0
		}
	}
	return true, append(f, fill(p.left, p.right, who)), 0
}

// wantDone is promise O2's words of Done.
func wantDone(f []api.Fill, who int) ([]int, []api.Fill, api.Errno) {
	if !wantRight(f) {
		return nil, nil, 1
	}
	f = copied(f)
	for i, x := range f {
		if x.By == who {
			return x.Waiting, slices.Concat(f[:i], f[i+1:]), 0
		}
	}
	return nil, nil, 10
}

// wantLeave is promise O2's words of Leave.
func wantLeave(f []api.Fill, who int) ([]api.Fill, api.Errno) {
	if !wantRight(f) {
		return nil, 1
	}
	f = copied(f)
	for i, x := range f {
		for j, n := range x.Waiting {
			if n == who {
				f[i].Waiting = slices.Concat(x.Waiting[:j], x.Waiting[j+1:])
				return f, 0
			}
		}
	}
	return nil, 10
}

// checkBegin holds Begin against the chapter's words, and what was handed in against what it was.
func checkBegin(t *testing.T, f []api.Fill, p pair, who int) {
	t.Helper()
	was := copied(f)
	first, now, e := flight.Begin(f, p.left, p.right, who)
	if wantFirst, wantNow, wantE := wantBegin(was, p, who); first != wantFirst || !same(now, wantNow) || e != wantE {
		t.Fatalf("Begin(%v, %q, %d) = %v, %v, %d, not %v, %v, %d", was, p, who, first, now, e, wantFirst, wantNow, wantE)
	}
	if !same(f, was) {
		t.Fatalf("Begin(%v, %q, %d) has written into it: %v", was, p, who, f)
	}
}

// checkDone holds Done against the chapter's words, and what was handed in against what it was.
func checkDone(t *testing.T, f []api.Fill, who int) {
	t.Helper()
	was := copied(f)
	told, now, e := flight.Done(f, who)
	if wantTold, wantNow, wantE := wantDone(was, who); !slices.Equal(told, wantTold) || !same(now, wantNow) || e != wantE {
		t.Fatalf("Done(%v, %d) = %v, %v, %d, not %v, %v, %d", was, who, told, now, e, wantTold, wantNow, wantE)
	}
	if !same(f, was) {
		t.Fatalf("Done(%v, %d) has written into it: %v", was, who, f)
	}
}

// checkLeave holds Leave against the chapter's words, and what was handed in against what it was.
func checkLeave(t *testing.T, f []api.Fill, who int) {
	t.Helper()
	was := copied(f)
	now, e := flight.Leave(f, who)
	if wantNow, wantE := wantLeave(was, who); !same(now, wantNow) || e != wantE {
		t.Fatalf("Leave(%v, %d) = %v, %d, not %v, %d", was, who, now, e, wantNow, wantE)
	}
	if !same(f, was) {
		t.Fatalf("Leave(%v, %d) has written into it: %v", was, who, f)
	}
}

// check holds all calls against the chapter's words, by all of these texts and numbers.
func check(t *testing.T, f []api.Fill, some []pair, whos []int) {
	t.Helper()
	if flight.Right(f) != wantRight(f) {
		t.Fatalf("Right(%v) = %v", f, flight.Right(f))
	}
	for _, who := range whos {
		for _, p := range some {
			checkBegin(t, f, p, who)
		}
		checkDone(t, f, who)
		checkLeave(t, f, who)
	}
}

// alikes is pairs of which no two are the same, but that are alike in one text, or when the texts stand side by side.
func alikes() []pair {
	return []pair{
		{"", ""}, {"a", ""}, {"", "a"}, {"a", "a"}, {"a", "b"}, {"b", "a"}, {"ab", ""}, {"", "ab"}, {"aa", ""}, {"", "aa"},
		{"a", "bc"}, {"ab", "c"}, {"abc", ""}, {"", "abc"}, {"a", "b\x00"}, {"a\x00", "b"}, {"a", "\x00b"}, {"a\x00b", ""},
		{"a,b", ""}, {"a", ",b"}, {"a,", "b"}, {"\n", ""}, {"", "\n"}, {"a\n", "b"}, {"a", "\nb"}, {"A", "b"}, {"a", "B"},
		{"\xff", ""}, {"", "\xff"}, {"\xfe", ""}, {"\xef\xbf\xbd", ""}, {"a ", "b"}, {"a", " b"}, {"a", "b "}, {" a", "b"},
	}
}

// far is numbers around 0, at both ends of what an int may be, and such as come to one number where bits are lost.
func far() []int {
	return []int{
		0, -1, 1, -2, 2, math.MinInt, math.MinInt + 1, math.MaxInt, math.MaxInt - 1,
		math.MinInt32, math.MaxInt32, math.MaxUint32, 1 << 32, -1 << 32, 1<<32 + 1, 1 << 16, 1 << 8, -1 << 8, 255, 64, 63,
	}
}

// flown is so many fills of unlike texts; for the i-th one as many wait as waits tells, and no number is there twice.
func flown(n int, waits func(i int) int) []api.Fill {
	var f []api.Fill
	for i := range n {
		x := fill("left "+string(rune('a'+i)), "right", 100*(i+1))
		for j := range waits(i) {
			// The later ones are less, so that who sorts them is found out.
			x.Waiting = append(x.Waiting, x.By+50-j)
		}
		f = append(f, x)
	}
	return f
}

// someWait is fills of which the first one has nobody who waits, the second one has one, and so on.
func someWait(n int) []api.Fill { return flown(n, func(i int) int { return i }) }

// textsOf is all texts of fills, and some that no fill has.
func textsOf(f []api.Fill) []pair {
	l := []pair{{"nobody's", "texts"}, {}}
	for _, x := range f {
		l = append(l, pair{x.Left, x.Right}, pair{x.Left, "another right"}, pair{"another left", x.Right}, pair{x.Right, x.Left})
	}
	return l
}
