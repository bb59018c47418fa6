package flight_test

import (
	"slices"
	"testing"
	"unsafe"

	"collator/api"
	"collator/flight"
)

// lent is a text in memory that its owner can write into.
func lent(s string) (string, func()) {
	memory := []byte(s)
	return unsafe.String(unsafe.SliceData(memory), len(memory)), func() {
		for i := range memory {
			memory[i] = '#'
		}
	}
}

// bad is what is written into lists that others own.
func bad() api.Fill { return fill("spoilt", "spoilt", -99, -99, -98) }

// spoilNumbers writes into a list, spare room too.
func spoilNumbers(l []int) {
	l = l[:cap(l)]
	for i := range l {
		l[i] = -77
	}
}

// spoilLists writes into all lists of fills, spare room too.
func spoilLists(f []api.Fill) {
	for _, x := range f {
		spoilNumbers(x.Waiting)
	}
	f = f[:cap(f)]
	for i := range f {
		f[i] = bad()
	}
}

// grow appends to each list of fills.
func grow(f []api.Fill) {
	for _, x := range f {
		_ = append(x.Waiting, -77, -77, -77)
	}
	_ = append(f, bad(), bad())
}

// lentFills is a copy of fills whose texts and lists their owner can write into.
func lentFills(f []api.Fill) ([]api.Fill, func()) {
	f = copied(f)
	var spoils []func()
	for i := range f {
		for _, text := range []*string{&f[i].Left, &f[i].Right} {
			mine, spoil := lent(*text)
			*text = mine
			spoils = append(spoils, spoil)
		}
	}
	return f, func() {
		for _, spoil := range spoils {
			spoil()
		}
		spoilLists(f)
	}
}

// roomy is a copy of fills with something written in the room behind the length of each list.
func roomy(f []api.Fill, behind int) []api.Fill {
	l := make([]api.Fill, len(f)+behind)
	for i := range l {
		l[i] = bad()
		if i < len(f) {
			l[i] = f[i]
			l[i].Waiting = append(slices.Clone(f[i].Waiting), []int{-97, -96, -95}[:behind]...)[:len(f[i].Waiting)]
		}
	}
	return l[:len(f)]
}

// whole is a copy of fills' lists to the ends of their memory.
func whole(f []api.Fill) []api.Fill {
	var all []api.Fill
	for _, x := range f[:cap(f)] {
		x.Waiting = slices.Clone(x.Waiting[:cap(x.Waiting)])
		all = append(all, x)
	}
	return all
}

// several is fills of several kinds, right ones and such as are not right.
func several() [][]api.Fill {
	l := append(bases(), nil, fills(), fills(api.Fill{}), three())
	for _, spoil := range []func(f []api.Fill){
		func(f []api.Fill) { f[2].Left, f[2].Right = f[0].Left, f[0].Right },
		func(f []api.Fill) { f[1].By = f[2].By },
		func(f []api.Fill) { f[2].Waiting[1] = f[2].By },
		func(f []api.Fill) { f[2].Waiting[1] = f[0].By },
		func(f []api.Fill) { f[2].Waiting[1] = f[2].Waiting[0] },
		func(f []api.Fill) { f[2].Waiting[1] = f[1].Waiting[0] },
	} {
		f := three()
		spoil(f)
		l = append(l, f)
	}
	return l
}

// asked is the numbers that are asked for: all that are there, and some that are nowhere.
func asked(f []api.Fill) []int { return append(everyone(f), 0, 5, -1) }

func TestWhatIsHandedInIsAsItWasO1O2(t *testing.T) {
	for i, base := range several() {
		for behind := range 4 {
			f := roomy(base, behind)
			was := whole(f)
			asIs := func(what string) {
				t.Helper()
				if !same(whole(f), was) {
					t.Fatalf("%s of fills %d, %d behind: %v", what, i, behind, whole(f))
				}
			}
			flight.Right(f)
			asIs("Right")
			for _, who := range asked(f) {
				for _, p := range textsOf(f) {
					flight.Begin(f, p.left, p.right, who)
					asIs("Begin")
				}
				flight.Done(f, who)
				asIs("Done")
				flight.Leave(f, who)
				asIs("Leave")
			}
		}
	}
}

// TestNothingIsKeptO1O2 writes into what was handed in, when the answer is there.
func TestNothingIsKeptO1O2(t *testing.T) {
	for i, base := range several() {
		for _, who := range asked(base) {
			for _, p := range textsOf(base) {
				f, spoil := lentFills(base)
				left, spoilLeft := lent(p.left)
				right, spoilRight := lent(p.right)
				first, now, e := flight.Begin(f, left, right, who)
				spoil()
				spoilLeft()
				spoilRight()
				if wantFirst, wantNow, wantE := wantBegin(base, p, who); first != wantFirst || !same(now, wantNow) || e != wantE {
					t.Fatalf("Begin of %q by %d, of fills %d, keeps what was handed in: %v, %v, %d", p, who, i, first, now, e)
				}
			}
			f, spoil := lentFills(base)
			told, done, doneE := flight.Done(f, who)
			left, leftE := flight.Leave(f, who)
			spoil()
			if wantTold, wantDone, wantE := wantDone(base, who); !slices.Equal(told, wantTold) || !same(done, wantDone) || doneE != wantE {
				t.Fatalf("Done of %d, of fills %d, keeps what was handed in: %v, %v, %d", who, i, told, done, doneE)
			}
			if wantLeft, wantE := wantLeave(base, who); !same(left, wantLeft) || leftE != wantE {
				t.Fatalf("Leave of %d, of fills %d, keeps what was handed in: %v, %d", who, i, left, leftE)
			}
		}
	}
}

// texts is all texts of fills.
func texts(f []api.Fill) []string {
	var all []string
	for _, x := range f {
		all = append(all, x.Left, x.Right)
	}
	return all
}

// meet tells whether two texts have a byte of memory in common.
func meet(a, b string) bool {
	p, q := uintptr(unsafe.Pointer(unsafe.StringData(a))), uintptr(unsafe.Pointer(unsafe.StringData(b)))
	return a != "" && b != "" && p < q+uintptr(len(b)) && q < p+uintptr(len(a))
}

// apart fails if a text of an answer has memory in common with another one of it, or with one that was handed in.
func apart(t *testing.T, what string, answer, given []string) {
	t.Helper()
	for i, text := range answer {
		for _, other := range slices.Concat(given, answer[:i]) {
			if meet(text, other) {
				t.Fatalf("%s: %q is %q, too", what, text, other)
			}
		}
	}
}

func TestTextsAreNobodyElsesMemoryO1O2(t *testing.T) {
	for _, f := range several() {
		for _, who := range asked(f) {
			for _, p := range textsOf(f) {
				_, now, _ := flight.Begin(f, p.left, p.right, who)
				apart(t, "Begin", texts(now), append(texts(f), p.left, p.right))
			}
			_, now, _ := flight.Done(f, who)
			apart(t, "Done", texts(now), texts(f))
			now, _ = flight.Leave(f, who)
			apart(t, "Leave", texts(now), texts(f))
		}
	}
	// One text that is handed in twice comes out as two.
	text := "the same text"
	_, f, _ := flight.Begin(nil, text, text, 1)
	apart(t, "Begin of one text", texts(f), []string{text})
}

// TestListsAreNobodyElsesMemoryO1O2 grows the fills that came out, and writes into them, and looks at all others.
func TestListsAreNobodyElsesMemoryO1O2(t *testing.T) {
	for i, base := range several() {
		for _, who := range asked(base) {
			for _, p := range textsOf(base) {
				_, want, _ := wantBegin(base, p, who)
				looked(t, i, base, want, func(f []api.Fill) []api.Fill {
					_, now, _ := flight.Begin(f, p.left, p.right, who)
					return now
				})
			}
			_, wantDone, _ := wantDone(base, who)
			looked(t, i, base, wantDone, func(f []api.Fill) []api.Fill {
				_, now, _ := flight.Done(f, who)
				return now
			})
			wantLeft, _ := wantLeave(base, who)
			looked(t, i, base, wantLeft, func(f []api.Fill) []api.Fill {
				now, _ := flight.Leave(f, who)
				return now
			})
		}
	}
}

// looked calls twice, spoils the one answer, and looks at the other one, and at what was handed in.
func looked(t *testing.T, i int, base, want []api.Fill, call func(f []api.Fill) []api.Fill) {
	t.Helper()
	f := roomy(base, 2)
	was := whole(f)
	one, two := call(f), call(f)
	if grow(one); !same(one, want) {
		t.Fatalf("fills %d: one list has grown into another one: %v", i, one)
	}
	if spoilLists(one); !same(two, want) {
		t.Fatalf("fills %d: what was written into one answer is in another one: %v", i, two)
	}
	if !same(whole(f), was) {
		t.Fatalf("fills %d: what was written into an answer is in what was handed in: %v", i, f)
	}
}

// TestEachListIsItsOwnO1O2 writes into one list of an answer, and looks at its others.
func TestEachListIsItsOwnO1O2(t *testing.T) {
	base := someWait(5)
	for i := range 5 {
		_, begun, _ := flight.Begin(base, base[2].Left, base[2].Right, 5)
		_, more, _ := flight.Begin(base, "never", "there", 5)
		_, done, _ := flight.Done(append(fills(fill("x", "y", 7, 8, 9)), base...), 7)
		left, _ := flight.Leave(base, base[3].Waiting[1])
		for _, f := range [][]api.Fill{begun, more, done, left} {
			was := copied(f)
			_ = append(f[i].Waiting, -77, -77, -77)
			spoilNumbers(f[i].Waiting)
			was[i].Waiting, f[i].Waiting = nil, nil
			if !same(f, was) {
				t.Fatalf("what was written into list %d is elsewhere: %v, not %v", i, f, was)
			}
		}
	}
}

// TestWhoIsToldIsItsOwnO2 writes into who is told, and grows it, and looks at all that is left; and the other way round.
func TestWhoIsToldIsItsOwnO2(t *testing.T) {
	base := flown(4, func(i int) int { return i + 1 })
	for i := range 4 {
		f := roomy(base, 2)
		was := whole(f)
		told, now, _ := flight.Done(f, f[i].By)
		again, other, _ := flight.Done(f, f[i].By)
		wantTold, wantNow, _ := wantDone(base, base[i].By)
		_ = append(told, -77, -77, -77)
		spoilNumbers(told)
		if !same(now, wantNow) || !same(other, wantNow) || !slices.Equal(again, wantTold) || !same(whole(f), was) {
			t.Errorf("what was written into who is told is elsewhere: %v, %v, %v, %v", now, other, again, f)
		}
		grow(other)
		spoilLists(other)
		if !slices.Equal(again, wantTold) || !same(whole(f), was) {
			t.Errorf("what was written into what is left is elsewhere: %v, %v", again, f)
		}
		told, _, _ = flight.Done(f, f[i].By)
		if spoilLists(f); !slices.Equal(told, wantTold) {
			t.Errorf("what was written into what was handed in is in who is told: %v", told)
		}
	}
}

func TestTheSameTwiceO1O2(t *testing.T) {
	for i, f := range several() {
		if flight.Right(f) != flight.Right(f) {
			t.Fatalf("fills %d: Right tells something else", i)
		}
		for _, who := range asked(f) {
			for _, p := range textsOf(f) {
				first, now, e := flight.Begin(f, p.left, p.right, who)
				first2, now2, e2 := flight.Begin(f, p.left, p.right, who)
				if first != first2 || !same(now, now2) || e != e2 {
					t.Fatalf("fills %d, %q, %d: Begin tells something else", i, p, who)
				}
			}
			told, now, e := flight.Done(f, who)
			told2, now2, e2 := flight.Done(f, who)
			if !slices.Equal(told, told2) || !same(now, now2) || e != e2 {
				t.Fatalf("fills %d, %d: Done tells something else", i, who)
			}
			now, e = flight.Leave(f, who)
			now2, e2 = flight.Leave(f, who)
			if !same(now, now2) || e != e2 {
				t.Fatalf("fills %d, %d: Leave tells something else", i, who)
			}
		}
	}
}
