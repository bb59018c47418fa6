package spread_test

import (
	"math/rand"
	"slices"
	"testing"

	"collator/api"
	"collator/spread"
)

// TestPartsOfTasksR3 parts lists of tasks at each place: of two parts it is what is told of each.
func TestPartsOfTasksR3(t *testing.T) {
	chance := rand.New(rand.NewSource(54))
	for i := range 60 {
		l := someTasks(chance, chance.Intn(40), 1+i%5)
		for at := range len(l) + 1 {
			first, second, all := chance.Intn(20), chance.Intn(20), chance.Intn(20)
			if !same(slices.Concat(spread.All(first, l[:at]), spread.All(second, l[at:])), spread.All(all, l)) {
				t.Fatalf("%+v, parted at %d, of %d, %d and %d workers", l, at, first, second, all)
			}
		}
	}
}

// TestPartsOfScoresR3 parts both lists, each at each place.
func TestPartsOfScoresR3(t *testing.T) {
	chance := rand.New(rand.NewSource(55))
	for range 25 {
		a, b := someRows(chance, chance.Intn(9)), someRows(chance, chance.Intn(9))
		all := spread.Scores(chance.Intn(20), a, b)
		for i := range len(a) + 1 {
			first, second := spread.Scores(chance.Intn(20), a[:i], b), spread.Scores(chance.Intn(20), a[i:], b)
			if !sameRows(slices.Concat(first, second), all) {
				t.Fatalf("%q and %q, parted at %d", a, b, i)
			}
			for j := range len(b) + 1 {
				left, right := spread.Scores(chance.Intn(20), a[:i], b[:j]), spread.Scores(chance.Intn(20), a[:i], b[j:])
				for k := range left {
					if !slices.Equal(slices.Concat(left[k], right[k]), all[k]) {
						t.Fatalf("%q and %q, parted at %d and %d", a, b, i, j)
					}
				}
			}
		}
	}
}

// TestPartsOfTextsR3 parts texts at each place.
func TestPartsOfTextsR3(t *testing.T) {
	chance := rand.New(rand.NewSource(56))
	for range 40 {
		l := make([]string, chance.Intn(40))
		for i := range l {
			l[i] = someText(chance, 20)
		}
		width := chance.Intn(70) - 3
		all := spread.Sums(chance.Intn(20), width, l...)
		for at := range len(l) + 1 {
			if !slices.Equal(slices.Concat(spread.Sums(chance.Intn(20), width, l[:at]...), spread.Sums(chance.Intn(20), width, l[at:]...)), all) {
				t.Fatalf("%q, parted at %d", l, at)
			}
		}
	}
}

// TestAllShortListsR3 has all lists of up to three tasks of a few texts, one by one against the same of one worker, and against the chapter's words.
func TestAllShortListsR3(t *testing.T) {
	of := pairs([]string{"", "a\n", "a\nb\n", "b"})
	lists := [][]api.Task{nil}
	for from, n := 0, 1; n <= 3; n++ {
		to := len(lists)
		for _, l := range lists[from:to] {
			for _, x := range of {
				lists = append(lists, append(slices.Clone(l), x))
			}
		}
		from = to
	}
	for i, l := range lists {
		checkAll(t, 1+i%17, l)
	}
	if len(lists) != 1+16+16*16+16*16*16 {
		t.Errorf("%d lists", len(lists))
	}
}

// TestListsOfChanceR3 has lists of chance, and of each some numbers of workers.
func TestListsOfChanceR3(t *testing.T) {
	chance := rand.New(rand.NewSource(57))
	for i := range 200 {
		l := someTasks(chance, chance.Intn(120), 1+i%7)
		a, b := someRows(chance, chance.Intn(20)), someRows(chance, chance.Intn(20))
		for range 4 {
			workers := chance.Intn(22) - 2
			checkAll(t, workers, l)
			checkScores(t, workers, a, b)
			var words []string
			for _, x := range l {
				words = append(words, x.Left, x.Right)
			}
			checkSums(t, workers, chance.Intn(70)-3, words...)
		}
	}
}

// TestAnotherOrderR3 turns lists: each task's script goes where the task goes.
func TestAnotherOrderR3(t *testing.T) {
	chance := rand.New(rand.NewSource(58))
	for i := range 100 {
		l := someTasks(chance, 1+chance.Intn(60), 1+i%5)
		all := spread.All(16, l)
		order := chance.Perm(len(l))
		turned := make([]api.Task, len(l))
		for j, place := range order {
			turned[j] = l[place]
		}
		for j, s := range spread.All(7, turned) {
			if !sameScript(s, all[order[j]]) {
				t.Fatalf("%+v at %d: %+v, not %+v", turned, j, s, all[order[j]])
			}
		}
	}
}
