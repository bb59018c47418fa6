package spread_test

import (
	"fmt"
	"math"
	"runtime"
	"slices"
	"strings"
	"sync"
	"sync/atomic"
	"testing"
	"time"

	"collator/api"
	"collator/spread"
)

// working is how many goroutines of the package there are, at one moment. (How many there are in all can't be told exactly while some come and go.)
func working() int {
	stacks := make([]byte, 1<<20)
	return strings.Count(string(stacks[:runtime.Stack(stacks, true)]), "created by collator/spread.")
}

// settled waits till no goroutine of the package is there any more, and fails if that is never so. One that has told that it is done is still there for a moment.
func settled(t *testing.T) {
	t.Helper()
	for range 2000 {
		if working() == 0 {
			return
		}
		time.Sleep(time.Millisecond)
	}
	t.Fatalf("%d goroutines are left", working())
}

// seen is how many goroutines of the package there were at most, while something was done.
func seen(do func()) int {
	var over atomic.Bool
	most, told := 0, make(chan bool)
	go func() {
		defer close(told)
		for !over.Load() {
			most = max(most, working())
		}
	}()
	do()
	over.Store(true)
	<-told
	return most
}

// TestHowManyWorkersR1R2 counts who works: so many as are asked for, 1 if they are fewer, and 16 if they are more.
func TestHowManyWorkersR1R2(t *testing.T) {
	// The counter must get its turn beside those that work, also where there is but one processor.
	defer runtime.GOMAXPROCS(runtime.GOMAXPROCS(8))
	l := heavy(40, 260)
	var a [][]string
	var long []string
	for _, x := range l {
		a = append(a, row(x.Left))
		long = append(long, lines(strings.Repeat(x.Left, 6)))
	}
	for workers, want := range map[int]int{math.MinInt: 1, -1: 1, 0: 1, 1: 1, 2: 2, 3: 3, 15: 15, 16: 16, 17: 16, 1000: 16, math.MaxInt: 16, 1 << 32: 16} {
		for what, do := range map[string]func(){
			"All":    func() { spread.All(workers, l) },
			"Scores": func() { spread.Scores(workers, a, a[:6]) },
			"Sums":   func() { spread.Sums(workers, 64, slices.Repeat(long, 30)...) },
		} {
			most := 0
			// The counter may not get its turn while all are there, so it has several.
			for tries := 0; tries < 100 && most < want; tries++ {
				settled(t)
				most = max(most, seen(do))
			}
			if most != want {
				t.Errorf("%s of %d workers: %d were there, not %d", what, workers, most, want)
			}
		}
	}
	settled(t)
}

// TestWhatIsKnownIsNotFoundOutAgainR1 counts how often memory is asked for: what tasks have in common is split and searched once, however many they are.
func TestWhatIsKnownIsNotFoundOutAgainR1(t *testing.T) {
	const lines = 300
	text := strings.Repeat("as it was\n", lines)
	for _, n := range []int{2, 50, 400} {
		l := slices.Repeat(list(task(text, text)), n)
		asked := testing.AllocsPerRun(3, func() { spread.All(1, l) })
		if most := float64(2*lines + 100 + 3*n); asked > most {
			t.Errorf("%d tasks of the same texts: memory was asked for %v times, not %v at most", n, asked, most)
		}
	}
}

// TestNothingIsLeftRunningR1R2 calls often, and looks whether anyone is there behind it.
func TestNothingIsLeftRunningR1R2(t *testing.T) {
	l := many(40)
	a := [][]string{row("ab"), row("b"), nil}
	for _, workers := range numbers() {
		for _, do := range []func(){
			func() { spread.All(workers, nil) },
			func() { spread.All(workers, l[:1]) },
			func() { spread.All(workers, l) },
			func() { spread.Scores(workers, nil, nil) },
			func() { spread.Scores(workers, a, nil) },
			func() { spread.Scores(workers, nil, a) },
			func() { spread.Scores(workers, a, a) },
			func() { spread.Sums(workers, 9) },
			func() { spread.Sums(workers, 9, "a") },
			func() { spread.Sums(workers, 9, texts()...) },
		} {
			do()
			settled(t)
		}
	}
}

// TestNobodyWorksBehindTheAnswerR1R2 writes into what was handed in and into what came out at once: one who still works would read or overwrite it.
func TestNobodyWorksBehindTheAnswerR1R2(t *testing.T) {
	for round := range 60 {
		workers := []int{1, 2, 16, 1000}[round%4]
		l, a := many(30), [][]string{row("ab"), row("bc"), row("c")}
		scripts, scores, keys := spread.All(workers, l), spread.Scores(workers, a, a), spread.Sums(workers, 64, a[0]...)
		overwrite(l, badTask)
		for _, x := range a {
			overwrite(x, "spoilt")
		}
		overwrite(scripts, nil)
		for _, of := range scores {
			overwrite(of, -99)
		}
		overwrite(keys, badKey)
		runtime.Gosched()
		if slices.ContainsFunc(scripts, func(s []api.Edit) bool { return s != nil }) || !slices.Equal(keys, []api.Key{badKey, badKey}) {
			t.Fatalf("%d workers: %+v, %v", workers, scripts, keys)
		}
		for _, of := range scores {
			if !slices.Equal(of, []int{-99, -99, -99}) {
				t.Fatalf("%d workers: %v", workers, scores)
			}
		}
	}
}

// TestManyCallsAtOnceR3 has many who call at once, of the same arguments and of parts of these: each is told what it is told alone.
func TestManyCallsAtOnceR3(t *testing.T) {
	l, words := append(pairs(texts()[:12]), many(60)...), texts()
	var a [][]string
	for i := range 12 {
		a = append(a, row("abc"[:i%4]+"xyz"[i/4:]))
	}
	all, scores, keys := wantAll(l), wantScores(a, a), wantSums(13, words...)
	var work sync.WaitGroup
	wrong := make(chan string, 100)
	note := func(right bool, what string, workers, from int) {
		if !right {
			wrong <- fmt.Sprint(what, " of ", workers, " workers from ", from, " on")
		}
	}
	for i := range 24 {
		work.Add(1)
		go func() {
			defer work.Done()
			for round := range 4 {
				workers, from := numbers()[(5*i+round)%len(numbers())], (i+round)%12
				note(same(spread.All(workers, l[from:]), all[from:]), "All", workers, from)
				note(sameRows(spread.Scores(workers, a[from:], a), scores[from:]), "Scores", workers, from)
				note(slices.Equal(spread.Sums(workers, 13, words[from:]...), keys[from:]), "Sums", workers, from)
			}
		}()
	}
	work.Wait()
	close(wrong)
	for what := range wrong {
		t.Error(what)
	}
	settled(t)
}

// TestOneAnothersAnswersAtOnceR3 has many who call at once of what another call has told, which nobody writes into.
func TestOneAnothersAnswersAtOnceR3(t *testing.T) {
	first := spread.All(16, pairs([]string{lines("abc"), lines("bcd"), "x\ny", ""}))
	var a [][]string
	for _, s := range first {
		for _, edit := range s {
			a = append(a, edit.Lines)
		}
	}
	want := wantScores(a, a)
	var words []string
	for _, l := range a {
		words = append(words, l...)
	}
	keys := wantSums(64, words...)
	told := make([]bool, 16)
	var work sync.WaitGroup
	for i := range told {
		work.Add(1)
		go func() {
			defer work.Done()
			told[i] = sameRows(spread.Scores(i, a, a), want) && slices.Equal(spread.Sums(i, 64, words...), keys)
		}()
	}
	work.Wait()
	if slices.Contains(told, false) {
		t.Errorf("%v", told)
	}
}
