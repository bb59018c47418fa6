package patch_test

import (
	"math/rand"
	"slices"
	"testing"

	"collator/api"
	"collator/compare"
	"collator/patch"
	"collator/trees"
)

// wide is limits that are no bound for ordinary trees.
var wide = api.Limits{Depth: 8, Size: 10000, Count: 1000}

// checkTheorem holds what Compare tells of two trees against promise K2, whatever K1 says; it tells how many entries there are of each Op.
func checkTheorem(t *testing.T, a, b []api.Item, threshold int) (ops [6]int) {
	t.Helper()
	l, fault := compare.Compare(a, b, wide, threshold)
	if fault != (api.Fault{}) || !patch.Right(l) {
		t.Fatalf("Compare of %+v and %+v: %+v %v", a, b, l, fault)
	}
	want := trees.Sort(b)
	if got, code := patch.Apply(a, l); code != api.OK || !slices.Equal(got, want) {
		t.Fatalf("%+v, done to %+v: %+v %v, not %+v", l, a, got, code, want)
	}
	for i, e := range l {
		ops[e.Op]++
		fewer := slices.Delete(slices.Clone(l), i, i+1)
		if got, code := patch.Apply(a, fewer); code != api.OK || slices.Equal(got, want) {
			t.Fatalf("%+v, without %+v, done to %+v: %+v %v", l, e, a, got, code)
		}
	}
	check(t, a, l)
	return ops
}

// kinds is items of all kinds at one path.
func kinds(path string) []api.Item {
	return of(dir(path), file(path, ""), file(path, "x"), file(path, "xy"), text(path, "x\ny"), link(path, ""), link(path, "x\n"))
}

func TestAllSmallTreesK2(t *testing.T) {
	list := small(kinds("p"), kinds("q"))
	for _, a := range list {
		for _, b := range list {
			for _, threshold := range []int{-1, 67, 100, 101} {
				checkTheorem(t, a, b, threshold)
			}
		}
	}
}

func TestAllSmallTreesOfThreePathsK2(t *testing.T) {
	list := small(
		of(dir("d")),
		of(file("d!", "x"), file("d!", "xz"), link("d!", "x\n")),
		of(file("e", "x"), file("e", "y"), dir("e")),
	)
	for _, tree := range slices.Clone(list) {
		if slices.Contains(tree, dir("d")) {
			list = append(list, append(slices.Clone(tree), file("d/f", "x")))
		}
	}
	for _, a := range list {
		for _, b := range list {
			checkTheorem(t, a, b, 1)
			checkTheorem(t, a, b, 100)
		}
	}
}

// grow adds some items in a dir to a tree, and to these dirs some more.
func grow(chance *rand.Rand, tree []api.Item, within string, letters int) []api.Item {
	for _, name := range []string{"a", "a!", "b", "b!", "c", "é"} {
		path := within + name
		data := make([]byte, chance.Intn(6))
		for i := range data {
			data[i] = byte('a' + chance.Intn(letters))
		}
		switch chance.Intn(10) {
		case 0, 1:
			tree = append(tree, dir(path))
			if len(within) < 6 {
				tree = grow(chance, tree, path+"/", letters)
			}
		case 2, 3, 4:
			tree = append(tree, file(path, string(data)))
		case 5:
			tree = append(tree, text(path, lines(string(data))+"end"))
		case 6:
			tree = append(tree, link(path, string(data)))
		}
	}
	return tree
}

func TestSomeTreesK2(t *testing.T) {
	chance := rand.New(rand.NewSource(3))
	var all [6]int
	for i := range 1000 {
		letters := 1 + i%6
		a, b := grow(chance, nil, "", letters), grow(chance, nil, "", letters)
		for op, n := range checkTheorem(t, shuffled(chance, a), shuffled(chance, b), chance.Intn(112)-5) {
			all[op] += n
		}
	}
	for _, n := range all[1:] {
		if n < 300 {
			t.Errorf("too few entries of an Op: %v", all)
		}
	}
}

func TestATreeAndItselfK2(t *testing.T) {
	chance := rand.New(rand.NewSource(4))
	for range 300 {
		tree := grow(chance, nil, "", 3)
		if ops := checkTheorem(t, tree, shuffled(chance, tree), 50); ops != [6]int{} {
			t.Errorf("%+v and itself have entries: %v", tree, ops)
		}
	}
}

// TestThereAndBackK2 does entries to a tree, and those of the way back to what they have made.
func TestThereAndBackK2(t *testing.T) {
	chance := rand.New(rand.NewSource(5))
	for range 300 {
		a, b := grow(chance, nil, "", 2), grow(chance, nil, "", 2)
		there, _ := compare.Compare(a, b, wide, 50)
		back, _ := compare.Compare(b, a, wide, 50)
		made, code := patch.Apply(a, there)
		again, code2 := patch.Apply(made, back)
		if code != api.OK || code2 != api.OK || !slices.Equal(again, trees.Sort(a)) {
			t.Fatalf("%+v, by %+v and %+v: %+v %v %v", a, there, back, again, code, code2)
		}
	}
}
