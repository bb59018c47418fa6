package report_test

import (
	"slices"
	"strings"
	"testing"
	"unsafe"

	"collator/api"
	"collator/report"
)

// lent is a text in memory that its owner can write into.
func lent(s string) (string, func()) {
	memory := []byte(s)
	return unsafe.String(unsafe.SliceData(memory), len(memory)), func() {
		for i := range memory {
			memory[i] = '#'
		}
	}
}

// roomy is entries with room behind all their lists, and something written in it.
func roomy() []api.Entry {
	lines := append(make([]string, 0, 5), "x\n", "y", "behind", "behind")[:2]
	edits := append(make([]api.Edit, 0, 6), keep(1), cut(1), add(lines...), keep(7), cut(7))[:3]
	edits[2].Lines = lines
	none := append(make([]api.Edit, 0, 3), keep(5))[:0]
	l := append(make([]api.Entry, 0, 7), added("a", 2, "x"), modified("b", edits...), renamed("q", "c", 60, edits...), deleted("d", 1), added("behind", 1, ""))[:4]
	l[0].Script = none
	return l
}

// whole is a row with what stands behind its lengths, as text.
func whole(l []api.Entry) string {
	l = slices.Clone(l[:cap(l)])
	for i := range l {
		l[i].Script = slices.Clone(l[i].Script[:cap(l[i].Script)])
		for j := range l[i].Script {
			lines := l[i].Script[j].Lines
			l[i].Script[j].Lines = lines[:cap(lines)]
		}
	}
	return row(l)
}

func TestWhatIsHandedInIsAsItWasL1L2(t *testing.T) {
	l := roomy()
	was := whole(l)
	s, code := report.Encode(l)
	if want, _ := wantEncode(l); s != want || code != api.OK {
		t.Errorf("Encode = %q, %d", s, code)
	}
	if counts := report.Counts(l); counts != [6]int{0, 1, 1, 1, 0, 1} {
		t.Errorf("Counts = %v", counts)
	}
	wrong := append(l, added("", 1, ""))
	wasWrong := whole(wrong)
	if s, code := report.Encode(wrong); s != "" || code != api.ErrArg {
		t.Errorf("Encode = %q, %d", s, code)
	}
	report.Counts(wrong)
	if whole(wrong) != wasWrong {
		t.Error("entries that may not be are not as they were")
	}
	l = roomy()
	report.Encode(l)
	report.Counts(l)
	if whole(l) != was {
		t.Errorf("entries are not as they were:\n%s", whole(l))
	}
}

// TestNothingIsKeptL1 writes into what was handed in, when the answer is there.
func TestNothingIsKeptL1(t *testing.T) {
	bytes, spoil := lent(wantOne(ordinary()[0]) + wantOne(ordinary()[2]) + wantOne(ordinary()[4]))
	want := told(ordinary()[0], ordinary()[2], ordinary()[4])
	l, code := report.Decode(bytes)
	spoil()
	if code != api.OK || !same(l, want) {
		t.Errorf("Decode keeps what was handed in: %+v", l)
	}
	var spoils []func()
	lend := func(s string) string {
		text, spoil := lent(s)
		spoils = append(spoils, spoil)
		return text
	}
	m := told(added(lend("a"), 2, lend(strings.Repeat("x", 1000))), renamed(lend("q"), lend("b"), 60, add(lend("y"))))
	told, _ := wantEncode(m)
	told = strings.Clone(told)
	s, code := report.Encode(m)
	for _, spoil := range spoils {
		spoil()
	}
	if s != told || code != api.OK {
		t.Errorf("Encode keeps what was handed in: %q", s)
	}
}

// texted is all texts of entries.
func texted(l []api.Entry) []string {
	var all []string
	for _, e := range l {
		all = append(all, e.Path, e.From, e.Data)
		for _, edit := range e.Script {
			all = append(all, edit.Lines...)
		}
	}
	return slices.DeleteFunc(all, func(s string) bool { return s == "" })
}

// meet tells whether two texts have a byte of memory in common.
func meet(a, b string) bool {
	p, q := uintptr(unsafe.Pointer(unsafe.StringData(a))), uintptr(unsafe.Pointer(unsafe.StringData(b)))
	return a != "" && b != "" && p < q+uintptr(len(b)) && q < p+uintptr(len(a))
}

func TestTextsAreNobodyElsesMemoryL1(t *testing.T) {
	s, _ := wantEncode(ordinary())
	l, _ := report.Decode(s)
	other, _ := report.Decode(s)
	all := texted(l)
	for i, text := range all {
		if meet(text, s) {
			t.Errorf("%q is what was handed in", text)
		}
		for _, second := range append(texted(other), all[:i]...) {
			if meet(text, second) {
				t.Errorf("%q is another text, too", text)
			}
		}
	}
	one, _ := report.Encode(l)
	two, _ := report.Encode(l)
	if meet(one, two) {
		t.Error("two answers of Encode are one text")
	}
	for _, text := range all {
		if meet(one, text) {
			t.Errorf("Encode tells %q itself", text)
		}
	}
}

// spoilLists writes into all lists of entries, and into their spare room.
func spoilLists(l []api.Entry) {
	for _, e := range l {
		for _, edit := range e.Script {
			lines := edit.Lines[:cap(edit.Lines)]
			for i := range lines {
				lines[i] = "spoilt"
			}
		}
		edits := e.Script[:cap(e.Script)]
		for i := range edits {
			edits[i] = api.Edit{Op: 9, N: 9, Lines: []string{"spoilt"}}
		}
	}
	l = l[:cap(l)]
	for i := range l {
		l[i] = api.Entry{Op: 9, Path: "spoilt"}
	}
}

func TestListsAreNobodyElsesMemoryL1(t *testing.T) {
	s, _ := wantEncode(ordinary())
	l, _ := report.Decode(s)
	other, _ := report.Decode(s)
	spoilLists(l)
	if again, code := report.Decode(s); code != api.OK || !same(again, ordinary()) || !same(other, ordinary()) {
		t.Errorf("an answer is changed by what was written into another one: %+v, %+v", other, again)
	}
	for i := range other {
		fresh, _ := report.Decode(s)
		spoilLists(fresh[i : i+1 : i+1])
		for j, e := range fresh {
			if j != i && !same(told(e), ordinary()[j:j+1]) {
				t.Errorf("entry %d is changed by what was written into entry %d: %+v", j, i, e)
			}
		}
	}
	grown := told(ordinary()[2], renamed("q", "f", 60, add("x"), keep(1), cut(2), add("y", "z")))
	bytes, _ := wantEncode(grown)
	fresh, _ := report.Decode(bytes)
	for i := range fresh {
		for j := range fresh[i].Script {
			_ = append(fresh[i].Script[j].Lines, "more")
		}
		_ = append(fresh[i].Script, keep(5))
	}
	if _ = append(fresh, added("z", 1, "")); !same(fresh, grown) {
		t.Errorf("a list that has grown has written into another one: %+v", fresh)
	}
}

func TestTheSameTwiceL1L2(t *testing.T) {
	for _, l := range append(apart(), ordinary(), nil, told(api.Entry{Op: 3})) {
		s, code := report.Encode(l)
		again, code2 := report.Encode(l)
		if s != again || code != code2 || report.Counts(l) != report.Counts(l) {
			t.Errorf("%+v: %q, %d, then %q, %d", l, s, code, again, code2)
		}
		for _, bytes := range []string{s, s + "x", s + s} {
			m, code := report.Decode(bytes)
			n, code2 := report.Decode(bytes)
			if !same(m, n) || code != code2 {
				t.Errorf("%q: %+v, %d, then %+v, %d", bytes, m, code, n, code2)
			}
		}
	}
}
