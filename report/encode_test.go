package report_test

import (
	"fmt"
	"math"
	"slices"
	"strings"
	"testing"

	"collator/api"
	"collator/report"
)

func TestBytesL1(t *testing.T) {
	for _, x := range []struct {
		l    []api.Entry
		want string
	}{
		{nil, ""},
		{told(), ""},
		{told(added("a", 1, "")), "1;1:a0:0;1;0:0;0:"},
		{told(added("a", 2, "x;\n")), "1;1:a0:0;2;3:x;\n0;0:"},
		{told(added("a/b", 3, "12:3")), "1;3:a/b0:0;3;4:12:30;0:"},
		{told(added("", 1, "")), "1;0:0:0;1;0:0;0:"},
		{told(deleted("d", 3)), "2;1:d0:3;0;0:0;0:"},
		{told(deleted("d", 1)), "2;1:d0:1;0;0:0;0:"},
		{told(modified("e")), "3;1:e0:2;2;0:0;0:"},
		{told(modified("e", keep(10))), "3;1:e0:2;2;0:0;4:=10;"},
		{told(modified("e", cut(1), add("", "z\n"))), "3;1:e0:2;2;0:0;12:-1;+2;0:2:z\n"},
		{told(changed("c", 1, 3, "t")), "4;1:c0:1;3;1:t0;0:"},
		{told(changed("c", 3, 3, "")), "4;1:c0:3;3;0:0;0:"},
		{told(renamed("q", "b:", 50, cut(1), add("z\n"))), "5;2:b:1:q2;2;0:50;10:-1;+1;2:z\n"},
		{told(renamed("0123456789", "b", 100)), "5;1:b10:01234567892;2;0:100;0:"},
		{told(renamed("", "b", 1, keep(1))), "5;1:b0:2;2;0:1;3:=1;"},
		{told(added("a", 1, ""), added("b", 1, "")), "1;1:a0:0;1;0:0;0:1;1:b0:0;1;0:0;0:"},
		{told(deleted("a", 2), renamed("c", "b", 9, keep(1))), "2;1:a0:2;0;0:0;0:5;1:b1:c2;2;0:9;3:=1;"},
	} {
		if s, code := report.Encode(x.l); s != x.want || code != api.OK {
			t.Errorf("Encode(%+v) = %q, %d, not %q", x.l, s, code, x.want)
		}
		if l, code := report.Decode(x.want); !same(l, x.l) || code != api.OK {
			t.Errorf("Decode(%q) = %+v, %d, not %+v", x.want, l, code, x.l)
		}
		checkEncode(t, x.l)
	}
}

func TestBytesOfEachOpL1(t *testing.T) {
	l := ordinary()
	for i := range l {
		for j := i; j <= len(l); j++ {
			checkEncode(t, l[i:j])
		}
	}
	for kind := 1; kind <= 3; kind++ {
		checkEncode(t, told(added("p", kind, "x")))
		checkEncode(t, told(deleted("p", kind)))
		for old := 1; old <= 3; old++ {
			checkEncode(t, told(changed("p", old, kind, "x")))
		}
	}
	for score := 1; score <= 100; score++ {
		checkEncode(t, told(renamed("q", "p", score)))
	}
}

func TestBytesOfTextsL1(t *testing.T) {
	for _, text := range texts() {
		checkEncode(t, told(added(text, 2, "")))
		checkEncode(t, told(added("p", 3, text)))
		checkEncode(t, told(changed(text, 1, 2, text)))
		checkEncode(t, told(deleted(text, 1)))
		checkEncode(t, told(modified(text, add(text, text))))
		checkEncode(t, told(renamed(text, text+"p", 10, cut(1), add(text))))
		checkEncode(t, told(renamed("q"+text, text, 10)))
	}
	for n := range 130 {
		text := strings.Repeat(";", n)
		checkEncode(t, told(added(text, 2, text)))
		checkEncode(t, told(renamed("r"+text, text, 10, add(text))))
	}
	for b := range 256 {
		text := string([]byte{byte(b)})
		checkEncode(t, told(added(text, 2, text)))
		checkEncode(t, told(renamed(text+"q", text, 10, add(text))))
	}
}

func TestBytesOfScriptsL1(t *testing.T) {
	for _, edits := range [][]api.Edit{
		nil, by(), by(keep(1)), by(keep(9)), by(keep(10)), by(keep(1 << 20)), by(cut(1)), by(cut(1 << 20)), by(add("")), by(add("", "", "")), by(add("0123456789")),
		by(keep(1), cut(2), add("x"), keep(3)), by(cut(1), keep(1), cut(1), keep(1), add("=1;", "-1;", "1:a")), by(add("x\n"), keep(1), add("y\n")),
		by(add(strings.Split(strings.Repeat("a\n ", 300), " ")...)),
	} {
		checkEncode(t, told(modified("p", edits...)))
		checkEncode(t, told(renamed("q", "p", 70, edits...)))
		checkEncode(t, told(added("a", 1, ""), modified("p", edits...), added("q", 2, "x")))
	}
}

func TestLongScriptL1(t *testing.T) {
	var edits []api.Edit
	for i := range 20000 {
		edits = append(edits, keep(i+1), cut(1), add("x"))
	}
	checkEncode(t, told(modified("p", edits...)))
}

// refuse holds what may not be against Encode.
func refuse(t *testing.T, name string, l []api.Entry) {
	t.Helper()
	if s, code := report.Encode(l); s != "" || code != api.ErrArg {
		t.Errorf("%s: Encode(%+v) = %q, %d", name, l, s, code)
	}
}

type fault struct {
	name  string
	ops   []int
	spoil func(*api.Entry)
}

func oneTo(n, most int) bool { return 1 <= n && n <= most }

// faults is what no entry of these Ops may have.
func faults() []fault {
	list := []fault{
		{"a From", []int{1, 2, 3, 4}, func(e *api.Entry) { e.From = "q" }},
		{"itself as From", []int{1, 2, 3, 4, 5}, func(e *api.Entry) { e.From = e.Path }},
		{"a Script", []int{1, 2, 4}, func(e *api.Entry) { e.Script = by(keep(1)) }},
		{"Data", []int{2, 3, 5}, func(e *api.Entry) { e.Data = "x" }},
		{"Data of a byte 0", []int{2, 3, 5}, func(e *api.Entry) { e.Data = "\x00" }},
	}
	for i, edits := range [][]api.Edit{
		by(keep(0)), by(cut(-1)), by(keep(1<<20 + 1)), by(api.Edit{Op: 3, N: 1}), by(api.Edit{Op: 3, N: 1, Lines: []string{"a", "b"}}), by(api.Edit{}), by(api.Edit{Op: 4, N: 1}),
		by(api.Edit{Op: 1, N: 1, Lines: []string{"a"}}), by(keep(1), keep(1)), by(add("a"), cut(1)), by(keep(1), cut(1), keep(0)),
	} {
		list = append(list, fault{fmt.Sprint("a Script that is not right, number ", i), []int{1, 2, 3, 4, 5}, func(e *api.Entry) { e.Script = edits }})
	}
	for _, score := range []int{math.MinInt, -100, -1, 0, 1, 50, 100, 101, math.MaxInt} {
		var ops []int
		for op := 1; op <= 5; op++ {
			if may := op == 5 && oneTo(score, 100) || op < 5 && score == 0; !may {
				ops = append(ops, op)
			}
		}
		list = append(list, fault{fmt.Sprint("a Score of ", score), ops, func(e *api.Entry) { e.Score = score }})
	}
	for _, kind := range []int{math.MinInt, -1, 0, 1, 2, 3, 4, 1<<32 + 2, math.MaxInt} {
		var olds, news []int
		for op := 1; op <= 5; op++ {
			if may := []bool{kind == 0, oneTo(kind, 3), kind == 2, oneTo(kind, 3), kind == 2}[op-1]; !may {
				olds = append(olds, op)
			}
			if may := []bool{oneTo(kind, 3), kind == 0, kind == 2, oneTo(kind, 3), kind == 2}[op-1]; !may {
				news = append(news, op)
			}
		}
		list = append(list,
			fault{fmt.Sprint("an Old of ", kind), olds, func(e *api.Entry) { e.Old = kind }},
			fault{fmt.Sprint("a New of ", kind), news, func(e *api.Entry) { e.New = kind }},
		)
	}
	for _, op := range []int{math.MinInt, -5, -1, 0, 6, 7, 255 + 2, 1<<32 + 1, math.MaxInt} {
		list = append(list, fault{fmt.Sprint("an Op of ", op), []int{1, 2, 3, 4, 5}, func(e *api.Entry) { e.Op = op }})
	}
	return list
}

func TestEntriesThatMayNotBeL1(t *testing.T) {
	right := told(added("p", 2, "x\n"), deleted("p", 3), modified("p", keep(1), cut(2), add("x\n")), changed("p", 3, 2, "x\n"), renamed("q", "p", 60, keep(1)))
	for _, f := range faults() {
		for _, e := range right {
			if !slices.Contains(f.ops, e.Op) {
				continue
			}
			name := fmt.Sprintf("%s in one of Op %d", f.name, e.Op)
			f.spoil(&e)
			refuse(t, name, told(e))
			refuse(t, name+", the first", told(e, added("r", 1, ""), added("s", 1, "")))
			refuse(t, name+", amid others", told(added("a", 1, ""), e, added("r", 1, "")))
			refuse(t, name+", the last", told(added("a", 1, ""), added("b", 1, ""), e))
		}
	}
	refuse(t, "the zero entry", told(api.Entry{}))
}

// apart is entries each of which may be, but which may not stand together.
func apart() [][]api.Entry {
	return [][]api.Entry{
		told(added("b", 1, ""), added("a", 1, "")),
		told(added("a", 1, ""), added("a", 1, "")),
		told(deleted("a", 1), added("a", 1, "")),
		told(added("", 1, ""), added("", 1, "")),
		told(added("b!", 1, ""), added("b/c", 1, "")),
		told(added("a", 1, ""), added("c", 1, ""), added("b", 1, "")),
		told(added("a", 1, ""), added("b", 1, ""), added("a", 1, "")),
		told(renamed("q", "q", 60)),
		told(renamed("", "", 60)),
		told(renamed("q", "a", 60), renamed("q", "b", 60)),
		told(renamed("q", "a", 60), added("b", 1, ""), renamed("q", "c", 60)),
		told(renamed("b", "a", 60), deleted("b", 2)),
		told(added("a", 1, ""), renamed("a", "b", 60)),
		told(added("", 1, ""), renamed("", "b", 60)),
		told(renamed("b", "a", 60), renamed("a", "b", 60)),
	}
}

func TestEntriesThatMayNotStandTogetherL1(t *testing.T) {
	for _, l := range apart() {
		refuse(t, "not together", l)
		s := ""
		for _, e := range l {
			s += wantOne(e)
		}
		no(t, "not together", s)
	}
}

func TestCountsL2(t *testing.T) {
	ops := func(list ...int) []api.Entry {
		var l []api.Entry
		for _, op := range list {
			l = append(l, api.Entry{Op: op})
		}
		return l
	}
	for _, x := range []struct {
		l    []api.Entry
		want [6]int
	}{
		{nil, [6]int{}},
		{told(), [6]int{}},
		{ordinary(), [6]int{0, 2, 1, 1, 1, 2}},
		{ops(0), [6]int{1}},
		{ops(1), [6]int{0, 1}},
		{ops(2), [6]int{0, 0, 1}},
		{ops(3), [6]int{0, 0, 0, 1}},
		{ops(4), [6]int{0, 0, 0, 0, 1}},
		{ops(5), [6]int{0, 0, 0, 0, 0, 1}},
		{ops(0, 1, 2, 3, 4, 5, 5, 4, 3, 5, 4, 5, 0), [6]int{2, 1, 1, 2, 3, 4}},
		{ops(-1, 6, 7, -5, -6, math.MinInt, math.MaxInt, 1<<32, 1<<32+1, 256, 257), [6]int{}},
		{ops(6, 0, -1, 5), [6]int{1, 0, 0, 0, 0, 1}},
		{told(added("b", 1, ""), added("a", 1, ""), added("a", 1, ""), renamed("a", "a", 900, keep(0))), [6]int{0, 3, 0, 0, 0, 1}},
		{slices.Repeat(ordinary(), 1000), [6]int{0, 2000, 1000, 1000, 1000, 2000}},
	} {
		if got := report.Counts(x.l); got != x.want {
			t.Errorf("Counts(%+v) = %v, not %v", x.l, got, x.want)
		}
	}
	for i, l := range apart() {
		want := [6]int{}
		for _, e := range l {
			want[e.Op]++
		}
		if got := report.Counts(l); got != want {
			t.Errorf("%d: Counts(%+v) = %v", i, l, got)
		}
	}
}

func TestCountsDoNotHangOnWhatElseEntriesHaveL2(t *testing.T) {
	for _, f := range faults() {
		l := ordinary()
		for i := range l {
			op := l[i].Op
			f.spoil(&l[i])
			l[i].Op = op
		}
		if got := report.Counts(l); got != [6]int{0, 2, 1, 1, 1, 2} {
			t.Errorf("%s: Counts = %v", f.name, got)
		}
	}
}
