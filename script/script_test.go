package script_test

import (
	"fmt"
	"math"
	"slices"
	"strconv"
	"strings"
	"testing"
	"unsafe"

	"collator/api"
	"collator/script"
)

const most = 1 << 20

func keep(n int) api.Edit         { return api.Edit{Op: api.Keep, N: n} }
func cut(n int) api.Edit          { return api.Edit{Op: api.Cut, N: n} }
func add(l ...string) api.Edit    { return api.Edit{Op: api.Add, N: len(l), Lines: l} }
func of(s ...api.Edit) []api.Edit { return s }

func same(a, b []api.Edit) bool {
	return slices.EqualFunc(a, b, func(x, y api.Edit) bool {
		return x.Op == y.Op && x.N == y.N && slices.Equal(x.Lines, y.Lines)
	})
}

// step is one line of an edit.
type step struct {
	op   int
	line string
}

// steps is a right script's edits, a line at a time.
func steps(s []api.Edit) []step {
	var all []step
	for _, edit := range s {
		for i := range edit.N {
			one := step{op: edit.Op}
			if edit.Op == api.Add {
				one.line = edit.Lines[i]
			}
			all = append(all, one)
		}
	}
	return all
}

// wantRight is the words 'a script is right', one by one.
func wantRight(s []api.Edit) bool {
	for i, edit := range s {
		if edit.Op != 1 && edit.Op != 2 && edit.Op != 3 {
			return false
		}
		if edit.N < 1 || edit.N > 1048576 {
			return false
		}
		if edit.Op == 3 && len(edit.Lines) != edit.N {
			return false
		}
		if edit.Op != 3 && len(edit.Lines) != 0 {
			return false
		}
		if i == 0 {
			continue
		}
		if s[i-1].Op == edit.Op {
			return false
		}
		if s[i-1].Op == 3 && edit.Op == 2 {
			return false
		}
	}
	return true
}

// wantCounts is how many lines a script takes, makes and changes, counted one by one.
func wantCounts(s []api.Edit) (from, to, cost int) {
	if !wantRight(s) {
		return 0, 0, 0
	}
	for _, one := range steps(s) {
		switch one.op {
		case api.Keep:
			from, to = from+1, to+1
		case api.Cut:
			from, cost = from+1, cost+1
		case api.Add:
			to, cost = to+1, cost+1
		}
	}
	return from, to, cost
}

// wantApply is promise D2's words, line by line.
func wantApply(s []api.Edit, a []string) ([]string, api.Errno) {
	if !wantRight(s) {
		return nil, api.ErrArg
	}
	if from, _, _ := wantCounts(s); from != len(a) {
		return nil, api.ErrForm
	}
	var b []string
	at := 0
	for _, one := range steps(s) {
		if one.op == api.Add {
			b = append(b, one.line)
			continue
		}
		if one.op == api.Keep {
			b = append(b, a[at])
		}
		at++
	}
	return b, api.OK
}

// wantInvert is promise D3's words: first each edit is turned, then those that must change places do.
func wantInvert(s []api.Edit, a []string) ([]api.Edit, api.Errno) {
	if _, e := wantApply(s, a); e != api.OK {
		return nil, e
	}
	var back []api.Edit
	for _, edit := range s {
		switch edit.Op {
		case api.Keep:
			back, a = append(back, keep(edit.N)), a[edit.N:]
		case api.Cut:
			back, a = append(back, add(a[:edit.N]...)), a[edit.N:]
		case api.Add:
			back = append(back, cut(edit.N))
		}
	}
	for i := 0; i+1 < len(s); i++ {
		if s[i].Op == api.Cut && s[i+1].Op == api.Add {
			back[i], back[i+1] = back[i+1], back[i]
		}
	}
	return back, api.OK
}

// wantEncode is promise D4's words.
func wantEncode(s []api.Edit) (string, api.Errno) {
	if !wantRight(s) {
		return "", api.ErrArg
	}
	t := ""
	for _, edit := range s {
		t += fmt.Sprintf("%s%d;", map[int]string{api.Keep: "=", api.Cut: "-", api.Add: "+"}[edit.Op], edit.N)
		for _, line := range edit.Lines {
			t += fmt.Sprintf("%d:%s", len(line), line)
		}
	}
	return t, api.OK
}

// scripts is all rows of these edits, of at most so many.
func scripts(edits []api.Edit, length int) [][]api.Edit {
	all := [][]api.Edit{nil}
	from := 0
	for range length {
		to := len(all)
		for _, s := range all[from:to] {
			for _, edit := range edits {
				all = append(all, append(slices.Clone(s), edit))
			}
		}
		from = to
	}
	return all
}

// odd is edits that may stand in no script.
func odd() []api.Edit {
	return of(
		api.Edit{}, api.Edit{Op: 0, N: 1}, api.Edit{Op: 4, N: 1}, api.Edit{Op: -1, N: 1},
		api.Edit{Op: math.MinInt, N: 1}, api.Edit{Op: math.MaxInt, N: 1},
		api.Edit{Op: 0, N: 1, Lines: []string{"a"}}, api.Edit{Op: 4, N: 1, Lines: []string{"a"}},
		keep(0), keep(-1), keep(most+1), keep(math.MinInt), keep(math.MaxInt),
		cut(0), cut(-1), cut(most+1), cut(math.MinInt), cut(math.MaxInt),
		add(), api.Edit{Op: api.Add, N: 1}, api.Edit{Op: api.Add, N: -1}, api.Edit{Op: api.Add, N: math.MinInt},
		api.Edit{Op: api.Add, N: 0, Lines: []string{"a"}},
		api.Edit{Op: api.Add, N: 1, Lines: []string{"a", "b"}},
		api.Edit{Op: api.Add, N: 2, Lines: []string{"a"}},
		api.Edit{Op: api.Add, N: most, Lines: []string{"a"}},
		api.Edit{Op: api.Keep, N: 1, Lines: []string{"a"}}, api.Edit{Op: api.Keep, N: 1, Lines: []string{""}},
		api.Edit{Op: api.Cut, N: 1, Lines: []string{"a"}}, api.Edit{Op: api.Cut, N: 2, Lines: []string{"a", "b"}},
	)
}

// some is scripts of which many are right and many are not, for all that the words of a right one say.
func some() [][]api.Edit {
	all := scripts(of(keep(1), keep(2), cut(1), cut(3), add("x"), add("", "y\n\xff"), add("0:=1;")), 4)
	for _, wrong := range odd() {
		all = append(all, of(wrong), of(keep(1), wrong), of(wrong, keep(1)), of(cut(1), wrong), of(wrong, add("x")), of(keep(1), wrong, keep(1)))
	}
	return all
}

func lines(n int) []string {
	l := make([]string, n)
	for i := range l {
		l[i] = "line " + strconv.Itoa(i) + "\n"
	}
	return l
}

func TestRightD1(t *testing.T) {
	for _, x := range []struct {
		s    []api.Edit
		want bool
	}{
		{nil, true},
		{of(), true},
		{of(keep(1)), true},
		{of(cut(1)), true},
		{of(add("x")), true},
		{of(add("")), true},
		{of(add("x\n", "", "\x00\xff")), true},
		{of(keep(most)), true},
		{of(cut(most)), true},
		{of(keep(most + 1)), false},
		{of(cut(most + 1)), false},
		{of(keep(0)), false},
		{of(keep(-1)), false},
		{of(add()), false},
		{of(api.Edit{Op: api.Keep, N: 1, Lines: []string{}}), true},
		{of(cut(1), add("x")), true},
		{of(add("x"), cut(1)), false},
		{of(add("x"), keep(1), cut(1)), true},
		{of(keep(1), keep(1)), false},
		{of(cut(1), cut(2)), false},
		{of(add("x"), add("y")), false},
		{of(keep(1), cut(1), keep(1), cut(1)), true},
		{of(keep(1), cut(1), add("x"), keep(1), add("x")), true},
		{of(keep(1), cut(1), add("x"), cut(1)), false},
		{of(keep(1), cut(1), add("x"), keep(1), keep(1)), false},
	} {
		if got := script.Right(x.s); got != x.want {
			t.Errorf("Right(%v) = %v", x.s, got)
		}
	}
	for _, wrong := range odd() {
		if script.Right(of(wrong)) {
			t.Errorf("Right(%v)", wrong)
		}
	}
}

func TestSpansAndCostD1(t *testing.T) {
	for _, x := range []struct {
		s              []api.Edit
		from, to, cost int
	}{
		{nil, 0, 0, 0},
		{of(keep(3)), 3, 3, 0},
		{of(cut(3)), 3, 0, 3},
		{of(add("x", "y")), 0, 2, 2},
		{of(cut(3), add("x")), 3, 1, 4},
		{of(keep(1), cut(2), add("x"), keep(4), add("y", "z")), 7, 8, 5},
		{of(keep(most)), most, most, 0},
		{of(cut(most), keep(most), cut(most)), 3 * most, most, 2 * most},
		{of(add("x"), cut(1)), 0, 0, 0},
		{of(keep(2), keep(3)), 0, 0, 0},
		{of(cut(1), keep(most+1)), 0, 0, 0},
	} {
		from, to := script.Spans(x.s)
		if cost := script.Cost(x.s); from != x.from || to != x.to || cost != x.cost {
			t.Errorf("Spans(%v) = %d, %d; Cost %d", x.s, from, to, cost)
		}
	}
}

func TestSumsOfManyEditsDoNotGoRoundD1(t *testing.T) {
	const pairs = 5000
	var s []api.Edit
	for range pairs {
		s = append(s, keep(most), cut(most))
	}
	from, to := script.Spans(s)
	if from != 2*pairs*most || to != pairs*most || script.Cost(s) != pairs*most {
		t.Errorf("Spans = %d, %d; Cost %d", from, to, script.Cost(s))
	}
}

func TestAllShortScriptsD1(t *testing.T) {
	for _, s := range some() {
		from, to, cost := wantCounts(s)
		m, n := script.Spans(s)
		if script.Right(s) != wantRight(s) || m != from || n != to || script.Cost(s) != cost {
			t.Fatalf("%v: Right %v, Spans %d, %d, Cost %d", s, script.Right(s), m, n, script.Cost(s))
		}
	}
}

func TestApplyD2(t *testing.T) {
	for _, x := range []struct {
		s       []api.Edit
		a, want []string
	}{
		{nil, nil, nil},
		{of(), []string{}, nil},
		{of(keep(1), cut(1), add("x")), []string{"a", "b"}, []string{"a", "x"}},
		{of(keep(2)), []string{"a", "b"}, []string{"a", "b"}},
		{of(cut(2)), []string{"a", "b"}, nil},
		{of(add("x", "y")), nil, []string{"x", "y"}},
		{of(add("x"), keep(1)), []string{"a"}, []string{"x", "a"}},
		{of(keep(1), add("x")), []string{"a"}, []string{"a", "x"}},
		{of(cut(1), keep(2), add("d")), []string{"a", "b", "c"}, []string{"b", "c", "d"}},
		{of(cut(1), add(""), keep(1)), []string{"", "\n"}, []string{"", "\n"}},
		{of(keep(1), add("\xff\x00\n"), keep(1)), []string{"a\nb", "\x80"}, []string{"a\nb", "\xff\x00\n", "\x80"}},
	} {
		if got, e := script.Apply(x.s, x.a); e != api.OK || !slices.Equal(got, x.want) {
			t.Errorf("Apply(%v, %q) = %q, %d", x.s, x.a, got, e)
		}
	}
}

func TestScriptsThatAreNotRightOrDoNotFitD2D3(t *testing.T) {
	for _, x := range []struct {
		s    []api.Edit
		a    []string
		want api.Errno
	}{
		{nil, []string{"a"}, api.ErrForm},
		{nil, []string{""}, api.ErrForm},
		{of(keep(1)), nil, api.ErrForm},
		{of(keep(1)), []string{"a", "b"}, api.ErrForm},
		{of(keep(2)), []string{"a"}, api.ErrForm},
		{of(cut(2)), []string{"a"}, api.ErrForm},
		{of(cut(1)), []string{"a", "b"}, api.ErrForm},
		{of(add("x")), []string{"a"}, api.ErrForm},
		{of(keep(1), add("x")), []string{"a", "b"}, api.ErrForm},
		{of(keep(1), cut(1), add("x")), []string{"a"}, api.ErrForm},
		{of(keep(most)), []string{"a"}, api.ErrForm},
		{of(keep(most), cut(most)), []string{"a"}, api.ErrForm},
		{of(keep(0)), nil, api.ErrArg},
		{of(keep(0)), []string{"a"}, api.ErrArg},
		{of(keep(1), keep(1)), []string{"a", "b"}, api.ErrArg},
		{of(keep(1), keep(1)), []string{"a"}, api.ErrArg},
		{of(add("x"), cut(1)), []string{"a"}, api.ErrArg},
		{of(add("x"), cut(1)), nil, api.ErrArg},
		{of(keep(most + 1)), nil, api.ErrArg},
		{of(keep(1), api.Edit{Op: 4, N: 1}), []string{"a"}, api.ErrArg},
	} {
		if got, e := script.Apply(x.s, x.a); e != x.want || len(got) > 0 {
			t.Errorf("Apply(%v, %q) = %q, %d, want %d", x.s, x.a, got, e, x.want)
		}
		if got, e := script.Invert(x.s, x.a); e != x.want || len(got) > 0 {
			t.Errorf("Invert(%v, %q) = %v, %d, want %d", x.s, x.a, got, e, x.want)
		}
	}
}

func TestInvertD3(t *testing.T) {
	for _, x := range []struct {
		s    []api.Edit
		a    []string
		want []api.Edit
	}{
		{nil, nil, nil},
		{of(keep(2)), []string{"a", "b"}, of(keep(2))},
		{of(cut(2)), []string{"a", ""}, of(add("a", ""))},
		{of(add("x", "y")), nil, of(cut(2))},
		{of(cut(1), add("x", "y")), []string{"a"}, of(cut(2), add("a"))},
		{of(cut(2), keep(1), add("x")), []string{"a", "b", "c"}, of(add("a", "b"), keep(1), cut(1))},
		{of(add("x"), keep(1), cut(1)), []string{"a", "b"}, of(cut(1), keep(1), add("b"))},
		{of(keep(1), cut(1), add("x", "y"), keep(1), cut(1), add("z")), []string{"a", "b", "c", "d"},
			of(keep(1), cut(2), add("b"), keep(1), cut(1), add("d"))},
	} {
		if got, e := script.Invert(x.s, x.a); e != api.OK || !same(got, x.want) {
			t.Errorf("Invert(%v, %q) = %v, %d", x.s, x.a, got, e)
		}
	}
}

func TestAllShortScriptsOfAllLengthsD2D3(t *testing.T) {
	for _, s := range some() {
		for n := range 13 {
			a := lines(n)
			b, e := script.Apply(s, a)
			if want, f := wantApply(s, a); e != f || !slices.Equal(b, want) {
				t.Fatalf("Apply(%v, %q) = %q, %d, want %q, %d", s, a, b, e, want, f)
			}
			back, e := script.Invert(s, a)
			if want, f := wantInvert(s, a); e != f || !same(back, want) {
				t.Fatalf("Invert(%v, %q) = %v, %d, want %v, %d", s, a, back, e, want, f)
			}
		}
	}
}

func TestEncodeD4(t *testing.T) {
	for _, x := range []struct {
		s    []api.Edit
		want string
	}{
		{nil, ""},
		{of(keep(1), cut(1), add("x")), "=1;-1;+1;1:x"},
		{of(keep(10)), "=10;"},
		{of(keep(most)), "=1048576;"},
		{of(cut(most)), "-1048576;"},
		{of(add("")), "+1;0:"},
		{of(add("", "", "a")), "+3;0:0:1:a"},
		{of(add("+1;1:x", "=2;")), "+2;6:+1;1:x3:=2;"},
		{of(add("a\n", "\x00\xff:"), keep(2)), "+2;2:a\n3:\x00\xff:=2;"},
		{of(add("0123456789"), keep(907), cut(20)), "+1;10:0123456789=907;-20;"},
		{of(add("\u00e9")), "+1;2:\u00e9"},
	} {
		if got, e := script.Encode(x.s); e != api.OK || got != x.want {
			t.Errorf("Encode(%v) = %q, %d", x.s, got, e)
		}
		if got, e := script.Decode(x.want); e != api.OK || !same(got, x.s) {
			t.Errorf("Decode(%q) = %v, %d", x.want, got, e)
		}
	}
}

func TestEncodeOfAllShortScriptsD4(t *testing.T) {
	for _, s := range some() {
		got, e := script.Encode(s)
		if want, f := wantEncode(s); e != f || got != want {
			t.Fatalf("Encode(%v) = %q, %d, want %q, %d", s, got, e, want, f)
		}
	}
}

func TestDecodeOfWhatIsNoScriptsD4(t *testing.T) {
	for _, s := range []string{
		"=", "-", "+", ";", ":", "0", "1", "x", " ", "\n", "\x00", "\xff",
		"1;", "x1;", "*1;", "\xbd1;", "==1;", "=-1;", "=+1;", "= 1;", "=1 ;", " =1;", "=1; ", "=1;\n", "=1;x", "=1;=", "=1;1",
		"=;", "=0;", "=00;", "=01;", "=010;", "-0;", "-01;", "+0;", "+01;1:x", "=1", "=10", "-1", "+1", "=1:", "=1,", "=a;", "=1a;", "=1.0;", "=1e1;", "=0x1;", "=1_0;",
		"=\xd9\xa1;", "=/;", "=1/;", "=1048577;", "-1048577;", "=1048580;", "=9999999;", "=10485760;", "=2147483649;", "=4294967297;",
		"=9223372036854775807;", "=9223372036854775808;", "=18446744073709551617;", "=184467440737095516161;", "=" + strings.Repeat("1", 1000) + ";", "=" + strings.Repeat("0", 1000) + "1;",
		"+1;", "+1;1", "+1;1:", "+1;:", "+1;:x", "+1;2:a", "+1;01:a", "+1;00:", "+1;0", "+1;-1:", "+1;+1:a", "+1; 1:a", "+1;1;a", "+1;a:a", "+1;1a:a",
		"+1;1:ab", "+1;0:a", "+1;1:a1:b", "+2;1:a", "+2;1:a1:", "+2;1:a2:b", "+2;0:", "+1048576;1:a", "+1048577;1:a", "+1048576;0:0:0:",
		"+1;2147483647:a", "+1;2147483648:a", "+1;4294967297:a", "+1;9223372036854775807:a", "+1;9223372036854775808:a", "+1;18446744073709551617:a", "+1;" + strings.Repeat("9", 1000) + ":a",
		"=1;=1;", "-1;-1;", "+1;1:a+1;1:b", "+1;1:a-1;", "=1;+1;0:-1;", "=1;-1;=1;=2;", "=1;-1;+1;1:x-1;",
		"-1;1:a", "=1;1:a", "=1;-1;+1;1:x;",
	} {
		if got, e := script.Decode(s); e != api.ErrForm || len(got) > 0 {
			t.Errorf("Decode(%q) = %v, %d", s, got, e)
		}
	}
}

// texts is all texts of these signs, of at most so many.
func texts(signs string, length int) []string {
	all := []string{""}
	from := 0
	for range length {
		to := len(all)
		for _, s := range all[from:to] {
			for i := range len(signs) {
				all = append(all, s+signs[i:i+1])
			}
		}
		from = to
	}
	return all
}

func TestDecodeOfAllShortTextsD4(t *testing.T) {
	const signs, length = "=-+01;:", 6
	// All edits whose bytes are that few, and of these signs alone: what is told of each text must come of them.
	edits := of(add(""))
	for _, n := range []int{1, 10, 11, 100, 101, 110, 111, 1000, 1001, 1010, 1011, 1100, 1101, 1110, 1111} {
		edits = append(edits, keep(n), cut(n))
	}
	for i := range len(signs) {
		edits = append(edits, add(signs[i:i+1]))
	}
	known := map[string][]api.Edit{}
	for _, s := range scripts(edits, 2) {
		if bytes, e := wantEncode(s); e == api.OK && len(bytes) <= length {
			known[bytes] = s
		}
	}
	for _, s := range texts(signs, length) {
		want, is := known[s]
		got, e := script.Decode(s)
		if is != (e == api.OK) || !is && e != api.ErrForm || !same(got, want) {
			t.Fatalf("Decode(%q) = %v, %d", s, got, e)
		}
	}
}

func TestDecodeOfBytesThatHaveBecomeOthersD4(t *testing.T) {
	whole, _ := wantEncode(of(add("ab", "", "+1;"), keep(12), cut(1), add("\n\xff"), keep(1)))
	check := func(s string) {
		got, e := script.Decode(s)
		if e == api.ErrForm && len(got) == 0 {
			return
		}
		if bytes, f := wantEncode(got); e != api.OK || f != api.OK || bytes != s {
			t.Errorf("Decode(%q) = %v, %d", s, got, e)
		}
	}
	for i := range len(whole) {
		check(whole[:i])
		check(whole[i:])
		check(whole[:i] + whole[i+1:])
		for b := range 256 {
			sign := string([]byte{byte(b)})
			check(whole[:i] + sign + whole[i+1:])
			check(whole[:i] + sign + whole[i:])
		}
	}
}

func TestEverySignThatIsNoneD4(t *testing.T) {
	for b := range 256 {
		sign := string([]byte{byte(b)})
		_, e := script.Decode(sign + "1;")
		if is := sign == "=" || sign == "-"; is != (e == api.OK) {
			t.Errorf("Decode(%q) = %d", sign+"1;", e)
		}
		_, e = script.Decode("=" + sign + ";")
		if is := b >= '1' && b <= '9'; is != (e == api.OK) {
			t.Errorf("Decode(%q) = %d", "="+sign+";", e)
		}
		got, e := script.Decode("+1;1:" + sign)
		if e != api.OK || !same(got, of(add(sign))) {
			t.Errorf("Decode of a line %q = %v, %d", sign, got, e)
		}
	}
}

func TestAppliedAndInvertedIsWhatItWasD5(t *testing.T) {
	for _, s := range some() {
		if !script.Right(s) {
			continue
		}
		from, to := script.Spans(s)
		a := lines(from)
		b, _ := script.Apply(s, a)
		back, _ := script.Invert(s, a)
		again, e := script.Apply(back, b)
		if len(b) != to || e != api.OK || !slices.Equal(again, a) || script.Cost(back) != script.Cost(s) {
			t.Fatalf("%v: inverted %v, which makes %q, %d", s, back, again, e)
		}
		twice, e := script.Invert(back, b)
		if e != api.OK || !same(twice, s) {
			t.Fatalf("%v: inverted twice %v, %d", s, twice, e)
		}
	}
}

func TestDecodeUndoesEncodeD5(t *testing.T) {
	told := map[string]bool{}
	for _, s := range some() {
		bytes, e := script.Encode(s)
		if e != api.OK {
			continue
		}
		if got, e := script.Decode(bytes); e != api.OK || !same(got, s) {
			t.Fatalf("Decode(%q) = %v, %d, want %v", bytes, got, e, s)
		}
		if told[bytes] {
			t.Fatalf("%q is told of two scripts", bytes)
		}
		told[bytes] = true
	}
}

func TestTheGreatestEditsD1D2D3D4(t *testing.T) {
	all := lines(most)
	s := of(cut(most), add(all...))
	b, e := script.Apply(s, make([]string, most))
	if e != api.OK || !slices.Equal(b, all) {
		t.Errorf("Apply of the greatest edits: %d lines, %d", len(b), e)
	}
	back, e := script.Invert(s, make([]string, most))
	if e != api.OK || !same(back, of(cut(most), add(make([]string, most)...))) {
		t.Errorf("Invert of the greatest edits: %d", e)
	}
	bytes, e := script.Encode(s)
	got, f := script.Decode(bytes)
	if e != api.OK || f != api.OK || !same(got, s) {
		t.Errorf("the greatest edits' bytes: %d, %d", e, f)
	}
	more := of(add(append(all, "")...))
	if script.Right(more) {
		t.Error("an edit with one line too many is right")
	}
	if got, e := script.Decode("+1048577;" + strings.Repeat("0:", most+1)); e != api.ErrForm || len(got) > 0 {
		t.Errorf("Decode of one line too many: %d edits, %d", len(got), e)
	}
}

func TestMoreLinesThanOneEditMayHaveD2D3(t *testing.T) {
	a := lines(2*most + 1)
	s := of(keep(most), cut(1), keep(most))
	b, e := script.Apply(s, a)
	if e != api.OK || len(b) != 2*most || b[most] != a[most+1] {
		t.Errorf("Apply: %d lines, %d", len(b), e)
	}
	back, e := script.Invert(s, a)
	if e != api.OK || !same(back, of(keep(most), add(a[most]), keep(most))) {
		t.Errorf("Invert: %d edits, %d", len(back), e)
	}
}

// meet tells whether two texts have a byte of memory in common.
func meet(a, b string) bool {
	if a == "" || b == "" {
		return false
	}
	p, q := uintptr(unsafe.Pointer(unsafe.StringData(a))), uintptr(unsafe.Pointer(unsafe.StringData(b)))
	return p < q+uintptr(len(b)) && q < p+uintptr(len(a))
}

// allLines is all lines of a script.
func allLines(s []api.Edit) []string {
	var l []string
	for _, edit := range s {
		l = append(l, edit.Lines...)
	}
	return l
}

// apart tells of lines that share memory with one another, or with what was handed in.
func apart(t *testing.T, what string, out []string, in ...string) {
	t.Helper()
	for i, line := range out {
		for _, other := range out[:i] {
			if meet(line, other) {
				t.Errorf("%s: two lines share memory", what)
			}
		}
		for _, other := range in {
			if meet(line, other) {
				t.Errorf("%s: a line is what was handed in", what)
			}
		}
	}
}

// spoil writes into all that a list has, spare room too.
func spoil(l []string) {
	l = l[:cap(l)]
	for i := range l {
		l[i] = "spoilt"
	}
}

func spoilAll(s []api.Edit) {
	for _, edit := range s {
		spoil(edit.Lines)
	}
	s = s[:cap(s)]
	for i := range s {
		s[i] = api.Edit{Op: 9, N: 9}
	}
}

func TestWhatComesOutSharesNothingD2D3D4(t *testing.T) {
	twice := strings.Clone("same")
	s := of(keep(2), cut(2), add(twice, twice, strings.Clone("x")), keep(1), add(twice))
	a := []string{twice, twice, strings.Clone("c"), strings.Clone("d"), twice}
	in := append(allLines(s), a...)

	b, _ := script.Apply(s, a)
	apart(t, "Apply", b, in...)
	back, _ := script.Invert(s, a)
	apart(t, "Invert", allLines(back), in...)
	bytes, _ := script.Encode(s)
	apart(t, "Encode", []string{bytes}, in...)
	got, _ := script.Decode(bytes)
	apart(t, "Decode", allLines(got), append(in, bytes)...)

	spoil(b)
	spoilAll(back)
	spoilAll(got)
	wantB, _ := wantApply(of(keep(2), cut(2), add("same", "same", "x"), keep(1), add("same")), []string{"same", "same", "c", "d", "same"})
	if b, e := script.Apply(s, a); e != api.OK || !slices.Equal(b, wantB) {
		t.Errorf("Apply is changed by its owner: %q, %d", b, e)
	}
	if back, e := script.Invert(s, a); e != api.OK || !same(back, of(keep(2), cut(3), add("c", "d"), keep(1), cut(1))) {
		t.Errorf("Invert is changed by its owner: %v, %d", back, e)
	}
	if got, e := script.Decode(bytes); e != api.OK || !same(got, s) {
		t.Errorf("Decode is changed by its owner: %v, %d", got, e)
	}
}

func TestSpareRoomThatWasHandedInIsNotHandedOutD2D3(t *testing.T) {
	room := []string{"p", "q"}
	s := of(api.Edit{Op: api.Keep, N: 1, Lines: room[:0]}, api.Edit{Op: api.Cut, N: 1, Lines: room[:0]})
	back, e := script.Invert(s, []string{"a", "b"})
	if e != api.OK || !same(back, of(keep(1), add("b"))) {
		t.Errorf("Invert = %v, %d", back, e)
	}
	spoilAll(back)
	whole := []string{"a", "b", "c"}
	b, e := script.Apply(of(keep(2)), whole[:2])
	if e != api.OK || !slices.Equal(b, whole[:2]) {
		t.Errorf("Apply = %q, %d", b, e)
	}
	spoil(b)
	b, e = script.Apply(of(add(room...)), nil)
	if e != api.OK || !slices.Equal(b, room) {
		t.Errorf("Apply = %q, %d", b, e)
	}
	spoil(b)
	if !slices.Equal(room, []string{"p", "q"}) || !slices.Equal(whole, []string{"a", "b", "c"}) {
		t.Errorf("what was handed in has become %q, %q", room, whole)
	}
}

func TestListsOfOneAnswerShareNothingD3D4(t *testing.T) {
	s := of(cut(1), keep(1), cut(2), keep(1), cut(3))
	back, _ := script.Invert(s, lines(8))
	bytes, _ := script.Encode(back)
	got, _ := script.Decode(bytes)
	for what, l := range map[string][]api.Edit{"Invert": back, "Decode": got} {
		last := slices.Clone(l[4].Lines)
		for _, edit := range l[:4] {
			spoil(edit.Lines)
			_ = append(edit.Lines, "more", "and more")
		}
		if !slices.Equal(l[4].Lines, last) || l[4].N != 3 {
			t.Errorf("%s: a list is changed by another one", what)
		}
	}
}

func TestNothingIsWrittenIntoD1D2D3D4(t *testing.T) {
	for _, s := range some() {
		from, _ := script.Spans(s)
		for _, n := range []int{from, from + 1} {
			whole := append(slices.Clone(s), keep(77), add("behind"))
			before := slices.Clone(whole)
			for i := range before {
				before[i].Lines = slices.Clone(before[i].Lines)
			}
			all := append(lines(n), "behind", "it")
			in, a := whole[:len(s)], all[:n]
			script.Right(in)
			script.Spans(in)
			script.Cost(in)
			script.Apply(in, a)
			script.Invert(in, a)
			script.Encode(in)
			if !same(whole, before) || !slices.Equal(all, append(lines(n), "behind", "it")) {
				t.Fatalf("%v has become %v, and %q", before, whole, all)
			}
		}
	}
}
