package rows_test

import (
	"slices"
	"strings"
	"testing"
	"unsafe"

	"collator/rows"
)

// wantSplit is promise C1's words, byte by byte.
func wantSplit(s string) []string {
	var l []string
	begun := ""
	for i := 0; i < len(s); i++ {
		begun += s[i : i+1]
		if s[i] == 10 {
			l = append(l, begun)
			begun = ""
		}
	}
	if begun != "" {
		l = append(l, begun)
	}
	return l
}

// wantRight is the words 'a line' and 'lines are right'.
func wantRight(l []string) bool {
	for i, line := range l {
		if len(line) < 1 {
			return false
		}
		for j := 0; j < len(line)-1; j++ {
			if line[j] == 10 {
				return false
			}
		}
		if i < len(l)-1 && line[len(line)-1] != 10 {
			return false
		}
	}
	return true
}

// wantShared is promise C2's words: the greatest number of lines ahead, then the greatest one behind.
func wantShared(a, b []string) (int, int) {
	ahead, behind := 0, 0
	for n := 0; n <= min(len(a), len(b)); n++ {
		if slices.Equal(a[:n], b[:n]) {
			ahead = n
		}
	}
	a, b = a[ahead:], b[ahead:]
	for n := 0; n <= min(len(a), len(b)); n++ {
		if slices.Equal(a[len(a)-n:], b[len(b)-n:]) {
			behind = n
		}
	}
	return ahead, behind
}

// texts is all texts of these signs, of at most so many.
func texts(signs string, most int) []string {
	all := []string{""}
	from := 0
	for range most {
		to := len(all)
		for _, s := range all[from:to] {
			for i := 0; i < len(signs); i++ {
				all = append(all, s+signs[i:i+1])
			}
		}
		from = to
	}
	return all
}

// lists is all lists of these lines, of at most so many.
func lists(of []string, most int) [][]string {
	all := [][]string{nil}
	from := 0
	for range most {
		to := len(all)
		for _, l := range all[from:to] {
			for _, s := range of {
				all = append(all, append(slices.Clone(l), s))
			}
		}
		from = to
	}
	return all
}

func TestSplitC1(t *testing.T) {
	for _, x := range []struct {
		s    string
		want []string
	}{
		{"", nil},
		{"a", []string{"a"}},
		{"\n", []string{"\n"}},
		{"a\n", []string{"a\n"}},
		{"a\nb", []string{"a\n", "b"}},
		{"a\nb\n", []string{"a\n", "b\n"}},
		{"a\n\nb", []string{"a\n", "\n", "b"}},
		{"\na", []string{"\n", "a"}},
		{"\n\n\n", []string{"\n", "\n", "\n"}},
		{"a\r\nb\rc", []string{"a\r\n", "b\rc"}},
		{"\x00\n\xff\xfe\n\x80", []string{"\x00\n", "\xff\xfe\n", "\x80"}},
		{"\u0085a\u2028b\vc\fd", []string{"\u0085a\u2028b\vc\fd"}},
		{" \n\t", []string{" \n", "\t"}},
	} {
		if got := rows.Split(x.s); !slices.Equal(got, x.want) {
			t.Errorf("Split(%q) = %q, want %q", x.s, got, x.want)
		}
	}
}

func TestJoinC1(t *testing.T) {
	for _, x := range []struct {
		l    []string
		want string
	}{
		{nil, ""},
		{[]string{}, ""},
		{[]string{""}, ""},
		{[]string{"a"}, "a"},
		{[]string{"a\n"}, "a\n"},
		{[]string{"a\n", "b"}, "a\nb"},
		{[]string{"a", "b"}, "ab"},
		{[]string{"a", "", "b"}, "ab"},
		{[]string{"", ""}, ""},
		{[]string{"b", "a", "b"}, "bab"},
		{[]string{"a\nb", "\n", "\xff\x00"}, "a\nb\n\xff\x00"},
	} {
		if got := rows.Join(x.l...); got != x.want {
			t.Errorf("Join(%q) = %q, want %q", x.l, got, x.want)
		}
	}
	if got := rows.Join("a\n", "b\n"); got != "a\nb\n" {
		t.Errorf("Join of two = %q", got)
	}
}

func TestRightC1(t *testing.T) {
	for _, x := range []struct {
		l    []string
		want bool
	}{
		{nil, true},
		{[]string{}, true},
		{[]string{"a"}, true},
		{[]string{"a\n"}, true},
		{[]string{"\n"}, true},
		{[]string{"\n", "\n"}, true},
		{[]string{"a\n", "b"}, true},
		{[]string{"a\n", "\n", "b\n"}, true},
		{[]string{"a\r\n", "\x00\xff"}, true},
		{[]string{""}, false},
		{[]string{"", "a"}, false},
		{[]string{"a\n", ""}, false},
		{[]string{"a\n", "", "b"}, false},
		{[]string{"a\nb"}, false},
		{[]string{"a\nb\n"}, false},
		{[]string{"\n\n"}, false},
		{[]string{"\na"}, false},
		{[]string{"a", "b"}, false},
		{[]string{"a", "b\n"}, false},
		{[]string{"a\n", "b", "c\n"}, false},
		{[]string{"a\r", "b"}, false},
	} {
		if got := rows.Right(x.l); got != x.want {
			t.Errorf("Right(%q) = %v, want %v", x.l, got, x.want)
		}
	}
}

func TestAllShortTextsAndListsC1(t *testing.T) {
	for _, s := range texts("ab\n\r", 6) {
		if got, want := rows.Split(s), wantSplit(s); !slices.Equal(got, want) {
			t.Fatalf("Split(%q) = %q, want %q", s, got, want)
		}
	}
	for _, l := range lists(texts("a\n", 2), 4) {
		if got, want := rows.Right(l), wantRight(l); got != want {
			t.Fatalf("Right(%q) = %v, want %v", l, got, want)
		}
		if got, want := rows.Join(l...), strings.Join(l, ""); got != want {
			t.Fatalf("Join(%q) = %q, want %q", l, got, want)
		}
	}
}

func TestEveryByteButTheLineFeedIsWithinALineC1(t *testing.T) {
	for b := range 256 {
		s := "x" + string([]byte{byte(b)}) + "y"
		want := []string{s}
		if b == 10 {
			want = []string{"x\n", "y"}
		}
		if got := rows.Split(s); !slices.Equal(got, want) {
			t.Errorf("Split(%q) = %q", s, got)
		}
		if got := rows.Right([]string{s}); got != (b != 10) {
			t.Errorf("Right(%q) = %v", s, got)
		}
	}
}

func TestSharedC2(t *testing.T) {
	for _, x := range []struct {
		a, b          string
		ahead, behind int
	}{
		{"", "", 0, 0},
		{"", "a", 0, 0},
		{"a", "a", 1, 0},
		{"a", "b", 0, 0},
		{"abc", "abc", 3, 0},
		{"abc", "xyz", 0, 0},
		{"xyz", "xz", 1, 1},
		{"xx", "x", 1, 0},
		{"xxx", "xx", 2, 0},
		{"xxxx", "xx", 2, 0},
		{"ab", "abc", 2, 0},
		{"bc", "abc", 0, 2},
		{"abc", "axc", 1, 1},
		{"abcd", "abxcd", 2, 2},
		{"abab", "ab", 2, 0},
		{"aba", "a", 1, 0},
		{"aba", "aa", 1, 1},
		{"baab", "bab", 2, 1},
		{"xab", "yab", 0, 2},
		{"abx", "aby", 2, 0},
		{"aab", "ab", 1, 1},
		{"abc", "cba", 0, 0},
		{"abc", "bca", 0, 0},
	} {
		a, b := strings.Split(x.a, ""), strings.Split(x.b, "")
		if n, m := rows.Shared(a, b); n != x.ahead || m != x.behind {
			t.Errorf("Shared(%q, %q) = %d, %d", a, b, n, m)
		}
		if n, m := rows.Shared(b, a); n != x.ahead || m != x.behind {
			t.Errorf("Shared(%q, %q) = %d, %d", b, a, n, m)
		}
	}
}

func TestSharedHoldsWholeLinesAgainstEachOtherC2(t *testing.T) {
	for _, x := range []struct {
		a, b          []string
		ahead, behind int
	}{
		{[]string{"a\n"}, []string{"a"}, 0, 0},
		{[]string{"a\n", "b"}, []string{"a\n", "b\n"}, 1, 0},
		{[]string{"ab\n", "c"}, []string{"a", "b\n", "c"}, 0, 1},
		{[]string{"", "a"}, []string{"a"}, 0, 1},
		{[]string{"", ""}, []string{""}, 1, 0},
		{[]string{"a\nb"}, []string{"a\nb"}, 1, 0},
		{[]string{"A"}, []string{"a"}, 0, 0},
	} {
		if n, m := rows.Shared(x.a, x.b); n != x.ahead || m != x.behind {
			t.Errorf("Shared(%q, %q) = %d, %d", x.a, x.b, n, m)
		}
	}
	if n, m := rows.Shared(nil, nil); n != 0 || m != 0 {
		t.Errorf("Shared of nothing = %d, %d", n, m)
	}
}

func TestSharedOfAllShortListsC2(t *testing.T) {
	all := lists([]string{"x", "y", "x\n"}, 5)
	for _, a := range all {
		for _, b := range all {
			n, m := rows.Shared(a, b)
			p, q := wantShared(a, b)
			if n != p || m != q {
				t.Fatalf("Shared(%q, %q) = %d, %d, want %d, %d", a, b, n, m, p, q)
			}
		}
	}
}

func TestJoinUndoesSplitC3(t *testing.T) {
	for _, s := range texts("a\n\x00", 7) {
		l := rows.Split(s)
		if rows.Join(l...) != s || !rows.Right(l) {
			t.Fatalf("Join(Split(%q)) = %q of %q", s, rows.Join(l...), l)
		}
	}
}

func TestSplitUndoesJoinOfRightLinesAndNoOthersC3(t *testing.T) {
	for _, l := range lists(texts("a\n", 2), 4) {
		undone := slices.Equal(rows.Split(rows.Join(l...)), l)
		if undone != rows.Right(l) {
			t.Fatalf("%q: undone %v, right %v", l, undone, rows.Right(l))
		}
	}
}

func TestSharedNeverCountsALineTwiceC3(t *testing.T) {
	all := lists([]string{"x", "y"}, 6)
	for _, a := range all {
		for _, b := range all {
			if n, m := rows.Shared(a, b); n < 0 || m < 0 || n+m > min(len(a), len(b)) {
				t.Fatalf("Shared(%q, %q) = %d, %d", a, b, n, m)
			}
		}
	}
}

// meet tells whether two texts have a byte of memory in common.
func meet(a, b string) bool {
	if a == "" || b == "" {
		return false
	}
	p, q := uintptr(unsafe.Pointer(unsafe.StringData(a))), uintptr(unsafe.Pointer(unsafe.StringData(b)))
	return p < q+uintptr(len(b)) && q < p+uintptr(len(a))
}

func TestWhatComesOutIsNewMemoryC1(t *testing.T) {
	for _, s := range []string{"a", "\n", "a\n", "a\nb", "a\n\nb\n", strings.Repeat("long line\n", 50)} {
		s = strings.Clone(s)
		l := rows.Split(s)
		for i, line := range l {
			if meet(line, s) {
				t.Errorf("line %d of Split(%q) is the text's memory", i, s)
			}
			for _, other := range l[:i] {
				if meet(line, other) {
					t.Errorf("two lines of Split(%q) share memory", s)
				}
			}
		}
		again := rows.Split(s)
		_ = append(l[:0:cap(l)], make([]string, cap(l))...)
		if !slices.Equal(again, wantSplit(s)) || !slices.Equal(rows.Split(s), again) {
			t.Errorf("Split(%q) is changed by its owner", s)
		}
		for _, in := range [][]string{{s}, {s, ""}, {"", s}, {s, s}} {
			if meet(rows.Join(in...), s) {
				t.Errorf("Join(%q) is a line's memory", in)
			}
		}
	}
}

func TestNothingIsWrittenIntoC1C2(t *testing.T) {
	for _, l := range lists([]string{"", "a", "b\n"}, 4) {
		whole := append(slices.Clone(l), "behind", "it")
		before := slices.Clone(whole)
		in := whole[:len(l)]
		rows.Join(in...)
		rows.Right(in)
		rows.Shared(in, in[:len(in)/2])
		rows.Shared(in[len(in)/2:], in)
		if !slices.Equal(whole, before) {
			t.Fatalf("%q has become %q", before, whole)
		}
	}
}

func TestLongTextsEndC1C2(t *testing.T) {
	const n = 200000
	feeds := strings.Repeat("\n", n)
	l := rows.Split(feeds)
	if len(l) != n || rows.Join(l...) != feeds || !rows.Right(l) {
		t.Error("a text of line feeds alone")
	}
	if ahead, behind := rows.Shared(l, l[1:]); ahead != n-1 || behind != 0 {
		t.Errorf("Shared = %d, %d", ahead, behind)
	}
	other := append([]string{"x"}, l...)
	if ahead, behind := rows.Shared(other, l); ahead != 0 || behind != n {
		t.Errorf("Shared = %d, %d", ahead, behind)
	}
	one := strings.Repeat("a", n)
	if got := rows.Split(one); len(got) != 1 || got[0] != one || !rows.Right(got) {
		t.Error("one long line")
	}
}
