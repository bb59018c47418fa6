package paths_test

import (
	"slices"
	"strings"
	"testing"
	"unsafe"

	"collator/api"
	"collator/paths"
)

var (
	part64 = strings.Repeat("x", 64)
	part65 = strings.Repeat("x", 65)
	deep16 = strings.Repeat("a/", 15) + "b"
	deep17 = strings.Repeat("a/", 16) + "b"
)

// partsOf is the chapter's word 'the parts of a text', said as plainly as may be.
func partsOf(s string) []string {
	l := []string{""}
	for i := 0; i < len(s); i++ {
		if s[i] == '/' {
			l = append(l, "")
		} else {
			l[len(l)-1] += s[i : i+1]
		}
	}
	return l
}

// wantCheck is promise A1's words, one by one.
func wantCheck(s string) api.Errno {
	l := partsOf(s)
	for _, part := range l {
		if part == "" || part == "." || part == ".." || len(part) > 64 || strings.Contains(part, "\x00") {
			return api.ErrPath
		}
	}
	if len(l) > 16 {
		return api.ErrDepth
	}
	return api.OK
}

// wantCompare is promise A3's words: strings are less by bytes, and shorter ones are less than those that they begin.
func wantCompare(a, b string) int {
	l, m := partsOf(a), partsOf(b)
	for i := 0; i < len(l) && i < len(m); i++ {
		if l[i] != m[i] {
			if l[i] < m[i] {
				return -1
			}
			return 1
		}
	}
	switch {
	case len(l) < len(m):
		return -1
	case len(l) > len(m):
		return 1
	}
	return 0
}

// wantWithin is promise A3's words.
func wantWithin(dir, p string) bool {
	if p != "" && dir == "" {
		return true
	}
	l, m := partsOf(dir), partsOf(p)
	return len(m) > len(l) && slices.Equal(l, m[:len(l)])
}

// texts is all texts of these signs, of at most so many.
func texts(signs string, most int) []string {
	all, last := []string{""}, []string{""}
	for range most {
		var next []string
		for _, s := range last {
			for i := range len(signs) {
				next = append(next, s+signs[i:i+1])
			}
		}
		all, last = append(all, next...), next
	}
	return all
}

// strange is texts of which each is an edge of its own.
func strange() []string {
	return []string{
		part64, part65, part64 + "/" + part64, part64 + "/" + part65, part65 + "/a",
		deep16, deep17, deep17 + "/..", "../" + deep17, deep17 + "/", "/" + deep17, deep16 + "/" + part65, deep16 + "/\x00",
		"\xff", "\x80/\xfe", "\xc3\xa9", "a\x7f", "a\x00b", "\x00", "a/\x00", "...", "..a", ".a", "a.", "a..", " ", "\n", "\\",
	}
}

func TestCheckA1(t *testing.T) {
	for _, x := range []struct {
		name, p string
		want    api.Errno
	}{
		{"one part", "a", api.OK},
		{"three parts", "a/b/c", api.OK},
		{"the empty text", "", api.ErrPath},
		{"a slash alone", "/", api.ErrPath},
		{"an empty first part", "/a", api.ErrPath},
		{"an empty part between", "a//b", api.ErrPath},
		{"an empty last part", "a/", api.ErrPath},
		{"a dot", ".", api.ErrPath},
		{"a dot ahead", "./a", api.ErrPath},
		{"a dot between", "a/./b", api.ErrPath},
		{"a dot behind", "a/.", api.ErrPath},
		{"two dots", "..", api.ErrPath},
		{"two dots ahead", "../a", api.ErrPath},
		{"two dots between", "a/../b", api.ErrPath},
		{"two dots behind", "a/..", api.ErrPath},
		{"three dots", "...", api.OK},
		{"a dot that begins a part", ".a", api.OK},
		{"two dots that begin a part", "..a", api.OK},
		{"dots that end a part", "a./b..", api.OK},
		{"64 bytes", part64, api.OK},
		{"65 bytes", part65, api.ErrPath},
		{"64 bytes in each of two", part64 + "/" + part64, api.OK},
		{"65 bytes ahead", part65 + "/a", api.ErrPath},
		{"65 bytes behind", "a/" + part65, api.ErrPath},
		{"66 bytes of 33 signs", strings.Repeat("é", 33), api.ErrPath},
		{"64 bytes of 32 signs", strings.Repeat("é", 32), api.OK},
		{"a byte 0 alone", "\x00", api.ErrPath},
		{"a byte 0 ahead", "\x00a", api.ErrPath},
		{"a byte 0 between", "a/b\x00c/d", api.ErrPath},
		{"a byte 0 behind", "a\x00", api.ErrPath},
		{"a byte 1", "\x01", api.OK},
		{"bytes beyond 127", "\x80/\xff\xfe", api.OK},
		{"blanks, line feeds and backslashes", " /\n/\\", api.OK},
		{"16 parts", deep16, api.OK},
		{"17 parts", deep17, api.ErrDepth},
		{"16 parts of 64 bytes", strings.Repeat(part64+"/", 15) + part64, api.OK},
		{"17 parts of 64 bytes", strings.Repeat(part64+"/", 16) + part64, api.ErrDepth},
		{"many parts", strings.Repeat("a/", 100000) + "a", api.ErrDepth},
	} {
		if got := paths.Check(x.p); got != x.want {
			t.Errorf("%s: Check(%q) = %d, want %d", x.name, x.p, got, x.want)
		}
	}
}

func TestCheckTellsBadPartsFirstA1(t *testing.T) {
	for _, bad := range []string{"", ".", "..", part65, "\x00"} {
		for _, p := range []string{bad + "/" + deep17, deep17 + "/" + bad, deep16 + "/" + bad + "/" + deep16} {
			if got := paths.Check(p); got != api.ErrPath {
				t.Errorf("Check(%q) = %d, want ErrPath", p, got)
			}
		}
	}
}

func TestPartsA1(t *testing.T) {
	for _, x := range []struct {
		p    string
		want []string
	}{
		{"a", []string{"a"}},
		{"a/b/c", []string{"a", "b", "c"}},
		{"b/a/b", []string{"b", "a", "b"}},
		{"a b/\xff/...", []string{"a b", "\xff", "..."}},
		{part64, []string{part64}},
		{deep16, append(slices.Repeat([]string{"a"}, 15), "b")},
		{"", nil}, {"/", nil}, {"a/", nil}, {"/a", nil}, {"a//b", nil}, {"a/.", nil}, {"../a", nil}, {part65, nil}, {"a/\x00", nil}, {deep17, nil},
	} {
		if got := paths.Parts(x.p); !slices.Equal(got, x.want) {
			t.Errorf("Parts(%q) = %q, want %q", x.p, got, x.want)
		}
	}
}

func TestCheckAndPartsOfAllShortTextsA1(t *testing.T) {
	for _, p := range append(texts("/.a\x00", 6), strange()...) {
		want := wantCheck(p)
		if got := paths.Check(p); got != want {
			t.Fatalf("Check(%q) = %d, want %d", p, got, want)
		}
		var parts []string
		if want == api.OK {
			parts = partsOf(p)
		}
		if got := paths.Parts(p); !slices.Equal(got, parts) {
			t.Fatalf("Parts(%q) = %q, want %q", p, got, parts)
		}
	}
}

func TestJoinA2(t *testing.T) {
	for _, x := range []struct{ dir, name, want string }{
		{"", "x", "x"},
		{"a", "x", "a/x"},
		{"a/b", "c", "a/b/c"},
		{"a", "b/c", "a/b/c"},
		{"", "", ""},
		{"a", "", "a/"},
		{"/", "/", "///"},
		{"..", "\x00", "../\x00"},
		{"\xff", "\x80", "\xff/\x80"},
		{deep16, part65, deep16 + "/" + part65},
	} {
		if got := paths.Join(x.dir, x.name); got != x.want {
			t.Errorf("Join(%q, %q) = %q, want %q", x.dir, x.name, got, x.want)
		}
	}
}

func TestDirAndBaseA2(t *testing.T) {
	for _, x := range []struct{ p, dir, base string }{
		{"a", "", "a"},
		{"a/b", "a", "b"},
		{"a/b/c", "a/b", "c"},
		{"\xff/\x80", "\xff", "\x80"},
		{part64, "", part64},
		{"a/" + part64, "a", part64},
		{deep16, strings.Repeat("a/", 14) + "a", "b"},
		{"", "", ""}, {"/", "", ""}, {"a/", "", ""}, {"/a", "", ""}, {"a//b", "", ""}, {"./a", "", ""}, {"a/..", "", ""}, {"a/" + part65, "", ""}, {"a/b\x00", "", ""}, {deep17, "", ""},
	} {
		if got := paths.Dir(x.p); got != x.dir {
			t.Errorf("Dir(%q) = %q, want %q", x.p, got, x.dir)
		}
		if got := paths.Base(x.p); got != x.base {
			t.Errorf("Base(%q) = %q, want %q", x.p, got, x.base)
		}
	}
}

func TestCompareA3(t *testing.T) {
	// Each is less than all behind it.
	rising := []string{
		"", "/", "//", "//a", "/a", "\x00", "\x00/a", "\x00\x00", ".", "..", "A", "a", "a/", "a//", "a/\x00", "a/!", "a/b", "a/b/c", "a/b!", "a/c",
		"a\x00", "a!", "a!/a", "a.", "a0", "aa", "b", "\x7f", "\x80", "\xff", "\xff/a", "\xff\xff",
	}
	for i, a := range rising {
		for k, b := range rising {
			want := 0
			if i < k {
				want = -1
			} else if i > k {
				want = 1
			}
			if got := paths.Compare(a, b); got != want {
				t.Errorf("Compare(%q, %q) = %d, want %d", a, b, got, want)
			}
		}
	}
}

func TestWithinA3(t *testing.T) {
	for _, x := range []struct {
		dir, p string
		want   bool
	}{
		{"", "", false},
		{"", "a", true},
		{"", "/", true},
		{"", "a/b", true},
		{"a", "", false},
		{"a", "a", false},
		{"a", "a/b", true},
		{"a", "a/b/c", true},
		{"a", "a/", true},
		{"a", "ab", false},
		{"a", "ab/c", false},
		{"a", "b/a", false},
		{"a/b", "a", false},
		{"a/b", "a/c/b", false},
		{"a/b", "a/b/c/d", true},
		{"a/", "a/b", false},
		{"a/", "a//b", true},
		{"/", "/a", false},
		{"/", "//", true},
		{"..", "../a", true},
		{"\xff", "\xff/\x00", true},
		{deep16, deep16 + "/a", true},
	} {
		if got := paths.Within(x.dir, x.p); got != x.want {
			t.Errorf("Within(%q, %q) = %t, want %t", x.dir, x.p, got, x.want)
		}
	}
}

func TestCompareAndWithinOfAllShortTextsA3(t *testing.T) {
	all := append(texts("/!a\x00\xff", 4), strange()...)
	for _, a := range all {
		for _, b := range all {
			if got, want := paths.Compare(a, b), wantCompare(a, b); got != want {
				t.Fatalf("Compare(%q, %q) = %d, want %d", a, b, got, want)
			}
			if got, want := paths.Within(a, b), wantWithin(a, b); got != want {
				t.Fatalf("Within(%q, %q) = %t, want %t", a, b, got, want)
			}
		}
	}
}

func TestCompareIsAnOrderA4(t *testing.T) {
	all := append(texts("/!a\xff", 3), strange()...)
	for _, a := range all {
		for _, b := range all {
			ab := paths.Compare(a, b)
			if (ab == 0) != (a == b) || ab != -paths.Compare(b, a) {
				t.Fatalf("%q and %q: %d and %d", a, b, ab, paths.Compare(b, a))
			}
			for _, c := range all {
				if ab < 0 && paths.Compare(b, c) < 0 && paths.Compare(a, c) >= 0 {
					t.Fatalf("%q, %q, %q: not transitive", a, b, c)
				}
			}
		}
	}
}

func TestWhatIsWithinStandsBehindTogetherA4(t *testing.T) {
	all := append(texts("/!a\xff", 4), strange()...)
	slices.SortFunc(all, paths.Compare)
	all = slices.Compact(all)
	for i, dir := range all {
		at := i + 1
		for at < len(all) && paths.Within(dir, all[at]) {
			at++
		}
		for k, p := range all {
			if paths.Within(dir, p) != (i < k && k < at) {
				t.Fatalf("%q at %d, of which %d to %d are within %q at %d", p, k, i+1, at, dir, i)
			}
		}
	}
}

func TestJoinOfDirAndBaseIsThePathA4(t *testing.T) {
	seen := 0
	for _, p := range append(texts("/.a\xff", 6), strange()...) {
		if paths.Check(p) != api.OK {
			continue
		}
		seen++
		dir, base := paths.Dir(p), paths.Base(p)
		if got := paths.Join(dir, base); got != p {
			t.Fatalf("Join(%q, %q) = %q, want %q", dir, base, got, p)
		}
		if !paths.Within(dir, p) || paths.Check(base) != api.OK || dir != "" && paths.Check(dir) != api.OK {
			t.Fatalf("%q: dir %q, base %q", p, dir, base)
		}
	}
	if seen < 1000 {
		t.Fatalf("only %d paths", seen)
	}
}

func TestAnswersAreNewMemory(t *testing.T) {
	p := strings.Clone("ab/cd/ef")
	one, other := paths.Parts(p), paths.Parts(p)
	one[0] = "x"
	_ = append(one[:1], "y", "z", "w")
	if !slices.Equal(other, []string{"ab", "cd", "ef"}) {
		t.Errorf("another answer has become %q", other)
	}
	for _, s := range append(other, paths.Dir(p), paths.Base(p), paths.Join("", p), paths.Join(p, "x")) {
		if sharesMemory(s, p) {
			t.Errorf("%q lies within what was handed in", s)
		}
	}
	if name := strings.Clone("ab"); sharesMemory(paths.Base(name), name) || sharesMemory(paths.Parts(name)[0], name) {
		t.Error("a path of one part comes out as it was handed in")
	}
}

func sharesMemory(s, whole string) bool {
	at, from := uintptr(unsafe.Pointer(unsafe.StringData(s))), uintptr(unsafe.Pointer(unsafe.StringData(whole)))
	return from <= at && at < from+uintptr(len(whole))
}

func TestLongTextsEnd(t *testing.T) {
	for _, p := range []string{strings.Repeat("/", 1<<20), strings.Repeat("a", 1<<20), strings.Repeat("\x00", 1<<20), strings.Repeat("a/", 1<<20) + "a"} {
		if paths.Check(p) == api.OK || len(paths.Parts(p)) != 0 || paths.Dir(p) != "" || paths.Base(p) != "" {
			t.Errorf("%q.. is no path", p[:8])
		}
		if paths.Compare(p, p+"a") != -1 || paths.Compare(p+"a", p) != 1 || paths.Compare(p, p) != 0 {
			t.Errorf("%q..: order", p[:8])
		}
		if !paths.Within(p, p+"/") || paths.Within(p, p) || paths.Within(p, p+"a") {
			t.Errorf("%q..: within", p[:8])
		}
	}
}
