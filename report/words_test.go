package report_test

import (
	"fmt"
	"slices"
	"strconv"
	"strings"
	"testing"

	"collator/api"
	"collator/patch"
	"collator/report"
	"collator/script"
)

func keep(n int) api.Edit { return api.Edit{Op: 1, N: n} }

func cut(n int) api.Edit { return api.Edit{Op: 2, N: n} }

func add(l ...string) api.Edit { return api.Edit{Op: 3, N: len(l), Lines: l} }

func by(edits ...api.Edit) []api.Edit { return edits }

func told(entries ...api.Entry) []api.Entry { return entries }

func added(path string, kind int, data string) api.Entry {
	return api.Entry{Op: 1, Path: path, New: kind, Data: data}
}

func deleted(path string, kind int) api.Entry { return api.Entry{Op: 2, Path: path, Old: kind} }

func modified(path string, edits ...api.Edit) api.Entry {
	return api.Entry{Op: 3, Path: path, Old: 2, New: 2, Script: edits}
}

func changed(path string, old, fresh int, data string) api.Entry {
	return api.Entry{Op: 4, Path: path, Old: old, New: fresh, Data: data}
}

func renamed(from, path string, score int, edits ...api.Edit) api.Entry {
	return api.Entry{Op: 5, Path: path, From: from, Old: 2, New: 2, Score: score, Script: edits}
}

// same tells whether entries are the same, field by field; a list without elements may be nil or not.
func same(l, m []api.Entry) bool {
	return slices.EqualFunc(l, m, func(e, f api.Entry) bool {
		return e.Op == f.Op && e.Path == f.Path && e.From == f.From && e.Old == f.Old && e.New == f.New && e.Data == f.Data && e.Score == f.Score &&
			slices.EqualFunc(e.Script, f.Script, func(x, y api.Edit) bool {
				return x.Op == y.Op && x.N == y.N && slices.Equal(x.Lines, y.Lines)
			})
	})
}

// wantScript is chapter 4's bytes of a right script.
func wantScript(s []api.Edit) string {
	var told strings.Builder
	for _, edit := range s {
		fmt.Fprintf(&told, "%c%d;", " =-+"[edit.Op], edit.N)
		for _, line := range edit.Lines {
			fmt.Fprintf(&told, "%d:%s", len(line), line)
		}
	}
	return told.String()
}

// wantOne is promise L1's words of one entry.
func wantOne(e api.Entry) string {
	s := wantScript(e.Script)
	return fmt.Sprintf("%d;%d:%s%d:%s%d;%d;%d:%s%d;%d:%s", e.Op, len(e.Path), e.Path, len(e.From), e.From, e.Old, e.New, len(e.Data), e.Data, e.Score, len(s), s)
}

// wantEncode is promise L1's words of Encode.
func wantEncode(l []api.Entry) (string, api.Errno) {
	if !patch.Right(l) {
		return "", api.ErrArg
	}
	var told strings.Builder
	for _, e := range l {
		told.WriteString(wantOne(e))
	}
	return told.String(), api.OK
}

// loose reads bytes by whatever numbers the library takes, signs and noughts ahead of them too.
type loose struct {
	rest string
	ok   bool
}

func (r *loose) number(end string) int {
	digits, rest, found := strings.Cut(r.rest, end)
	n, err := strconv.Atoi(digits)
	r.ok = r.ok && found && err == nil
	r.rest = rest
	return n
}

func (r *loose) text() string {
	n := r.number(":")
	if n < 0 || n > len(r.rest) {
		r.ok, n = false, 0
	}
	text := r.rest[:n]
	r.rest = r.rest[n:]
	return text
}

func (r *loose) entry() api.Entry {
	e := api.Entry{Op: r.number(";"), Path: r.text(), From: r.text(), Old: r.number(";"), New: r.number(";"), Data: r.text(), Score: r.number(";")}
	edits, code := script.Decode(r.text())
	e.Script, r.ok = edits, r.ok && code == api.OK
	return e
}

// wantDecode is promise L1's words of Decode: what a loose reader makes of bytes is told, if these are its bytes.
func wantDecode(s string) ([]api.Entry, api.Errno) {
	var l []api.Entry
	for r := (&loose{s, true}); r.rest != ""; {
		l = append(l, r.entry())
		if !r.ok {
			return nil, api.ErrForm
		}
	}
	if bytes, code := wantEncode(l); code != api.OK || bytes != s {
		return nil, api.ErrForm
	}
	return l, api.OK
}

// checkDecode holds what Decode answers against promise L1's words; it tells whether these are bytes of entries.
func checkDecode(t *testing.T, s string) bool {
	t.Helper()
	l, code := report.Decode(s)
	want, wantCode := wantDecode(s)
	if code != wantCode || !same(l, want) {
		t.Fatalf("Decode(%q) = %+v, %d, not %+v, %d", s, l, code, want, wantCode)
	}
	return code == api.OK
}

// checkEncode holds what Encode answers of entries, and Decode of their bytes, against promise L1's words.
func checkEncode(t *testing.T, l []api.Entry) {
	t.Helper()
	s, code := report.Encode(l)
	want, wantCode := wantEncode(l)
	if s != want || code != wantCode {
		t.Fatalf("Encode(%+v) = %q, %d, not %q, %d", l, s, code, want, wantCode)
	}
	if code != api.OK {
		return
	}
	if back, code := report.Decode(s); code != api.OK || !same(back, l) {
		t.Fatalf("Decode(%q) = %+v, %d, not %+v", s, back, code, l)
	}
}

// ordinary is right entries of each Op, which may stand one behind the other.
func ordinary() []api.Entry {
	return told(
		added("a", 2, "x\ny\n"),
		deleted("b/c", 3),
		modified("d", keep(3), cut(12), add("x\n", "y"), keep(1)),
		changed("e", 3, 1, ""),
		renamed("q", "f", 60, keep(1), cut(1), add("x")),
		added("g", 1, ""),
		renamed("r/s", "h", 100, keep(2)),
	)
}

// texts is texts of all kinds: of many lengths, and with signs that stand for something, too.
func texts() []string {
	list := []string{"", "x", ":", ";", "0", "1", "10", "1:a", "0;", "1;1:a0:0;1;0:0;0:", "=1;", "+1;1:x", "\n", "a\nb\n", "\r\n", "\x00", "\x00\x00", "\xff", "\xc3", "é", "\u2028", "a/b", "//", "-1", "+1", " 1"}
	for _, n := range []int{2, 8, 9, 10, 11, 19, 99, 100, 101, 999, 1000, 1001, 65535, 65536} {
		list = append(list, strings.Repeat("z", n))
	}
	return append(list, "012345678", "0123456789", "é23456789", "\x00:;\n\xff6789")
}
