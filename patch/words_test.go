package patch_test

import (
	"slices"
	"strings"
	"testing"

	"collator/api"
	"collator/patch"
	"collator/rows"
	"collator/script"
)

// lines is a text of lines of one letter each.
func lines(letters string) string {
	var text strings.Builder
	for _, letter := range []byte(letters) {
		text.WriteByte(letter)
		text.WriteByte('\n')
	}
	return text.String()
}

func file(path, letters string) api.Item {
	return api.Item{Path: path, Kind: 2, Data: lines(letters)}
}

func text(path, data string) api.Item { return api.Item{Path: path, Kind: 2, Data: data} }

func link(path, data string) api.Item { return api.Item{Path: path, Kind: 3, Data: data} }

func dir(path string) api.Item { return api.Item{Path: path, Kind: 1} }

func bad(item api.Item) api.Item {
	item.Bad = true
	return item
}

func of(items ...api.Item) []api.Item { return items }

func keep(n int) api.Edit { return api.Edit{Op: 1, N: n} }

func cut(n int) api.Edit { return api.Edit{Op: 2, N: n} }

func add(l ...string) api.Edit { return api.Edit{Op: 3, N: len(l), Lines: l} }

func by(edits ...api.Edit) []api.Edit { return edits }

func told(entries ...api.Entry) []api.Entry { return entries }

func added(path string, kind int, data string) api.Entry {
	return api.Entry{Op: 1, Path: path, New: kind, Data: data}
}

func deleted(path string, kind int) api.Entry { return api.Entry{Op: 2, Path: path, Old: kind} }

func modified(path string, edits ...api.Edit) api.Entry {
	return api.Entry{Op: 3, Path: path, Old: 2, New: 2, Script: edits}
}

func changed(path string, old, fresh int, data string) api.Entry {
	return api.Entry{Op: 4, Path: path, Old: old, New: fresh, Data: data}
}

func renamed(from, path string, edits ...api.Edit) api.Entry {
	return api.Entry{Op: 5, Path: path, From: from, Old: 2, New: 2, Score: 60, Script: edits}
}

// partByPart is chapter 1's order.
func partByPart(a, b string) int {
	return slices.Compare(strings.Split(a, "/"), strings.Split(b, "/"))
}

func oneTo(n, most int) bool { return 1 <= n && n <= most }

// wantRightAlone is what the chapter's words ask of each entry, by its Op.
func wantRightAlone(e api.Entry) bool {
	noFrom, noScore, noScript, noData := e.From == "", e.Score == 0, len(e.Script) == 0, e.Data == ""
	files := e.Old == 2 && e.New == 2
	return map[int]bool{
		1: oneTo(e.New, 3) && e.Old == 0 && noFrom && noScore && noScript,
		2: oneTo(e.Old, 3) && e.New == 0 && noFrom && noScore && noScript && noData,
		3: files && noFrom && noScore && noData && script.Right(e.Script),
		4: oneTo(e.Old, 3) && oneTo(e.New, 3) && noFrom && noScore && noScript,
		5: files && oneTo(e.Score, 100) && noData && script.Right(e.Script),
	}[e.Op]
}

// wantRight is the words 'Entries are right', each entry held against each other one.
func wantRight(l []api.Entry) bool {
	for i, e := range l {
		if !wantRightAlone(e) || i+1 < len(l) && partByPart(e.Path, l[i+1].Path) >= 0 {
			return false
		}
		for j, other := range l {
			if e.Op == 5 && (e.From == other.Path || i != j && other.Op == 5 && e.From == other.From) {
				return false
			}
		}
	}
	return true
}

func at(items []api.Item, path string) []api.Item {
	return slices.DeleteFunc(slices.Clone(items), func(item api.Item) bool { return item.Path != path })
}

// wantData is what chapter 4's Apply makes of a file's Data.
func wantData(was api.Item, e api.Entry) (string, bool) {
	made, code := script.Apply(e.Script, rows.Split(was.Data))
	return strings.Join(made, ""), code == api.OK
}

// wantMade is promise K1's words of one entry: what it makes, and whether it fits.
func wantMade(a []api.Item, e api.Entry) (made []api.Item, fits bool) {
	here, there := at(a, e.Path), at(a, e.From)
	switch e.Op {
	case 1:
		return of(api.Item{Path: e.Path, Kind: e.New, Data: e.Data}), len(here) == 0
	case 2:
		return nil, len(here) == 1 && here[0].Kind == e.Old
	case 3:
		if len(here) == 0 || here[0].Kind != e.Old {
			return nil, false
		}
		data, fits := wantData(here[0], e)
		return of(text(e.Path, data)), fits
	case 4:
		return of(api.Item{Path: e.Path, Kind: e.New, Data: e.Data}), len(here) == 1 && here[0].Kind == e.Old
	default:
		if len(here) > 0 || len(there) == 0 || there[0].Kind != 2 {
			return nil, false
		}
		data, fits := wantData(there[0], e)
		return of(text(e.Path, data)), fits
	}
}

// wantApply is promise K1's words.
func wantApply(a []api.Item, l []api.Entry) ([]api.Item, api.Errno) {
	twice := slices.ContainsFunc(a, func(item api.Item) bool { return len(at(a, item.Path)) > 1 })
	if twice || !wantRight(l) {
		return nil, api.ErrArg
	}
	items := slices.DeleteFunc(slices.Clone(a), func(item api.Item) bool {
		return slices.ContainsFunc(l, func(e api.Entry) bool {
			return e.Path == item.Path || e.Op == 5 && e.From == item.Path
		})
	})
	for _, e := range l {
		made, fits := wantMade(a, e)
		if !fits {
			return nil, api.ErrForm
		}
		items = append(items, made...)
	}
	return inOrder(items), api.OK
}

// inOrder is items in chapter 1's order.
func inOrder(items []api.Item) []api.Item {
	return slices.SortedFunc(slices.Values(items), func(x, y api.Item) int { return partByPart(x.Path, y.Path) })
}

// check holds what both calls answer against promise K1's words.
func check(t *testing.T, a []api.Item, l []api.Entry) {
	t.Helper()
	if got, want := patch.Right(l), wantRight(l); got != want {
		t.Fatalf("Right of %+v: %v, not %v", l, got, want)
	}
	got, code := patch.Apply(a, l)
	want, wantCode := wantApply(a, l)
	if code != wantCode || !slices.Equal(got, want) {
		t.Fatalf("%+v, done to %+v: %+v %v, not %+v %v", l, a, got, code, want, wantCode)
	}
}
