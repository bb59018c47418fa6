package hunks

import (
	"iter"
	"strings"

	"collator/api"
)

// parts tells a right script's edits, and whether they belong to hunks; one that does in part is told in parts.
func parts(s []api.Edit, context int) iter.Seq2[api.Edit, bool] {
	return func(yield func(api.Edit, bool) bool) {
		for i, edit := range s {
			first, far, last := split(s, i, context)
			if far == 0 {
				if !yield(edit, true) {
					return
				}
				continue
			}
			if first > 0 && !yield(keep(first), true) {
				return
			}
			if !yield(keep(far), false) {
				return
			}
			if last > 0 && !yield(keep(last), true) {
				return
			}
		}
	}
}

// split is how many lines of an edit are near what is ahead of it, far from what is changed, and near what is behind it; where none is far, all are near.
func split(s []api.Edit, at, context int) (first, far, last int) {
	if s[at].Op != api.Keep {
		return 0, 0, 0
	}
	// No two that keep stand side by side, so that what stands next to one, if anything does, is changed.
	if at > 0 {
		first = context
	}
	if at < len(s)-1 {
		last = context
	}
	return first, max(0, s[at].N-first-last), last
}

// edits tells those of hunks that are right, and what is kept ahead of, between and behind them.
func edits(h []api.Hunk, n int) iter.Seq[api.Edit] {
	return func(yield func(api.Edit) bool) {
		at := 0
		for _, hunk := range h {
			if hunk.From > at && !yield(keep(hunk.From-at)) {
				return
			}
			for _, edit := range hunk.Edits {
				if !yield(edit) {
					return
				}
			}
			at, _ = ends(hunk)
		}
		if n > at {
			yield(keep(n - at))
		}
	}
}

func keep(n int) api.Edit { return api.Edit{Op: api.Keep, N: n} }

// takenOver is a list in new memory, each element as own makes it of the one that was handed in.
func takenOver[T any](list []T, own func(T) T) []T {
	taken := make([]T, len(list))
	for i, one := range list {
		taken[i] = own(one)
	}
	return taken
}

func ownHunk(hunk api.Hunk) api.Hunk {
	return api.Hunk{From: hunk.From, To: hunk.To, Edits: takenOver(hunk.Edits, ownEdit)}
}

func ownEdit(edit api.Edit) api.Edit {
	// Field by field: a list without elements may still have room that its owner writes into.
	return api.Edit{Op: edit.Op, N: edit.N, Lines: takenOver(edit.Lines, strings.Clone)}
}
