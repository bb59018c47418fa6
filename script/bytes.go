package script

import (
	"strconv"
	"strings"

	"collator/api"
)

const (
	signs     = "=-+" // of Keep, Cut and Add, in the order of their numbers
	endCount  = ';'
	endLength = ':'
	longest   = 1<<31 - 1 // bytes of a line: the document's bound for all that is handed in
)

// Encode is a script's bytes.
func Encode(s []api.Edit) (string, api.Errno) {
	return caught(func() string { return encoded(s) })
}

// Decode is the script of some bytes.
func Decode(t string) ([]api.Edit, api.Errno) {
	return caught(func() []api.Edit { return decoded(t) })
}

func encoded(s []api.Edit) string {
	mustBeRight(s)
	var t strings.Builder
	for _, edit := range s {
		t.WriteByte(signs[edit.Op-api.Keep])
		t.WriteString(strconv.Itoa(edit.N))
		t.WriteByte(endCount)
		for _, line := range edit.Lines {
			t.WriteString(strconv.Itoa(len(line)))
			t.WriteByte(endLength)
			t.WriteString(line)
		}
	}
	return t.String()
}

func decoded(t string) []api.Edit {
	next := func(n int) string {
		if n > len(t) {
			panic(api.ErrForm)
		}
		read := t[:n]
		t = t[n:]
		return read
	}
	var s []api.Edit
	for t != "" {
		s = append(s, readEdit(next))
	}
	// Each right script has bytes of its own, so what is left to ask is whether this one is.
	if !Right(s) {
		panic(api.ErrForm)
	}
	return s
}

func readEdit(next func(int) string) api.Edit {
	edit := api.Edit{Op: readOp(next)}
	edit.N = readNumber(next, endCount, most)
	if edit.Op == api.Add {
		// Not made at once: the number may promise more lines than there are bytes.
		for range edit.N {
			edit.Lines = append(edit.Lines, readLine(next))
		}
	}
	return edit
}

func readOp(next func(int) string) int {
	at := strings.Index(signs, next(1))
	if at < 0 {
		panic(api.ErrForm)
	}
	return api.Keep + at
}

func readLine(next func(int) string) string {
	return strings.Clone(next(readNumber(next, endLength, longest)))
}

// readNumber is a number of at most so much, told in digits up to a sign that ends it.
func readNumber(next func(int) string, end byte, limit int) int {
	n := digit(next(1)[0])
	for sign := next(1)[0]; sign != end; sign = next(1)[0] {
		ahead := n
		n = 10*ahead + digit(sign)
		if ahead == 0 || n > limit {
			panic(api.ErrForm)
		}
	}
	return n
}

func digit(sign byte) int {
	if sign < '0' || sign > '9' {
		panic(api.ErrForm)
	}
	return int(sign - '0')
}
