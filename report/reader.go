package report

import (
	"strings"

	"collator/api"
	"collator/patch"
	"collator/script"
)

// most is the greatest number that is read: the document's bound for all that is handed in, and more than any entry may have.
const most = 1<<31 - 1

// Decode is the entries of some bytes.
func Decode(s string) (l []api.Entry, why api.Errno) {
	defer func() {
		if told := recover(); told != nil {
			// Only numbers are sent up: anything else is no answer, and must not become one here.
			l, why = nil, told.(api.Errno)
		}
	}()
	r := reader{left(s)}
	for r.left != "" {
		l = append(l, r.entry())
	}
	// What is read has no 0 too many, so right entries have just one row of bytes, and what is left to ask is whether these are right.
	if !patch.Right(l) {
		panic(api.ErrForm)
	}
	return l, api.OK
}

// left is the bytes that have not been read.
type left string

// take takes bytes off those that are left, and gives up, if there are too few.
func (l *left) take(n int) string {
	if n > len(*l) {
		panic(api.ErrForm)
	}
	taken := (*l)[:n]
	*l = (*l)[n:]
	return string(taken)
}

// reader reads what entries are told by.
type reader struct{ left }

// entry reads field by field, in the order in which they are told.
func (r *reader) entry() api.Entry {
	var e api.Entry
	e.Op = r.number(endNumber)
	e.Path = r.text()
	e.From = r.text()
	e.Old = r.number(endNumber)
	e.New = r.number(endNumber)
	e.Data = r.text()
	e.Score = r.number(endNumber)
	e.Script = r.edits()
	return e
}

func (r *reader) edits() []api.Edit {
	edits, why := script.Decode(r.bytes())
	if why != api.OK {
		panic(api.ErrForm)
	}
	return edits
}

// text is a copy: what is told shares no memory with the bytes that were handed in.
func (r *reader) text() string {
	return strings.Clone(r.bytes())
}

// bytes is what stands behind its length.
func (r *reader) bytes() string {
	return r.take(r.number(endLength))
}

// number is told in digits, up to a sign that ends it.
func (r *reader) number(end byte) int {
	n := r.digit()
	for !r.ends(end) {
		ahead := n
		n = 10*ahead + r.digit()
		if ahead == 0 || n > most {
			panic(api.ErrForm)
		}
	}
	return n
}

// digit reads one; what is none gives up.
func (r *reader) digit() int {
	sign := r.take(1)[0]
	if sign < '0' || sign > '9' {
		panic(api.ErrForm)
	}
	return int(sign - '0')
}

// ends tells whether a sign is next, and takes it, if it is.
func (r *reader) ends(sign byte) bool {
	if r.left == "" || r.left[0] != sign {
		return false
	}
	r.take(1)
	return true
}
