// Package paths is layer 1: see shared/doc/01-paths.md.
package paths

import (
	"cmp"
	"strings"

	"collator/api"
)

const slash = "/"

// Check tells whether a text is a path: OK, or what is wrong with it.
func Check(p string) api.Errno {
	count, rest, more := 0, p, true
	for more {
		var part string
		part, rest, more = strings.Cut(rest, slash)
		if !mayBe(part) {
			return api.ErrPath
		}
		count++
	}
	// A bad part counts for more than too many, so all are looked at first.
	if count > api.MaxParts {
		return api.ErrDepth
	}
	return api.OK
}

// mayBe tells whether a part may stand in a path.
func mayBe(part string) bool {
	switch {
	case part == "", part == ".", part == "..":
		fallthrough
	case len(part) > api.MaxPart:
		fallthrough
	case strings.IndexByte(part, 0) >= 0:
		return false
	default:
		return true
	}
}

// Parts is a path's parts, in order; none, if p is no path.
func Parts(p string) []string {
	if Check(p) != api.OK {
		return nil
	}
	// The pieces of a clone share nothing with what was handed in.
	return strings.Split(strings.Clone(p), slash)
}

// Join is the path of a name within a dir.
func Join(dir, name string) string {
	if dir == "" {
		return strings.Clone(name)
	}
	return dir + slash + name
}

// Dir is what stands ahead of a path's last part; empty, if p is no path.
func Dir(p string) string {
	dir, _ := halves(p)
	return dir
}

// Base is a path's last part; empty, if p is no path.
func Base(p string) string {
	_, base := halves(p)
	return base
}

// halves is what stands ahead of a path's last slash, and what stands behind it.
func halves(p string) (dir, base string) {
	if Check(p) != api.OK {
		return "", ""
	}
	at := strings.LastIndex(p, slash)
	if at < 0 {
		return "", strings.Clone(p)
	}
	return strings.Clone(p[:at]), strings.Clone(p[at+len(slash):])
}

// Compare tells which text is less, part by part: -1, 0 or 1.
func Compare(a, b string) int {
	for i := range min(len(a), len(b)) {
		if a[i] != b[i] {
			return cmp.Compare(rank(a[i]), rank(b[i]))
		}
	}
	// The one begins the other one: its last part is shorter, or it has fewer.
	return cmp.Compare(len(a), len(b))
}

// rank puts a slash ahead of every other byte, byte 0 too: a part that ends is less than one that goes on.
func rank(sign byte) int {
	if sign == slash[0] {
		return -1
	}
	return int(sign)
}

// Within tells whether p is within dir; all but the empty text is within the empty one.
func Within(dir, p string) bool {
	if dir == "" {
		return p != ""
	}
	rest, begins := strings.CutPrefix(p, dir)
	return begins && strings.HasPrefix(rest, slash)
}
