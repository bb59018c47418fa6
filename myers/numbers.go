package myers

import "slices"

// What stands for a line that one list alone has: no number is like it, for such a line can't be kept.
const (
	onlyInA = -1
	onlyInB = -2
)

// numbered is two lists of lines as numbers: 0 or more, and alike for the same line, where both lists have it.
func numbered(a, b []string) (x, y []int) {
	inA, inB := firstPlaces(a), firstPlaces(b)
	return numbers(a, inA, inB, onlyInA), numbers(b, inA, inB, onlyInB)
}

// firstPlaces is the place at which each line of a list is there first.
func firstPlaces(l []string) map[string]int {
	places := map[string]int{}
	for i, line := range l {
		if _, known := places[line]; !known {
			places[line] = i
		}
	}
	return places
}

// numbers is one list's, by the places of lines in both lists.
func numbers(l []string, inA, inB map[string]int, only int) []int {
	n := make([]int, len(l))
	for i, line := range l {
		place, isInA := inA[line]
		_, isInB := inB[line]
		if !isInA || !isInB {
			place = only
		}
		n[i] = place
	}
	return n
}

// isShared tells whether both lists have the line of a number.
func isShared(number int) bool { return number >= 0 }

// sharedFromEnd is the numbers of those lines that both lists have, the last one first.
func sharedFromEnd(numbers []int) []int {
	var shared []int
	for _, number := range numbers {
		if isShared(number) {
			shared = append(shared, number)
		}
	}
	slices.Reverse(shared)
	return shared
}
