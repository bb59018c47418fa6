package myers

// stretch is how many fronts in a row are held at once. All of a long search's would need room by the square of its
// cost; of the others only the first one of each stretch is marked, and they are found again when they are asked for.
const stretch = 256

// nowhere is how far one comes on a diagonal to which one does not come.
const nowhere = -1

// grid is two lists, and the places in them: i numbers of x and j of y are gone through. The places that have one
// i - j are a diagonal.
type grid struct{ x, y []int }

// front is how far one comes at one cost: the greatest i on each diagonal, of every second one from low on.
type front struct {
	low int
	far []int
}

// on is how far one comes on a diagonal.
func (f front) on(diagonal int) int {
	if diagonal < f.low || diagonal > f.high() {
		return nowhere
	}
	return f.far[(diagonal-f.low)/2]
}

func (f front) high() int { return f.low + 2*(len(f.far)-1) }

// isEnd tells whether both lists are gone through.
func (g grid) isEnd(diagonal, i int) bool { return i == len(g.x) && i-diagonal == len(g.y) }

// slide is how far one comes on a diagonal at no cost.
func (g grid) slide(diagonal, i int) int {
	for i < len(g.x) && i-diagonal < len(g.y) && g.x[i] == g.y[i-diagonal] {
		i++
	}
	return i
}

// next is between which diagonals one goes on from a front. One that has come to its last place at an edge is left
// behind: only the diagonal next to it can get anything of it any more.
func (g grid) next(f front) (low, high int) {
	low, high = f.low-1, f.high()+1
	if f.on(f.low)-f.low == len(g.y) {
		low = f.low + 1
	}
	if f.on(f.high()) == len(g.x) {
		high = f.high() - 1
	}
	return low, high
}

// rise is the fronts by rising costs, beginning with a given one, till there are so many, or the end is reached at
// the cost behind the last one's.
func (g grid) rise(from front, most int) (fronts []front, ended bool) {
	fronts = []front{from}
search:
	for len(fronts) < most {
		last := fronts[len(fronts)-1]
		reach := func(diagonal int) int {
			i := max(last.on(diagonal-1)+1, last.on(diagonal+1))
			// From a neighbour's last place one would come out of the grid: it is this diagonal's last place, then.
			return g.slide(diagonal, min(i, len(g.x), len(g.y)+diagonal))
		}
		low, high := g.next(last)
		made := front{low: low, far: make([]int, 0, (high-low)/2+1)}
		for diagonal := low; diagonal <= high; diagonal += 2 {
			i := reach(diagonal)
			if g.isEnd(diagonal, i) {
				ended = true
				break search
			}
			made.far = append(made.far, i)
		}
		fronts = append(fronts, made)
	}
	return fronts, ended
}

// trail is a search that has come to its end: at which cost, the first front of each stretch, and all of one stretch.
type trail struct {
	grid
	cost   int
	marks  []front
	held   int
	fronts []front
}

// search goes through two lists, by rising costs.
func search(x, y []int) *trail {
	t := &trail{grid: grid{x: x, y: y}}
	i := t.slide(0, 0)
	if t.isEnd(0, i) {
		return t
	}
	begin := front{low: 0, far: []int{i}}
	for ended := false; !ended; {
		t.held = len(t.marks)
		t.marks = append(t.marks, begin)
		t.fronts, ended = t.rise(begin, stretch+1)
		begin = t.fronts[len(t.fronts)-1]
	}
	t.cost = t.held*stretch + len(t.fronts)
	return t
}

// front is that of a cost, which is less than the one of the end.
func (t *trail) front(cost int) front {
	if cost/stretch != t.held {
		t.held = cost / stretch
		t.fronts, _ = t.rise(t.marks[t.held], stretch)
	}
	return t.fronts[cost%stretch]
}
