package pool

import (
	"slices"

	"collator/api"
	"collator/cache"
	"collator/flight"
	"collator/queue"
	"collator/script"
)

// Right tells whether a pool may be.
func Right(p api.Pool) bool {
	return mayBeSoMany(len(p.Workers)) &&
		queue.Right(p.Queue) &&
		cache.Right(p.Cache) &&
		flight.Right(p.Flight) &&
		!slices.ContainsFunc(p.Workers, mayNotBe) &&
		isSeated(p)
}

// mayNotBe tells whether a worker has what none may have in its State.
func mayNotBe(w api.Worker) bool {
	switch w.State {
	case api.Idle, api.Gone:
		return w.Task != api.Task{} || w.Dropped || len(w.Script) > 0
	case api.Looking, api.Filling, api.Waiting:
		return len(w.Script) > 0
	case api.Putting, api.Telling:
		return !script.Right(w.Script)
	default:
		return true
	}
}

// isSeated tells whether who is in the flight is a worker who has to be, at just that place, and all are there who have to be. The fills are right, so that nobody is there twice.
func isSeated(p api.Pool) bool {
	seats := 0
	for _, f := range p.Flight {
		seats += 1 + len(f.Waiting)
		if !sits(p, f, f.By, api.Filling, api.Putting) {
			return false
		}
		for _, who := range f.Waiting {
			if !sits(p, f, who, api.Waiting) {
				return false
			}
		}
	}
	for _, w := range p.Workers {
		switch w.State {
		case api.Filling, api.Putting, api.Waiting:
			seats--
		}
	}
	return seats == 0
}

// sits tells whether a number is that of a worker in one of some States, who has the texts of a fill.
func sits(p api.Pool, f api.Fill, who int, states ...int) bool {
	if !isThere(p, who) {
		return false
	}
	w := p.Workers[who]
	return slices.Contains(states, w.State) && w.Task.Left == f.Left && w.Task.Right == f.Right
}
