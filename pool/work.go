package pool

import (
	"collator/api"
	"collator/cache"
	"collator/flight"
	"collator/myers"
	"collator/queue"
	"collator/rows"
	"collator/script"
)

// atWork is one worker at work, and its pool, which it brings up to date. The pool is right, and in memory of its own; so none of what is called here tells an error but where that is asked for.
type atWork struct {
	api.Pool
	who int
}

// deeds is what a worker does, by its State; each tells whether it does something.
func deeds() [api.Gone + 1]func(*atWork) bool {
	return [api.Gone + 1]func(*atWork) bool{
		api.Idle:    (*atWork).take,
		api.Looking: (*atWork).look,
		api.Filling: (*atWork).find,
		api.Waiting: (*atWork).rest,
		api.Putting: (*atWork).put,
		api.Telling: (*atWork).tell,
		api.Gone:    (*atWork).rest,
	}
}

// me is the worker itself.
func (a *atWork) me() *api.Worker { return &a.Workers[a.who] }

// take begins with the next task. Who finds none goes, if none will come any more.
func (a *atWork) take() bool {
	task, q, e := queue.Take(a.Queue)
	if e == api.OK {
		a.Queue = q
		*a.me() = api.Worker{State: api.Looking, Task: task}
		return true
	}
	if a.Queue.Closed {
		a.me().State = api.Gone
	}
	return a.Queue.Closed
}

// look asks the cache. What that does not know one worker finds out, for all who ask for it till then.
func (a *atWork) look() bool {
	me := a.me()
	if s, known := a.cached(me.Task); known {
		me.Script, me.State = s, api.Telling
		return true
	}
	first, f, _ := flight.Begin(a.Flight, me.Task.Left, me.Task.Right, a.who)
	a.Flight, me.State = f, api.Waiting
	if first {
		me.State = api.Filling
	}
	return true
}

// cached is the script that the cache has for a task, and whether it has one.
func (a *atWork) cached(task api.Task) ([]api.Edit, bool) {
	val, c, e := cache.Get(a.Cache, task.Left, task.Right)
	a.Cache = c
	// No Val and an empty one are the same text, but the empty one is a script's.
	if e != api.OK {
		return nil, false
	}
	s, e := script.Decode(val)
	return s, e == api.OK
}

// find finds out the script.
func (a *atWork) find() bool {
	me := a.me()
	me.Script = myers.Diff(rows.Split(me.Task.Left), rows.Split(me.Task.Right))
	me.State = api.Putting
	return true
}

// put hands what was found out to the cache, and to all who wait for it. They are told here, since the cache may have no room for it.
func (a *atWork) put() bool {
	me := a.me()
	val, _ := script.Encode(me.Script)
	a.Cache, _ = cache.Put(a.Cache, me.Task.Left, me.Task.Right, val)
	told, f, _ := flight.Done(a.Flight, a.who)
	a.Flight, me.State = f, api.Telling
	for _, who := range told {
		other := &a.Workers[who]
		other.Script, other.State = ownScript(me.Script), api.Telling
	}
	return true
}

// tell hands the script out, if it is for somebody, and makes the worker ready for the next task.
func (a *atWork) tell() bool {
	me := a.me()
	if !me.Dropped {
		a.Out = append(a.Out, api.Result{Req: me.Task.Req, Slot: me.Task.Slot, Script: me.Script})
	}
	*me = api.Worker{}
	return true
}

// rest is what one does who waits, or is gone.
func (a *atWork) rest() bool { return false }
