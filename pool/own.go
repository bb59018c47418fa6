package pool

import (
	"strings"

	"collator/api"
)

// own is a pool in memory of its own, with all lists and texts.
func own(p api.Pool) api.Pool {
	p.Workers = owns(p.Workers, ownWorker)
	p.Queue.Tasks = owns(p.Queue.Tasks, ownTask)
	p.Cache.Parts = owns(p.Cache.Parts, ownPart)
	p.Flight = owns(p.Flight, ownFill)
	p.Out = owns(p.Out, ownResult)
	return p
}

// owns is a list in memory of its own, of which each element is in memory of its own.
func owns[T any](l []T, own func(T) T) []T {
	list := make([]T, len(l))
	for i, x := range l {
		list[i] = own(x)
	}
	return list
}

func ownWorker(w api.Worker) api.Worker {
	w.Task, w.Script = ownTask(w.Task), ownScript(w.Script)
	return w
}

func ownTask(task api.Task) api.Task {
	task.Left, task.Right = strings.Clone(task.Left), strings.Clone(task.Right)
	return task
}

func ownPart(part []api.Slot) []api.Slot { return owns(part, ownSlot) }

func ownSlot(s api.Slot) api.Slot {
	s.Left, s.Right, s.Val = strings.Clone(s.Left), strings.Clone(s.Right), strings.Clone(s.Val)
	return s
}

func ownFill(f api.Fill) api.Fill {
	f.Left, f.Right = strings.Clone(f.Left), strings.Clone(f.Right)
	f.Waiting = append([]int(nil), f.Waiting...)
	return f
}

func ownResult(r api.Result) api.Result {
	r.Script = ownScript(r.Script)
	return r
}

func ownScript(s []api.Edit) []api.Edit { return owns(s, ownEdit) }

func ownEdit(edit api.Edit) api.Edit {
	edit.Lines = owns(edit.Lines, strings.Clone)
	return edit
}
