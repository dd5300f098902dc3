package scheduler

import (
	"pipeline/api"
	"pipeline/concurrency"
	"pipeline/ident"
)

// Valid checks what the scheduler decides on.
func Valid(s api.Sched) api.Errno {
	if e := validQueue(s.Queue); e != api.OK {
		return e
	}
	shares := ascending(s.Shares, func(s api.Share) string { return s.Project })
	accounts := ascending(s.Accounts, func(a api.Account) string { return a.Project })
	if !shares || !accounts {
		return api.ErrInvalid
	}
	if e := concurrency.Valid(s.Groups); e != api.OK {
		return e
	}
	return validWorkers(s.Workers)
}

func validQueue(q []api.Pending) api.Errno {
	if len(q) > api.MaxPending {
		return api.ErrLimit
	}
	seen := map[api.JobRef]bool{}
	for _, p := range q {
		switch {
		case seen[p.Ref]:
			return api.ErrExists
		case p.Cost < 1 || p.Cost > api.MaxCost:
			return api.ErrRange
		}
		seen[p.Ref] = true
	}
	return api.OK
}

// ascending reports whether a list is ascending by a field.
func ascending[T any](list []T, field func(T) string) bool {
	names := make([]string, 0, len(list))
	for _, element := range list {
		names = append(names, field(element))
	}
	return ident.Ascending(names)
}

func validWorkers(workers []api.Worker) api.Errno {
	seen := map[int]bool{}
	for i, w := range workers {
		switch {
		case i > 0 && ident.Compare(workers[i-1].ID, w.ID) >= 0:
			return api.ErrInvalid
		case w.Slots < 0 || w.Slots > api.MaxSlots:
			return api.ErrRange
		case !ascend(w.Tokens):
			return api.ErrInvalid
		}
		for _, token := range w.Tokens {
			if seen[token] {
				return api.ErrExists
			}
			seen[token] = true
		}
		if len(w.Tokens) > w.Slots {
			return api.ErrLimit
		}
	}
	return api.OK
}

// ascend reports whether tokens are strictly ascending and at least 1.
func ascend(tokens []int) bool {
	last := 0
	for _, token := range tokens {
		if token <= last {
			return false
		}
		last = token
	}
	return true
}
