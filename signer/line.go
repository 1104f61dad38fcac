package signer

import (
	"slices"

	"gazetteer/api"
	"gazetteer/seal"
)

// isLine: is the line right?
func isLine(line []api.Timed) bool {
	wrong := func(k api.Timed) bool {
		times := []int{0, k.Publish, k.Active, k.Retire, k.Remove, api.Never}
		return !isRight(k.Key) || !slices.IsSorted(times)
	}
	return len(line) <= api.MaxLine && !slices.ContainsFunc(line, wrong)
}

func isTold(k api.Timed, at int) bool { return k.Publish <= at && at < k.Remove }

func doesSign(k api.Timed, at int) bool { return k.Active <= at && at < k.Retire }

// PlanAt: the plan of a time.
func PlanAt(line []api.Timed, base api.Plan, now int) api.Plan {
	base.Keys = nil
	for _, k := range line {
		if isTold(k, now) {
			base.Keys = append(base.Keys, api.PlanKey{Key: k.Key, Active: doesSign(k, now)})
		}
	}
	return base
}

// isAge: may something be kept for so many seconds?
func isAge(seconds int) bool { return 0 <= seconds && seconds <= api.MaxTTL }

// Safe: can whoever keeps what it got always verify?
func Safe(line []api.Timed, keyAge, setAge, from, to int) (int, int, api.Errno) {
	if !isAge(keyAge) || !isAge(setAge) || from < 0 || from > to || to > api.MaxTime {
		return 0, 0, api.ErrArg
	}
	if !isLine(line) {
		return 0, 0, api.ErrForm
	}
	told := turns(line, from, func(k api.Timed) (int, int) { return k.Publish, k.Remove })
	signing := turns(line, from, func(k api.Timed) (int, int) { return k.Active, k.Retire })
	// From one turn to the next the same keys are told, or sign. So of all
	// times that meet behind a turn of each kind the first ones tell enough.
	for _, gotKeys := range told {
		for _, gotSet := range signing {
			a, b := max(gotKeys, gotSet-keyAge), max(gotSet, gotKeys-setAge)
			if a <= to && b <= to && !canVerify(line, a, b) {
				return a, b, api.ErrTime
			}
		}
	}
	return 0, 0, api.OK
}

// turns: the times, from the first one on, at which something of a line
// changes that each key does between two times.
func turns(line []api.Timed, from int, between func(api.Timed) (int, int)) []int {
	list := []int{from}
	for _, k := range line {
		begin, end := between(k)
		list = append(list, max(from, begin), max(from, end))
	}
	slices.Sort(list)
	return slices.Compact(list)
}

// canVerify: does a key that is told at a sign at b?
func canVerify(line []api.Timed, a, b int) bool {
	return slices.ContainsFunc(line, func(k api.Timed) bool { return isTold(k, a) && doesSign(k, b) })
}

// Roll: the next key.
func Roll(line []api.Timed, next api.Key, now, keyAge, setAge int) ([]api.Timed, api.Errno) {
	if !isAge(keyAge) || !isAge(setAge) {
		return nil, api.ErrArg
	}
	last, ok := endless(line)
	switch {
	case !isLine(line) || !ok:
		return nil, api.ErrForm
	case !isRight(next):
		return nil, api.ErrKey
	case hasPublic(line, seal.Public(next)):
		return nil, api.ErrTwice
	case now < line[last].Active:
		return nil, api.ErrBusy
	case now > api.MaxTime-keyAge-setAge:
		return nil, api.ErrTime
	case len(line) == api.MaxLine:
		return nil, api.ErrMany
	}
	rolled := slices.Clone(line)
	// The next key signs when all who kept keys have seen it; the last one is
	// told until all who keep a set that it signed are done with it.
	rolled[last].Retire, rolled[last].Remove = now+keyAge, now+keyAge+setAge
	behind := api.Timed{Key: next, Publish: now, Active: now + keyAge, Retire: api.Never, Remove: api.Never}
	return append(rolled, behind), api.OK
}

// endless: the number of the one key that signs without an end; false if
// there is none, or more than one.
func endless(line []api.Timed) (int, bool) {
	at, count := 0, 0
	for i, k := range line {
		if k.Retire == api.Never {
			at = i
			count++
		}
	}
	return at, count == 1
}

func hasPublic(line []api.Timed, public string) bool {
	return slices.ContainsFunc(line, func(k api.Timed) bool { return seal.Public(k.Key) == public })
}
