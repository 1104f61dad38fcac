package policy

import (
	"cmp"
	"slices"

	"gazetteer/api"
	"gazetteer/data"
	"gazetteer/seal"
	"gazetteer/spell"
)

// entry: a record of a set, and the two numbers with which its data begin.
type entry struct {
	first  int // priority of SRV, order of NAPTR
	second int // weight of SRV, preference of NAPTR
	record api.Record
}

// entriesOf: those of a set of one type, in its order; false if it is none.
func entriesOf(set []api.Record, t int) ([]entry, bool) {
	if !seal.IsSet(set) || set[0].Type != t {
		return nil, false
	}
	list := make([]entry, len(set))
	for i, r := range set {
		list[i] = entry{spell.Value(r.Data[:2]), spell.Value(r.Data[2:4]), r}
	}
	return list, true
}

// run: the entries at the beginning of a sorted list that have one first
// number, without room beyond their end: what is done to them doesn't reach
// those behind.
func run(list []entry) []entry {
	end := 0
	for end < len(list) && list[end].first == list[0].first {
		end++
	}
	return list[:end:end]
}

// Order: of the servers of a service.
func Order(set []api.Record, rolls []int) ([]api.Record, api.Errno) {
	list, ok := entriesOf(set, api.SRV)
	if !ok {
		return nil, api.ErrForm
	}
	if len(set) == 1 && data.Target(set[0]) == api.Root {
		return nil, api.OK
	}
	slices.SortStableFunc(list, byPriority)
	var order []api.Record
	for len(list) > 0 {
		left := run(list)
		list = list[len(left):]
		for len(left) > 0 {
			i := draw(left, rollAt(rolls, len(order)))
			order = append(order, left[i].record)
			left = slices.Delete(left, i, i+1)
		}
	}
	return order, api.OK
}

// byPriority: who of one priority has no weight stands ahead of who has one.
func byPriority(a, b entry) int {
	return cmp.Or(cmp.Compare(a.first, b.first), cmp.Compare(min(a.second, 1), min(b.second, 1)))
}

// draw: the number of the one that a roll draws.
func draw(left []entry, roll int) int {
	sum := 0
	for _, e := range left {
		sum += e.second
	}
	wanted := roll % (sum + 1)
	at, reached := 0, left[0].second
	for reached < wanted {
		at++
		reached += left[at].second
	}
	return at
}

// rollAt: the roll of a number; 0 if there aren't so many. None is below 0.
func rollAt(rolls []int, number int) int {
	if number >= len(rolls) {
		return 0
	}
	roll := rolls[number]
	if roll < 0 {
		return -(roll + 1)
	}
	return roll
}

// Rewrites: which of a set of NAPTR count for a service.
func Rewrites(set []api.Record, service string) ([]api.Record, api.Errno) {
	list, ok := entriesOf(set, api.NAPTR)
	if !ok {
		return nil, api.ErrForm
	}
	if wanted := spell.Small(service); wanted != "" {
		list = slices.DeleteFunc(list, func(e entry) bool { return serviceOf(e.record) != wanted })
	}
	slices.SortStableFunc(list, byPreference)
	var found []api.Record
	for _, e := range run(list) {
		found = append(found, e.record)
	}
	return found, api.OK
}

func byPreference(a, b entry) int {
	return cmp.Or(cmp.Compare(a.first, b.first), cmp.Compare(a.second, b.second))
}

// serviceOf: that of a NAPTR, in small letters. Behind the two numbers stand
// texts, each with its length ahead: it is the second of them.
func serviceOf(naptr api.Record) string {
	rest := naptr.Data[4:]
	rest = rest[1+int(rest[0]):]
	return spell.Small(rest[1 : 1+int(rest[0])])
}
