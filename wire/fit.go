package wire

import (
	"slices"

	"gazetteer/api"
)

// Fit: what has room.
func Fit(m api.Message, limit int) (api.Message, api.Errno) {
	if Check(m) != api.OK {
		return api.Message{}, api.ErrForm
	}
	most := min(limit, api.MaxMessage)
	part := copyOf(m)
	for {
		count, ok := fits(&part, most)
		if ok {
			return part, api.OK
		}
		// While these stand there is no room, whatever is left out behind them.
		last := lastPlain(part.Additional[:count])
		part.Additional = dropPlain(part.Additional, max(last, 0))
		if last < 0 {
			break
		}
	}
	part.Answers, part.Authority, part.TC = nil, nil, true
	if _, ok := fits(&part, most); !ok {
		return api.Message{}, api.ErrLarge
	}
	return part, api.OK
}

func copyOf(m api.Message) api.Message {
	m.Questions = slices.Clone(m.Questions)
	for _, section := range sectionsOf(&m) {
		*section = slices.Clone(*section)
	}
	return m
}

// fits: has m room in so many bytes? If not: with how many of its additional
// records, from the first on, it hasn't any more (0: without them, too).
func fits(m *api.Message, most int) (int, bool) {
	p := newPacker()
	count := p.message(m, most)
	if len(p.bytes) <= most {
		return 0, true
	}
	return max(0, count-len(m.Answers)-len(m.Authority)), false
}

// isPlain: may the record be left out?
func isPlain(r api.Record) bool { return r.Type != api.OPT }

// lastPlain: the number of the last record that may be left out, or -1.
func lastPlain(list []api.Record) int {
	for i := len(list) - 1; i >= 0; i-- {
		if isPlain(list[i]) {
			return i
		}
	}
	return -1
}

// dropPlain leaves out all records from a number on that may be.
func dropPlain(list []api.Record, from int) []api.Record {
	kept := slices.DeleteFunc(list[from:], isPlain)
	return list[:from+len(kept)]
}
