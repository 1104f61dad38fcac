package transfer

import (
	"slices"

	"gazetteer/api"
	"gazetteer/data"
	"gazetteer/name"
	"gazetteer/wire"
	"gazetteer/zone"
)

// Answer: the messages that answer one.
func (h *History) Answer(m api.Message) []api.Message {
	if h == nil || m.Response || wire.Check(m) != api.OK {
		return nil
	}
	row, code := h.rowFor(m)
	if code != api.NoError {
		refusal := answerTo(m)
		refusal.Rcode = code
		return []api.Message{refusal}
	}
	var list []api.Message
	for part := range slices.Chunk(row, api.MaxPart) {
		a := answerTo(m)
		a.AA = true
		a.Answers = slices.Clone(part)
		list = append(list, a)
	}
	return list
}

// answerTo: what all answers to a message have.
func answerTo(m api.Message) api.Message {
	return api.Message{ID: m.ID, Response: true, Opcode: m.Opcode, RD: m.RD, CD: m.CD, Questions: slices.Clone(m.Questions)}
}

// rowFor: the records that answer a right message, or the code that refuses
// them.
func (h *History) rowFor(m api.Message) ([]api.Record, int) {
	if len(m.Questions) != 1 {
		return nil, api.FormErr
	}
	q := m.Questions[0]
	switch {
	case m.Opcode != api.OpQuery:
		return nil, api.NotImp
	case q.Class != api.IN || !name.Equal(q.Name, h.Zone().Apex()):
		return nil, api.NotAuth
	case q.Type == api.AXFR:
		return whole(h.Zone()), api.NoError
	case q.Type != api.IXFR:
		return nil, api.Refused
	case len(m.Authority) != 1 || !isFullSoa(m.Authority[0]):
		return nil, api.FormErr
	}
	return h.since(data.Serial(m.Authority[0])), api.NoError
}

// whole: the row of a whole zone.
func whole(z *zone.Zone) []api.Record {
	soa := soaOf(z)
	row := append([]api.Record{soa}, others(z)...)
	return append(row, soa)
}

// since: the row for who has the zone of a serial.
func (h *History) since(serial int) []api.Record {
	if !Newer(h.Zone().Serial(), serial) {
		return []api.Record{soaOf(h.Zone())}
	}
	all := whole(h.Zone())
	from := h.last(serial)
	if from < 0 {
		return all
	}
	if steps := h.steps(from); len(steps) <= len(all) {
		return steps
	}
	return all
}

// last: the number of the last zone with a serial, or -1. Serials go round, so
// there may be several.
func (h *History) last(serial int) int {
	for i, z := range slices.Backward(h.zones) {
		if z.Serial() == serial {
			return i
		}
	}
	return -1
}

// steps: the row by steps, from the zone of a number to the newest.
func (h *History) steps(from int) []api.Record {
	soa := soaOf(h.Zone())
	row := []api.Record{soa}
	for i, next := range h.zones[from+1:] {
		old := h.zones[from+i]
		row = append(row, soaOf(old))
		row = append(row, data.Beyond(others(old), others(next))...)
		row = append(row, soaOf(next))
		row = append(row, data.Beyond(others(next), others(old))...)
	}
	return append(row, soa)
}
