package transfer

import (
	"bytes"
	"slices"

	"gazetteer/api"
	"gazetteer/data"
	"gazetteer/name"
	"gazetteer/wire"
	"gazetteer/zone"
)

// Ask: what is asked for a copy.
func Ask(z *zone.Zone, apex string, id int) (api.Message, api.Errno) {
	if z == nil && name.Check(apex) != api.OK {
		return api.Message{}, api.ErrName
	}
	if id < 0 || id > lastID {
		return api.Message{}, api.ErrArg
	}
	if z == nil {
		return api.Message{ID: id, Questions: []api.Question{{Name: apex, Type: api.AXFR, Class: api.IN}}}, api.OK
	}
	return api.Message{
		ID:        id,
		Questions: []api.Question{{Name: z.Apex(), Type: api.IXFR, Class: api.IN}},
		Authority: []api.Record{soaOf(z)},
	}, api.OK
}

// lastID: the greatest ID of a message.
const lastID = 65535

// Take: the zone that comes out of answers.
func Take(z *zone.Zone, q api.Message, answers []api.Message) (*zone.Zone, api.Errno) {
	row, err := rowOf(z, q, answers)
	if err != nil {
		return nil, codeOf(err)
	}
	y, err := takeRow(z, q.Questions[0], row)
	return y, codeOf(err)
}

// rowOf: the records of the answers, behind one another, if these are answers
// to what was asked.
func rowOf(z *zone.Zone, q api.Message, answers []api.Message) ([]api.Record, error) {
	if !isAsked(z, q) {
		return nil, wrong(api.ErrForm)
	}
	if len(answers) == 0 {
		return nil, wrong(api.ErrEnd)
	}
	if slices.ContainsFunc(answers, func(a api.Message) bool { return !isAnswer(a, q) }) {
		return nil, wrong(api.ErrForm)
	}
	if slices.ContainsFunc(answers, func(a api.Message) bool { return a.Rcode != api.NoError }) {
		return nil, wrong(api.ErrNone)
	}
	var row []api.Record
	for _, a := range answers {
		row = append(row, a.Answers...)
	}
	return row, nil
}

// isAsked: is q what who has z asks, for what has changed or for all?
func isAsked(z *zone.Zone, q api.Message) bool {
	if len(q.Questions) != 1 {
		return false
	}
	if q.Questions[0].Type == api.AXFR {
		z = nil // all is asked for, whatever is there
	}
	asked, e := Ask(z, q.Questions[0].Name, q.ID)
	return e == api.OK && isSame(asked, q)
}

// isSame: messages that differ have bytes that differ.
func isSame(a, b api.Message) bool {
	ofA, e := wire.Pack(a)
	ofB, f := wire.Pack(b)
	return e == api.OK && f == api.OK && bytes.Equal(ofA, ofB)
}

// isAnswer: is a an answer to q, whatever it says?
func isAnswer(a, q api.Message) bool {
	return wire.Check(a) == api.OK && a.Response && a.ID == q.ID && a.Opcode == api.OpQuery &&
		slices.Equal(a.Questions, q.Questions) && len(a.Authority) == 0
}

// takeRow: the zone that a row of records gives to who has z.
func takeRow(z *zone.Zone, q api.Question, row []api.Record) (*zone.Zone, error) {
	isChange := q.Type == api.IXFR
	switch {
	case len(row) == 0 || !isFullSoa(row[0]) || !name.Equal(row[0].Owner, q.Name):
		return nil, wrong(api.ErrSoa)
	case len(row) > 1 && isChange && isSoa(row[1]):
		return takeSteps(z, row)
	case len(row) > 1:
		return takeWhole(q.Name, row)
	case isChange && !Newer(data.Serial(row[0]), z.Serial()):
		return z, nil
	}
	return nil, wrong(api.ErrEnd)
}

// takeWhole: the zone of a row that ends as it begins.
func takeWhole(apex string, row []api.Record) (*zone.Zone, error) {
	size := 1 + slices.Index(row[1:], row[0])
	switch {
	case size == 0:
		return nil, wrong(api.ErrEnd)
	case size < len(row)-1:
		return nil, wrong(api.ErrTrail)
	}
	return newZone(apex, row[:size])
}

func newZone(apex string, records []api.Record) (*zone.Zone, error) {
	z, _, e := zone.New(apex, records)
	if e != api.OK {
		return nil, wrong(e)
	}
	return z, nil
}
