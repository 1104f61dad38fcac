package master

import (
	"gazetteer/api"
	"gazetteer/data"
	"gazetteer/spell"
)

// owned reads a record whose owner is told.
func (r *reader) owned(words []api.Word) error {
	owner, err := r.name(words[0])
	if err != nil {
		return err
	}
	r.owner = owner
	return r.record(words[1:])
}

// record reads a record of the last owner.
func (r *reader) record(words []api.Word) error {
	if r.owner == "" {
		return wrong(api.ErrNone)
	}
	told, words := readHead(words)
	if len(words) == 0 {
		return wrong(api.ErrEnd)
	}
	if words[0].Quoted {
		return wrong(api.ErrText)
	}
	typ := data.TypeOf(words[0].Text)
	d, _, e := data.Read(typ, words[1:], r.origin)
	if e != api.OK {
		return wrong(e)
	}
	age := r.age(told)
	if age == none {
		return wrong(api.ErrTtl)
	}
	if len(r.records) == api.MaxRecords {
		return wrong(api.ErrMany)
	}
	r.records = append(r.records, api.Record{Owner: r.owner, Type: typ, Class: api.IN, TTL: age, Data: d})
	return nil
}

// readHead: the age that the words ahead of a type tell, or none, and the words
// from the type on.
func readHead(words []api.Word) (int, []api.Word) {
	age, classed := none, false
	for len(words) > 0 && !words[0].Quoted {
		seconds, timed := Seconds(words[0].Text)
		switch {
		case timed && age == none:
			age = seconds
		case !classed && spell.Small(words[0].Text) == "in":
			classed = true
		default:
			return age, words
		}
		words = words[1:]
	}
	return age, words
}

// age: that of a record, if its own words tell this one or none.
func (r *reader) age(told int) int {
	switch {
	case told != none:
		r.last = told
		return told
	case r.usual != none:
		return r.usual
	}
	return r.last
}
