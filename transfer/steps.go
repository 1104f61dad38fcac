package transfer

import (
	"iter"
	"maps"
	"slices"

	"gazetteer/api"
	"gazetteer/zone"
)

// draft: the records that stand while the steps of a row are gone.
type draft struct {
	soa   api.Record
	stand map[api.Record]struct{} // all others
	end   api.Record              // with which the row begins and ends
	ahead []api.Record            // what of the row wasn't gone through
}

// takeSteps: the zone that z becomes by a row of steps.
func takeSteps(z *zone.Zone, row []api.Record) (*zone.Zone, error) {
	d := &draft{soa: soaOf(z), stand: make(map[api.Record]struct{}), end: row[0], ahead: row[1:]}
	for _, r := range others(z) {
		d.stand[r] = struct{}{}
	}
	for !d.isDone() {
		if err := d.step(); err != nil {
			return nil, err
		}
	}
	return newZone(z.Apex(), append(slices.Collect(maps.Keys(d.stand)), d.soa))
}

// isDone: a SOA like the row's first may begin a step, too, as long as it
// isn't the last record.
func (d *draft) isDone() bool {
	return d.soa == d.end && len(d.ahead) == 1 && d.ahead[0] == d.end
}

// step goes one step.
func (d *draft) step() error {
	old, err := d.nextSoa()
	if err != nil {
		return err
	}
	if old != d.soa {
		return wrong(api.ErrOld)
	}
	for r := range d.untilSoa() {
		if !d.stands(r) {
			return wrong(api.ErrNone)
		}
		delete(d.stand, r)
	}
	if d.soa, err = d.nextSoa(); err != nil {
		return err
	}
	for r := range d.untilSoa() {
		if d.stands(r) {
			return wrong(api.ErrTwice)
		}
		d.stand[r] = struct{}{}
	}
	return nil
}

func (d *draft) stands(r api.Record) bool {
	_, ok := d.stand[r]
	return ok
}

// untilSoa: the records up to the next SOA, which is ahead then.
func (d *draft) untilSoa() iter.Seq[api.Record] {
	return func(yield func(api.Record) bool) {
		for len(d.ahead) > 0 && !isSoa(d.ahead[0]) {
			r := d.ahead[0]
			d.ahead = d.ahead[1:]
			if !yield(r) {
				return
			}
		}
	}
}

// nextSoa: nothing but a SOA, or the end, comes where it is asked for.
func (d *draft) nextSoa() (api.Record, error) {
	if len(d.ahead) == 0 {
		return api.Record{}, wrong(api.ErrEnd)
	}
	r := d.ahead[0]
	d.ahead = d.ahead[1:]
	return r, nil
}
