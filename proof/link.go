package proof

import (
	"slices"

	"gazetteer/api"
	"gazetteer/data"
	"gazetteer/name"
)

// isRight: may the record say something of the zone?
func isRight(apex string, r api.Record) bool {
	return name.Within(r.Owner, apex) && data.IsRecord(r)
}

// link: what a record of each kind of chain has.
type link struct {
	place int    // in the list that it is from
	types string // a set: those that stand at its name
}

func (l link) has(t int) bool {
	// The record's data were looked at, with the set in them.
	types, _ := data.Types(l.types)
	return slices.Contains(types, t)
}

// isCut: is what stands there another zone's, but for the DS?
func (l link) isCut() bool { return l.has(api.NS) && !l.has(api.SOA) }

// isBareCut: is even the DS missing there?
func (l link) isBareCut() bool { return l.isCut() && !l.has(api.DS) }

// leadsAway: is what is below it told elsewhere?
func (l link) leadsAway() bool { return l.isCut() || l.has(api.DNAME) }

func (l link) lacks(t int) bool {
	if t == api.ANY {
		return l.types == ""
	}
	return !l.has(t) && !l.has(api.CNAME)
}

// deniesType: does it show, of the name at which it stands, that there is no t?
func (l link) deniesType(t int) bool { return l.lacks(t) && (t == api.DS || !l.isCut()) }
