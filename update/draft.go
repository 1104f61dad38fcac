package update

import (
	"maps"

	"gazetteer/api"
	"gazetteer/data"
	"gazetteer/name"
	"gazetteer/zone"
)

// draft: the records of a zone under way.
type draft struct {
	apex string     // folded
	soa  api.Record // there always is just one
	// All others, by their folded owners and by their types.
	owners map[string]map[int]*set
}

// set: the records of an owner and a type; none is empty.
type set struct {
	age     int                   // of all of them, but for RRSIG
	records map[string]api.Record // by their folded data
}

func newDraft(z *zone.Zone) *draft {
	d := &draft{apex: name.Fold(z.Apex()), owners: make(map[string]map[int]*set)}
	for _, r := range z.Records() {
		if r.Type == api.SOA {
			d.soa = r
		} else {
			d.put(r)
		}
	}
	return d
}

// change does one change that Check lets through.
func (d *draft) change(r api.Record) {
	switch r.Class {
	case api.IN:
		d.add(r)
	case api.ClsAny:
		d.removeAll(name.Fold(r.Owner), r.Type)
	case api.ClsNone:
		d.remove(data.SenseOf(r))
	}
}

func (d *draft) add(r api.Record) {
	owner := name.Fold(r.Owner)
	switch {
	case r.Type == api.SOA:
		if owner == d.apex && data.IsNewer(data.Serial(r), data.Serial(d.soa)) {
			d.soa = r
		}
	case r.Type == api.CNAME:
		if !d.isTaken(owner) {
			d.removeAll(owner, api.CNAME)
			d.put(r)
		}
	case isBesideAlias(r.Type) || d.owners[owner][api.CNAME] == nil:
		d.put(r)
	}
}

// isBesideAlias: may such records stand where an alias stands?
func isBesideAlias(t int) bool { return t == api.RRSIG || t == api.NSEC }

// isTaken: does something stand at the owner that leaves no room for an alias?
// (At the apex NS do, whatever is done.)
func (d *draft) isTaken(owner string) bool {
	for t := range d.owners[owner] {
		if t != api.CNAME && !isBesideAlias(t) {
			return true
		}
	}
	return false
}

// put: in the place of the record like it, if there is one.
func (d *draft) put(r api.Record) {
	s := data.SenseOf(r)
	if d.owners[s.Owner] == nil {
		d.owners[s.Owner] = make(map[int]*set)
	}
	all := d.owners[s.Owner]
	if all[s.Type] == nil {
		all[s.Type] = &set{records: make(map[string]api.Record)}
	}
	all[s.Type].age = r.TTL
	all[s.Type].records[s.Data] = r
}

// removeAll: those of the type, or of all types; but the apex keeps its
// servers.
func (d *draft) removeAll(owner string, t int) {
	maps.DeleteFunc(d.owners[owner], func(at int, _ *set) bool {
		return (t == at || t == api.ANY) && !(at == api.NS && owner == d.apex)
	})
}

// remove: the one of this sense, but for the last server of the apex. (A SOA
// stands in no set, so it stays.)
func (d *draft) remove(s data.Sense) {
	all := d.owners[s.Owner]
	at := all[s.Type]
	if at == nil {
		return
	}
	if _, ok := at.records[s.Data]; !ok {
		return
	}
	switch {
	case len(at.records) > 1:
		delete(at.records, s.Data)
	case s.Type != api.NS || s.Owner != d.apex:
		delete(all, s.Type)
	}
}

// records: all of them, in no order.
func (d *draft) records() []api.Record {
	list := []api.Record{d.soa}
	for _, all := range d.owners {
		for t, at := range all {
			for _, r := range at.records {
				if t != api.RRSIG {
					r.TTL = at.age
				}
				list = append(list, r)
			}
		}
	}
	return list
}

// differs: is any record other than in the zone?
func (d *draft) differs(z *zone.Zone) bool {
	before, now := z.Records(), d.records()
	return len(before) != len(now) || len(data.Beyond(before, now)) > 0
}
