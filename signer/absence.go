package signer

import (
	"slices"
	"strings"

	"gazetteer/api"
	"gazetteer/data"
	"gazetteer/name"
	"gazetteer/seal"
	"gazetteer/spell"
)

// absences: the records that prove what isn't there.
func (d draft) absences(places []place) ([]api.Record, api.Errno) {
	if !d.plan.Hashed {
		return d.nsecs(places), api.OK
	}
	list := d.hashAll(places)
	alike := func(a, b hashed) bool { return a.hash == b.hash }
	if len(slices.CompactFunc(slices.Clone(list), alike)) < len(list) {
		return nil, api.ErrClash
	}
	return d.nsec3s(list)
}

// nsecs: an NSEC for each name at which something stands.
func (d draft) nsecs(places []place) []api.Record {
	bare := func(p place) bool { return len(p.sets) == 0 }
	full := slices.DeleteFunc(slices.Clone(places), bare)
	var list []api.Record
	for i, p := range full {
		next := full[(i+1)%len(full)]
		types := typeSet(p.types(), api.NSEC, api.RRSIG)
		list = append(list, record(p.name, api.NSEC, d.age, next.name, types))
	}
	return list
}

// hashed: a place and the hash of its name.
type hashed struct {
	place
	hash string
}

// hashAll: the places in the order of their hashes.
func (d draft) hashAll(places []place) []hashed {
	var list []hashed
	for _, p := range places {
		// The names are names, the plan was looked at: there is no error.
		hash, _ := seal.Hash(p.name, d.plan.Salt, d.plan.Rounds)
		list = append(list, hashed{p, hash})
	}
	slices.SortFunc(list, func(a, b hashed) int { return strings.Compare(a.hash, b.hash) })
	return list
}

// nsec3s: an NSEC3 for each name.
func (d draft) nsec3s(places []hashed) ([]api.Record, api.Errno) {
	var list []api.Record
	for i, p := range places {
		next := places[(i+1)%len(places)].hash
		owner, e := d.hashOwner(p.hash)
		if e != api.OK {
			return nil, e
		}
		types := typeSet(p.types())
		if len(p.signed()) > 0 {
			types = typeSet(p.types(), api.RRSIG)
		}
		list = append(list, record(owner, api.NSEC3, d.age, d.way(), spell.Bytes(len(next), 1), next, types))
	}
	return list, api.OK
}

// hashOwner: the name at which is told what stands at a name with that hash.
func (d draft) hashOwner(hash string) (string, api.Errno) {
	labels := slices.Insert(name.Labels(name.Fold(d.apex)), 0, data.To32(hash))
	return name.Join(labels)
}
