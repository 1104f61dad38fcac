package data

import (
	"slices"

	"gazetteer/api"
	"gazetteer/name"
	"gazetteer/spell"
)

// IsRecord: may r stand in a zone, as far as r alone tells?
func IsRecord(r api.Record) bool {
	return name.Check(r.Owner) == api.OK && r.Class == api.IN &&
		0 <= r.TTL && r.TTL <= api.MaxTTL && Check(r.Type, r.Data) == api.OK
}

// Sense: what a record says, however it is spelled and however old it may
// become. Two of the same are like.
type Sense struct {
	Owner string // folded
	Type  int
	Data  string // folded
}

// SenseOf: of a record whose owner is a name, and whose data are right.
func SenseOf(r api.Record) Sense {
	return Sense{name.Fold(r.Owner), r.Type, Fold(r.Type, r.Data)}
}

// IsSet: are they records of one owner and one type, and none twice?
func IsSet(records []api.Record) bool {
	seen := make(map[Sense]struct{}, len(records))
	for _, r := range records {
		if !IsRecord(r) || r.Type != records[0].Type || !name.Equal(r.Owner, records[0].Owner) {
			return false
		}
		seen[SenseOf(r)] = struct{}{}
	}
	return len(records) > 0 && len(seen) == len(records)
}

// Target: the name to which a record of servers leads; "" for other records.
func Target(r api.Record) string {
	switch r.Type {
	case api.NS, api.MX, api.SRV:
		if names := Names(r.Type, r.Data); len(names) > 0 {
			return names[len(names)-1]
		}
	}
	return ""
}

// AgeOfAbsence: how long it may be kept that something isn't there, as a right
// SOA tells.
func AgeOfAbsence(soa api.Record) int {
	// The minimum is the last number, of four bytes.
	return min(soa.TTL, spell.Value(soa.Data[len(soa.Data)-4:]))
}

// Beyond: the records of a list that the others haven't just so, in the list's
// order. Letters and ages count.
func Beyond(list, others []api.Record) []api.Record {
	stand := make(map[api.Record]struct{}, len(others))
	for _, r := range others {
		stand[r] = struct{}{}
	}
	return slices.DeleteFunc(slices.Clone(list), func(r api.Record) bool {
		_, ok := stand[r]
		return ok
	})
}
