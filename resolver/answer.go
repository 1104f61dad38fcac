package resolver

import (
	"slices"

	"gazetteer/api"
	"gazetteer/data"
	"gazetteer/name"
)

// answer: what a server of a zone has said. It is believed of names within the
// zone alone, and of no other than the one that was asked for: where that leads,
// those are asked who have it.
type answer struct {
	api.Message
	zone string
}

// says: what is said of a name within the zone, and a type; FoundNone if that
// is nothing of use. Records of an absence are the SOA.
func (a answer) says(n string, t int) api.Found {
	switch {
	case a.TC || a.Rcode != api.NoError && a.Rcode != api.NxDomain && a.Rcode != api.YxDomain:
		return api.Found{}
	case len(a.Answers) > 0:
		return a.there(n, t)
	}
	return a.elsewhere(n, t)
}

// there: what the answers say. A server begins with the name that was asked
// for; the code is that of the last one to which it leads.
func (a answer) there(n string, t int) api.Found {
	first := a.Answers[0]
	f := api.Found{Kind: api.FoundAnswer}
	switch {
	case first.Type == api.DNAME && isBelow(n, first.Owner) && name.Within(first.Owner, a.zone):
		f.Kind, f.Records = api.FoundGraft, a.Answers[:1]
	case first.Type == api.CNAME && name.Equal(n, first.Owner) && t != api.CNAME && t != api.ANY:
		f.Kind, f.Records = api.FoundAlias, a.Answers[:1]
	case t == api.ANY:
		f.Records = at(n, a.Answers)
	default:
		f.Records = ofType(at(n, a.Answers), t)
	}
	if len(f.Records) == 0 || slices.ContainsFunc(f.Records, isWrong) {
		return api.Found{}
	}
	return f
}

// elsewhere: what the authority says, of a name at which nothing was found:
// who has it, or that there is nothing.
func (a answer) elsewhere(n string, t int) api.Found {
	for _, r := range a.Authority {
		switch {
		case isWrong(r) || !a.mayTell(r.Owner, n, t):
		case r.Type == api.SOA && a.Rcode == api.NoError:
			return api.Found{Kind: api.FoundNoData, Records: []api.Record{r}}
		case r.Type == api.SOA && a.Rcode == api.NxDomain:
			return api.Found{Kind: api.FoundNoName, Records: []api.Record{r}}
		case r.Type == api.NS && a.Rcode == api.NoError && isBelow(r.Owner, a.zone):
			servers := slices.DeleteFunc(ofType(at(r.Owner, a.Authority), api.NS), isWrong)
			return api.Found{Kind: api.FoundReferral, Owner: r.Owner, Records: servers}
		}
	}
	return api.Found{}
}

// mayTell: can it be the zone that begins at apex that tells of a name and a
// type, as the server of a zone says?
func (a answer) mayTell(apex, n string, t int) bool {
	if t == api.DS && n != api.Root && name.Equal(n, apex) {
		// Those stand in the zone above.
		return false
	}
	return name.Within(n, apex) && name.Within(apex, a.zone)
}

// addressesOf: the addresses, told along with the names of servers, that these
// have: all of four bytes first. What isn't within the zone isn't the server's
// to tell.
func (a answer) addressesOf(servers []api.Record) []api.Record {
	told := make(map[string][]api.Record)
	for _, r := range a.Additional {
		if !isWrong(r) && name.Within(r.Owner, a.zone) {
			key := name.Fold(r.Owner)
			told[key] = append(told[key], r)
		}
	}
	var list []api.Record
	for _, t := range [...]int{api.A, api.AAAA} {
		for _, ns := range servers {
			list = append(list, ofType(told[name.Fold(data.Target(ns))], t)...)
		}
	}
	return list
}

func isWrong(r api.Record) bool { return !data.IsRecord(r) }

// isBelow: is a name within another, and not equal to it?
func isBelow(n, above string) bool { return name.Within(n, above) && !name.Equal(n, above) }

// at: the records of a name.
func at(n string, records []api.Record) []api.Record {
	return slices.DeleteFunc(slices.Clone(records), func(r api.Record) bool { return !name.Equal(n, r.Owner) })
}

// ofType: the records of a type.
func ofType(records []api.Record, t int) []api.Record {
	return slices.DeleteFunc(slices.Clone(records), func(r api.Record) bool { return r.Type != t })
}
