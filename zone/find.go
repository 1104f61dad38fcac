package zone

import (
	"slices"

	"gazetteer/api"
	"gazetteer/name"
)

// lastType: the greatest number of a type.
const lastType = 65535

// Find: what the zone says of a name and a type.
func (z *Zone) Find(q string, t int) api.Found {
	if !name.Within(q, z.apex) || t < 1 || t > lastType {
		return api.Found{}
	}
	n := name.Fold(q)
	if kind, at := z.leaves(n, t); kind != api.FoundNone {
		return api.Found{Kind: kind, Owner: lettersOf(q, at), Records: z.at(at, typeLeft(kind))}
	}
	if z.isThere(n) {
		kind, records := z.says(n, t)
		return api.Found{Kind: kind, Owner: q, Encloser: q, Records: records}
	}
	return z.findAbsent(q, t)
}

// lettersOf: an end of q, as it is spelled in q.
func lettersOf(q, end string) string { return q[len(q)-len(end):] }

// leaves: where what is looked for leaves the zone, on the way down to n, and
// as what kind; FoundNone if it doesn't.
func (z *Zone) leaves(n string, t int) (int, string) {
	for _, on := range z.path(n)[1:] {
		// Who has the zone above tells the DS of the one below.
		if z.has(on, api.NS) && !(on == n && t == api.DS) {
			return api.FoundReferral, on
		}
		if z.has(on, api.DNAME) && on != n {
			return api.FoundGraft, on
		}
	}
	return api.FoundNone, ""
}

// typeLeft: the type of records by which the zone is left.
func typeLeft(kind int) int {
	if kind == api.FoundGraft {
		return api.DNAME
	}
	return api.NS
}

// says: what stands at a name that is there.
func (z *Zone) says(n string, t int) (int, []api.Record) {
	var records []api.Record
	switch {
	case t == api.ANY:
		records = slices.DeleteFunc(z.at(n, allTypes), func(r api.Record) bool { return !counts(r) })
	case t != api.CNAME && z.has(n, api.CNAME):
		return api.FoundAlias, z.at(n, api.CNAME)
	default:
		records = z.at(n, t)
	}
	if len(records) == 0 {
		return api.FoundNoData, nil
	}
	return api.FoundAnswer, records
}

// findAbsent: what is said of a name that isn't there.
func (z *Zone) findAbsent(q string, t int) api.Found {
	n := name.Fold(q)
	// The apex is there, so this ends.
	for !z.isThere(n) {
		n = above(n)
	}
	encloser, star := lettersOf(q, n), name.Star(n)
	if !z.isThere(star) {
		return api.Found{Kind: api.FoundNoName, Owner: q, Encloser: encloser}
	}
	kind, records := z.says(star, t)
	for i := range records {
		records[i].Owner = q
	}
	return api.Found{Kind: kind, Owner: name.Star(encloser), Encloser: encloser, Wild: true, Records: records}
}
