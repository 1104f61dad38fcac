package zone

import (
	"cmp"
	"slices"
	"strings"

	"gazetteer/api"
	"gazetteer/data"
	"gazetteer/name"
)

// draft: a zone under way, laid out so that the rules can be asked of it.
type draft struct {
	zone   *Zone
	apex   string             // folded
	given  []api.Record       // in the list's order
	senses []data.Sense       // of each of these
	likes  map[data.Sense]int // the number of the first record of that sense
	firsts map[place]int      // and of a place
}

// placeOf: where a record of that sense stands.
func placeOf(s data.Sense) place { return place{s.Owner, s.Type} }

// newDraft: records that are right, and within apex.
func newDraft(apex string, records []api.Record) *draft {
	d := &draft{
		zone:   &Zone{apex: apex, rows: make(map[place]row), names: make(map[string]int)},
		apex:   name.Fold(apex),
		given:  records,
		likes:  make(map[data.Sense]int),
		firsts: make(map[place]int),
	}
	for i, r := range records {
		s := data.SenseOf(r)
		d.senses = append(d.senses, s)
		if _, ok := d.likes[s]; !ok {
			d.likes[s] = i
		}
		if _, ok := d.firsts[placeOf(s)]; !ok {
			d.firsts[placeOf(s)] = i
		}
	}
	d.lay()
	return d
}

// lay fills the zone with the records in their order.
func (d *draft) lay() {
	order := make([]int, len(d.given))
	for i := range order {
		order[i] = i
	}
	slices.SortStableFunc(order, func(i, j int) int { return compare(d.senses[i], d.senses[j]) })
	for at, i := range order {
		s := d.senses[i]
		d.zone.records = append(d.zone.records, d.given[i])
		d.zone.extend(placeOf(s), at)
		d.zone.extend(place{s.Owner, allTypes}, at)
	}
}

func compare(a, b data.Sense) int {
	if a.Owner != b.Owner {
		return name.Compare(a.Owner, b.Owner)
	}
	return cmp.Or(cmp.Compare(a.Type, b.Type), strings.Compare(a.Data, b.Data))
}

// extend: the record of that number stands at p too, behind those before it.
func (z *Zone) extend(p place, at int) {
	r, ok := z.rows[p]
	if !ok {
		r.from = at
	}
	r.to = at + 1
	z.rows[p] = r
}

// kept: in the place of a number, that a rule is kept.
const kept = -2

// fault: the first rule that is broken, of those that ask about the list as a
// whole, and the record that breaks it.
func (d *draft) fault() (int, api.Errno) {
	for _, rule := range []struct {
		code   api.Errno
		broken int
	}{
		{api.ErrTwice, d.first(d.isTwice)},
		{api.ErrSoa, d.first(d.isStraySoa)},
		{api.ErrSoa, d.lack(api.SOA)},
		{api.ErrNs, d.lack(api.NS)},
		{api.ErrWild, d.first(d.isWild)},
		{api.ErrCname, d.first(d.isCrowdedAlias)},
		{api.ErrDname, d.first(d.isWrongGraft)},
		{api.ErrTtl, d.first(d.isOfOtherAge)},
	} {
		if rule.broken != kept {
			return rule.broken, rule.code
		}
	}
	return 0, api.OK
}

// first: the number of the first record that breaks a rule.
func (d *draft) first(breaks func(i int, r api.Record) bool) int {
	for i, r := range d.given {
		if breaks(i, r) {
			return i
		}
	}
	return kept
}

// lack: whole if no record of the type stands at the apex.
func (d *draft) lack(t int) int {
	if !d.zone.has(d.apex, t) {
		return whole
	}
	return kept
}

func (d *draft) isTwice(i int, _ api.Record) bool { return d.likes[d.senses[i]] != i }

func (d *draft) isStraySoa(i int, r api.Record) bool {
	return r.Type == api.SOA && (d.senses[i].Owner != d.apex || d.firsts[placeOf(d.senses[i])] != i)
}

func (d *draft) isWild(_ int, r api.Record) bool {
	return (r.Type == api.NS || r.Type == api.DNAME) && name.IsStar(r.Owner)
}

func (d *draft) isCrowdedAlias(i int, r api.Record) bool {
	if r.Type != api.CNAME {
		return false
	}
	others := 0
	for _, o := range d.zone.at(d.senses[i].Owner, allTypes) {
		if o.Type != api.RRSIG && o.Type != api.NSEC {
			others++
		}
	}
	return others > 1
}

func (d *draft) isWrongGraft(i int, r api.Record) bool {
	if r.Type != api.DNAME {
		return false
	}
	owner := d.senses[i].Owner
	return owner == d.apex || len(d.zone.at(owner, api.DNAME)) > 1 || d.zone.hasBelow(owner)
}

// hasBelow: does any record stand below an owner? The first of these would
// come right behind the owner's own.
func (z *Zone) hasBelow(owner string) bool {
	next := z.rows[place{owner, allTypes}].to
	return next < len(z.records) && name.Within(z.records[next].Owner, owner)
}

func (d *draft) isOfOtherAge(i int, r api.Record) bool {
	return r.Type != api.RRSIG && r.TTL != d.given[d.firsts[placeOf(d.senses[i])]].TTL
}
