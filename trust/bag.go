package trust

import (
	"slices"

	"gazetteer/api"
	"gazetteer/data"
	"gazetteer/name"
	"gazetteer/proof"
	"gazetteer/seal"
	"gazetteer/spell"
)

// place: of what records tell. The owner is folded, so that equal ones are the
// same.
type place struct {
	owner string
	typ   int
}

func placeOf(owner string, t int) place { return place{name.Fold(owner), t} }

// bag: records from anywhere, as they are asked at a time. All lists are in
// the order in which the records came.
type bag struct {
	now    int
	told   map[place][]api.Record // DS and DNSKEY
	sigs   map[place][]api.Record // by what they cover
	proofs []api.Record           // NSEC and NSEC3
}

func bagOf(records []api.Record, now int) *bag {
	b := &bag{now: now, told: map[place][]api.Record{}, sigs: map[place][]api.Record{}}
	put := func(m map[place][]api.Record, r api.Record, t int) {
		at := placeOf(r.Owner, t)
		m[at] = append(m[at], r)
	}
	for _, r := range records {
		switch r.Type {
		case api.DS, api.DNSKEY:
			put(b.told, r, r.Type)
		case api.RRSIG:
			put(b.sigs, r, covered(r))
		case api.NSEC, api.NSEC3:
			b.proofs = append(b.proofs, r)
		}
	}
	return b
}

// covered: the type of which an RRSIG tells; 0 if its data are too short.
func covered(sig api.Record) int {
	if len(sig.Data) < 2 {
		return 0
	}
	return spell.Value(sig.Data[:2])
}

// set: the DS or DNSKEY of a name. Whether they are a set is asked with their
// signatures, as none fits what isn't.
func (b *bag) set(n string, t int) []api.Record { return unlike(b.told[placeOf(n, t)]) }

// unlike: the records, of those that are like each other the first.
func unlike(records []api.Record) []api.Record {
	seen := make(map[data.Sense]struct{}, len(records))
	var list []api.Record
	for _, r := range records {
		sense := data.SenseOf(r)
		if _, ok := seen[sense]; !ok {
			seen[sense] = struct{}{}
			list = append(list, r)
		}
	}
	return list
}

func dataOf(set []api.Record) []string {
	var list []string
	for _, r := range set {
		list = append(list, r.Data)
	}
	return list
}

// signaturesOf: those that cover a set.
func (b *bag) signaturesOf(set []api.Record) []api.Record {
	return b.sigs[placeOf(set[0].Owner, set[0].Type)]
}

// isSigned: is a set there, and signed by one of a zone's keys?
func (b *bag) isSigned(set []api.Record, zone string, keys ...string) bool {
	if len(set) == 0 {
		return false
	}
	return slices.ContainsFunc(b.signaturesOf(set), func(sig api.Record) bool {
		return b.fits(set, sig, zone, keys)
	})
}

// fits: does a signature fit one of a zone's keys?
func (b *bag) fits(set []api.Record, sig api.Record, zone string, keys []string) bool {
	return slices.ContainsFunc(keys, func(key string) bool {
		return seal.Verify(set, sig, zone, key, b.now) == api.OK
	})
}

// proved: the proofs of absence that a trusted zone has signed.
func (b *bag) proved(z api.Trust) []api.Record {
	useless := func(r api.Record) bool { return !proof.MayUse(z.Zone, r) }
	unsigned := func(r api.Record) bool { return !b.isSigned([]api.Record{r}, z.Zone, z.Keys...) }
	// What is like another is signed as that is: it need not be asked again.
	usable := unlike(slices.DeleteFunc(slices.Clone(b.proofs), useless))
	return slices.DeleteFunc(usable, unsigned)
}
