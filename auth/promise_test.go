package auth_test

import (
	"math/rand"
	"slices"
	"strings"
	"testing"

	"gazetteer/api"
	"gazetteer/auth"
	"gazetteer/name"
	"gazetteer/proof"
	"gazetteer/seal"
	"gazetteer/signer"
	"gazetteer/zone"
)

// P9.3, of zones of chance.

// stands: is the record one of the zones, with this owner or at a star above it?
func stands(zones []*zone.Zone, r api.Record) bool {
	for _, z := range zones {
		if z == nil {
			continue
		}
		for _, at := range ownersOf(r.Owner) {
			for _, o := range z.Set(at, r.Type) {
				if o.Data == r.Data && (o.TTL == r.TTL || r.Type == api.SOA && r.TTL < o.TTL) {
					return true
				}
			}
		}
	}
	return false
}

// ownersOf gives a name and the stars of those above it.
func ownersOf(n string) []string {
	list := []string{n}
	for n != api.Root {
		n = name.Parent(n)
		list = append(list, name.Star(n))
	}
	return list
}

// made: is the record the alias that a DNAME of the answers makes?
func made(a api.Message, r api.Record) bool {
	return r.Type == api.CNAME && slices.ContainsFunc(a.Answers, func(d api.Record) bool {
		if d.Type != api.DNAME || d.TTL != r.TTL || name.Equal(d.Owner, r.Owner) {
			return false
		}
		to, e := name.Graft(r.Owner, d.Owner, d.Data)
		return e == api.OK && to == r.Data
	})
}

// TestNothingElse: what is said stands in a zone.
func TestNothingElse(t *testing.T) {
	d := dice{rand.New(rand.NewSource(93))}
	records, grafts := 0, 0
	for range 400 {
		zones := d.zones()
		for range 30 {
			m := d.message(zones)
			a, _ := auth.Answer(zones, m)
			for _, r := range slices.Concat(a.Answers, a.Authority, a.Additional) {
				records++
				switch {
				case r == opt(4096, r.TTL) || r.Class == api.IN && stands(zones, r):
				case made(a, r):
					grafts++
				default:
					t.Fatalf("P9.3 of %+v: %s stands nowhere: %q", m, told(r), showZones(zones))
				}
			}
		}
	}
	if records < 10000 || grafts < 100 {
		t.Errorf("too few: %d records, %d made", records, grafts)
	}
}

// keys: one that is an entry and one that isn't, or one alone, and one that
// doesn't sign.
func keys(both bool) []api.PlanKey {
	entry, e1 := seal.NewKey(251, 263, 3, api.EntryKey)
	own, e2 := seal.NewKey(257, 263, 3, api.ZoneKey)
	next, e3 := seal.NewKey(257, 269, 3, api.ZoneKey)
	if e1 != api.OK || e2 != api.OK || e3 != api.OK {
		panic("no keys")
	}
	list := []api.PlanKey{{Key: entry, Active: true}, {Key: next}}
	if both {
		list = append(list, api.PlanKey{Key: own, Active: true})
	}
	return list
}

// alone gives a signed zone of chance in which names lead to one another.
func (d dice) alone() *zone.Zone {
	apex := n(d.oneOf("ex.", "Ex.", "."))
	records := list(name.Show(apex), "@ SOA ns h 7 2 3 4 "+d.oneOf("5", "90"), "@ NS "+d.target())
	kinds := []int{3, 12, 12}[d.Intn(3)]
	for range d.Intn(14) {
		more := append(slices.Clone(records), list(name.Show(apex), d.line(apex, kinds))...)
		if _, _, e := zone.New(apex, more); e == api.OK {
			records = more
		}
	}
	p := api.Plan{Keys: keys(d.Intn(2) == 0), From: 1000, Until: 2000, KeyTTL: 30}
	records, e := signer.Sign(apex, records, p)
	if e != api.OK {
		panic("no signed zone")
	}
	return newZone(name.Show(apex), records)
}

// setsOf gives the sets of a section.
func setsOf(section []api.Record) [][]api.Record {
	var sets [][]api.Record
	for _, r := range section {
		if r.Type == api.RRSIG {
			continue
		}
		at := slices.IndexFunc(sets, func(set []api.Record) bool { return set[0].Type == r.Type && name.Equal(set[0].Owner, r.Owner) })
		if at < 0 {
			sets = append(sets, nil)
			at = len(sets) - 1
		}
		sets[at] = append(sets[at], r)
	}
	return sets
}

// fits: has the set a signature in the section that fits a key of the zone at
// every time that is asked?
func fits(z *zone.Zone, section, set []api.Record) bool {
	for _, sig := range section {
		for _, key := range z.Set(z.Apex(), api.DNSKEY) {
			ok := sig.Type == api.RRSIG
			for _, now := range []int{1000, 1001, 1500, 2000} {
				ok = ok && seal.Verify(set, sig, z.Apex(), key.Data, now) == api.OK
			}
			if ok {
				return true
			}
		}
	}
	return false
}

// lastName gives the one that was looked for last, where the answer ends there.
func lastName(a api.Message) string {
	last := a.Questions[0].Name
	for _, r := range a.Answers {
		if r.Type == api.CNAME {
			last = r.Data
		}
	}
	return last
}

// checkPromise: every set is signed, and what isn't there is proved.
func checkPromise(t *testing.T, z *zone.Zone, a api.Message) (signed, denied int) {
	t.Helper()
	typ := a.Questions[0].Type
	referral := z.Find(lastName(a), typ).Kind == api.FoundReferral
	for _, section := range [][]api.Record{a.Answers, a.Authority} {
		for _, set := range setsOf(section) {
			if made(a, set[0]) || referral && set[0].Type == api.NS && &section[0] == &a.Authority[0] {
				continue
			}
			signed++
			if !fits(z, section, set) {
				t.Fatalf("P9.3: no signature of %q fits: %q of the zone %q", told(set[0]), tell(a), showZones([]*zone.Zone{z}))
			}
		}
	}
	if !slices.ContainsFunc(a.Authority, func(r api.Record) bool { return r.Type == api.SOA }) {
		return signed, 0
	}
	want := api.ProofNoData
	if a.Rcode == api.NxDomain {
		want = api.ProofNoName
	}
	if got := proof.Judge(z.Apex(), a.Authority, lastName(a), typ); got != want {
		t.Fatalf("P9.3: what is said of %s proves %d, wanted %d: %q of the zone %q", name.Show(lastName(a)), got, want, tell(a), showZones([]*zone.Zone{z}))
	}
	return signed, 1
}

func TestPromise(t *testing.T) {
	d := dice{rand.New(rand.NewSource(39))}
	signed, denied := 0, 0
	types := []int{1, 2, 5, 6, 15, 16, 28, 33, 39, 43, 47, 48, 50, 51, 65535}
	for range 300 {
		z := d.alone()
		for range 40 {
			q := api.Question{Name: d.known([]*zone.Zone{z}), Type: types[d.Intn(len(types))], Class: api.IN}
			if !name.Within(q.Name, z.Apex()) {
				continue
			}
			m := proved(api.Message{Questions: []api.Question{q}})
			a := said(t, []*zone.Zone{z}, m)
			s, n := checkPromise(t, z, a)
			signed, denied = signed+s, denied+n
		}
	}
	if signed < 10000 || denied < 3000 {
		t.Errorf("too few: %d sets, %d denied", signed, denied)
	}
}

// TestPromiseOfExample: the same of a zone with something of each kind, and of
// each of its names.
func TestPromiseOfExample(t *testing.T) {
	z := signed("ex.", false, example()...)
	// plan's times are others.
	records, e := signer.Sign(z.Apex(), z.Records(), api.Plan{Keys: keys(true), From: 1000, Until: 2000, KeyTTL: 30})
	if e != api.OK {
		t.Fatal("no signed zone")
	}
	z = newZone("ex.", records)
	for _, at := range z.Names() {
		for _, q := range []string{at, "\x01a" + at, "\x01*" + at, "\x01Z" + at, "\x01z\x01a" + at} {
			for _, typ := range []int{1, 2, 5, 6, 15, 16, 28, 39, 43, 47, 48, 65535} {
				m := proved(api.Message{Questions: []api.Question{{Name: q, Type: typ, Class: api.IN}}})
				checkPromise(t, z, said(t, []*zone.Zone{z}, m))
			}
		}
	}
	if strings.Join(tell(said(t, []*zone.Zone{z}, proved(ask("ex.", "DNSKEY")))), "; ") != "rcode 0 aa; an ex. 30 DNSKEY; an ex. 30 DNSKEY; an ex. 30 DNSKEY; an ex. 30 RRSIG DNSKEY" {
		t.Error("P9.1 of the keys of a zone")
	}
}
