package trust_test

import (
	"math/rand"
	"slices"
	"strconv"
	"strings"
	"testing"

	"gazetteer/api"
	"gazetteer/master"
	"gazetteer/name"
	"gazetteer/seal"
	"gazetteer/signer"
	"gazetteer/trust"
	"gazetteer/zone"
)

// P13.4, of zones of chance that are signed one below the other.

// realm: a signed zone, and whether all from the topmost one down to it have DS.
type realm struct {
	zone    *zone.Zone
	trusted bool
}

// land: zones, one below the other, and the anchor of the topmost one.
type land struct {
	anchors []api.Anchor
	realms  []realm
	bag     []api.Record
	from    int // of all times at which all of them are signed
	until   int
}

// plan: keys from a number on, of which at least one signs; and the data of the
// DNSKEY of one that signs DNSKEY.
func (d dice) plan(first int, hashed bool) (api.Plan, string) {
	p := api.Plan{From: 90 + d.Intn(20), Until: 190 + d.Intn(20), KeyTTL: 30, Hashed: hashed, Salt: "s", Rounds: 1}
	for i := range 1 + d.Intn(3) {
		k := key(first + i)
		k.Flags = api.ZoneKey + d.Intn(2)
		p.Keys = append(p.Keys, api.PlanKey{Key: k, Active: i == 0 || d.rare(2)})
	}
	d.Shuffle(len(p.Keys), func(i, j int) { p.Keys[i], p.Keys[j] = p.Keys[j], p.Keys[i] })
	var entry, other []string
	for _, k := range p.Keys {
		if k.Active && k.Key.Flags == api.EntryKey {
			entry = append(entry, seal.Public(k.Key))
		} else if k.Active {
			other = append(other, seal.Public(k.Key))
		}
	}
	if len(entry) > 0 {
		return p, d.oneOf(entry...)
	}
	return p, d.oneOf(other...)
}

// content: lines of a zone's file, with an NS at each of the cuts.
func (d dice) content(cuts []string) []string {
	lines := []string{"@ SOA ns h 7 2 3 4 5", "@ NS ns.org."}
	for _, cut := range cuts {
		lines = append(lines, cut+" NS ns.org.")
		if d.rare(2) {
			lines = append(lines, "ns."+cut+" A 10.0.0.9")
		}
	}
	for range d.Intn(7) {
		owner := d.oneOf("@", "a", "b", "*", "*.a", "c.a", "d.c.a", "*.c.a", "w", "x.w", "*.x.w", "B", "e.f.g", "al", "al", "gr")
		switch owner {
		case "al":
			lines = append(lines, owner+" CNAME www.org.")
		case "gr":
			lines = append(lines, owner+" DNAME org.")
		case "e.f.g":
			lines = append(lines, owner+d.oneOf(" NS ns.org.", " TXT a"))
		default:
			lines = append(lines, owner+d.oneOf(" A 10.0.0.1", " TXT a", " A 10.0.0.2", " MX 10 mail"))
		}
	}
	return lines
}

// seat: where a zone stands: below which other, and by which labels.
type seat struct {
	above  int
	ahead  string
	apex   string
	digest string // of its key, if the zone above has the DS
}

// seats: those of two to four zones, the topmost one first.
func (d dice) seats() []seat {
	list := []seat{{above: -1, apex: n(d.oneOf(".", "ex."))}, {above: 0, ahead: d.oneOf("s", "S.t")}, {above: 1, ahead: d.oneOf("u", "v.u")}, {above: d.Intn(3), ahead: "q"}}
	list = list[:2+d.Intn(3)]
	for i := 1; i < len(list); i++ {
		list[i].apex, _, _ = name.Read(list[i].ahead, list[list[i].above].apex)
	}
	return list
}

// records: of the zone with a number, not signed yet.
func (d dice) records(seats []seat, at int) []api.Record {
	var cuts []string
	var told []api.Record
	for _, s := range seats {
		if s.above != at {
			continue
		}
		cuts = append(cuts, s.ahead)
		if s.digest != "" {
			told = append(told, record(s.apex, api.DS, s.digest))
		}
	}
	text := "$TTL 60\n" + strings.Join(d.content(cuts), "\n")
	records, f := master.Parse(text, seats[at].apex, nil)
	if f.Code != api.OK {
		panic(text)
	}
	return append(records, told...)
}

// land: nil if chance makes no zones. They are made from the last one up, as
// the one above has the DS.
func (d dice) land(hashed bool) *land {
	seats := d.seats()
	l := &land{until: 300, realms: make([]realm, len(seats))}
	for i := len(seats) - 1; i >= 0; i-- {
		s := &seats[i]
		plan, entry := d.plan(3*i+1, hashed)
		signed, e := signer.Sign(s.apex, d.records(seats, i), plan)
		if e != api.OK {
			return nil
		}
		z, _, e := zone.New(s.apex, signed)
		if e != api.OK {
			panic(tell(signed))
		}
		l.realms[i].zone = z
		l.bag = append(l.bag, signed...)
		l.from, l.until = max(l.from, plan.From), min(l.until, plan.Until)
		if i == 0 || !d.rare(3) {
			s.digest, _ = seal.Ds(s.apex, entry)
		}
	}
	l.anchors = []api.Anchor{{Zone: seats[0].apex, Ds: seats[0].digest}}
	for i, s := range seats {
		l.realms[i].trusted = i == 0 || s.digest != "" && l.realms[s.above].trusted
	}
	d.Shuffle(len(l.bag), func(i, j int) { l.bag[i], l.bag[j] = l.bag[j], l.bag[i] })
	return l
}

// now: a time at which all is signed, often the first or the last.
func (d dice) now(l *land) int {
	return []int{l.from, l.until, l.from + d.Intn(l.until-l.from+1)}[d.Intn(3)]
}

// signedSets: the sets of a zone that are signed, without the NSEC of cuts.
func signedSets(z *zone.Zone) [][]api.Record {
	var list [][]api.Record
	for _, owner := range z.Names() {
		isCut := len(z.Set(owner, api.NS)) > 0 && !name.Equal(owner, z.Apex())
		list = append(list, setsAt(z, owner, isCut)...)
	}
	// A hash's owner isn't there by its NSEC3.
	for _, r := range z.Records() {
		if r.Type == api.NSEC3 {
			list = append(list, []api.Record{r})
		}
	}
	return list
}

func setsAt(z *zone.Zone, owner string, isCut bool) [][]api.Record {
	var list [][]api.Record
	for _, sig := range z.Set(owner, api.RRSIG) {
		t := int(sig.Data[0])<<8 | int(sig.Data[1])
		set := z.Set(owner, t)
		again := slices.ContainsFunc(list, func(other []api.Record) bool { return other[0].Type == t })
		if !again && t != api.NSEC3 && !(isCut && t == api.NSEC) {
			list = append(list, set)
		}
	}
	return list
}

func TestSignedZones(t *testing.T) {
	t.Parallel()
	d := dice{rand.New(rand.NewSource(134))}
	tally := map[string]int{}
	for i := range 200 {
		hashed := i%4 == 3 // more than is promised
		l := d.land(hashed)
		if l == nil {
			tally["no land"]++
			continue
		}
		l.checkSets(t, d, tally)
		if !hashed {
			l.checkNames(t, d, tally)
		}
	}
	for _, word := range []string{"secure", "insecure", "secure below", "no name", "no data", "answer", "alias"} {
		if tally[word] < 20 {
			t.Errorf("too few: %s %d", word, tally[word])
		}
	}
	if tally["no land"] > 100 {
		t.Errorf("too many: %d", tally["no land"])
	}
}

// checkSets: of all that is signed Judge says what the DS above say.
func (l *land) checkSets(t *testing.T, d dice, tally map[string]int) {
	t.Helper()
	for i, r := range l.realms {
		want := api.TrustInsecure
		if r.trusted {
			want = api.TrustSecure
		}
		for _, set := range signedSets(r.zone) {
			now := d.now(l)
			if got := trust.Judge(l.anchors, l.bag, set, now); got != want {
				t.Fatalf("P13.4: at %d Judge(%s) of the zone %q = %d; wanted %d\nof %s", now, tell(set), r.zone.Apex(), got, want, tell(l.bag))
			}
			tally[tellStatus(want)]++
			if i > 0 && r.trusted {
				tally["secure below"]++
			}
		}
	}
}

// checkNames: what isn't there is proved, and nothing else.
func (l *land) checkNames(t *testing.T, d dice, tally map[string]int) {
	t.Helper()
	for range 30 {
		r := l.realms[d.Intn(len(l.realms))]
		q, _, _ := name.Read(d.oneOf("@", "a", "A", "b.a", "c.a", "x.c.a", "y.x.c.a", "*", "*.a", "w", "x.w", "z.x.w", "no", "g", "f.g", "al", "al", "gr", "s", "t", "u", "q", "s.t", "x.al"), r.zone.Apex())
		typ := []int{api.A, api.TXT, api.DS, api.NS, api.CNAME, api.ANY, api.RRSIG, api.NSEC, api.MX, api.SOA, 65535}[d.Intn(11)]
		now := d.now(l)
		w := trust.Walk(l.anchors, l.bag, q, typ, now)
		if w.Status != api.TrustSecure {
			continue
		}
		at := slices.IndexFunc(l.realms, func(r realm) bool { return name.Equal(r.zone.Apex(), w.Zone) })
		if at < 0 || !l.realms[at].trusted {
			t.Fatalf("P13.4: Walk(%q, %d) = %s\nof %s", q, typ, tellTrust(w), tell(l.bag))
		}
		status, proof := trust.Absent(l.anchors, l.bag, q, typ, now)
		got := tellStatus(status) + " " + tellProof(proof)
		word, want := "", ""
		switch l.realms[at].zone.Find(q, typ).Kind {
		case api.FoundNoName:
			word, want = "no name", "secure no name"
		case api.FoundNoData:
			word, want = "no data", "secure no data"
		case api.FoundAnswer:
			word, want = "answer", "bogus nothing"
		case api.FoundAlias:
			word, want = "alias", "bogus nothing"
		default:
			continue
		}
		tally[word]++
		if got != want {
			t.Fatalf("P13.4: Absent(%q, %s) = %s; wanted %s, as %q says\nof %s", q, strconv.Itoa(typ), got, want, w.Zone, tell(l.bag))
		}
	}
}
