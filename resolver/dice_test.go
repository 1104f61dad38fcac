package resolver_test

import (
	"math/rand"
	"slices"
	"strconv"
	"strings"

	"gazetteer/api"
	"gazetteer/data"
	"gazetteer/name"
	"gazetteer/seal"
	"gazetteer/signer"
	"gazetteer/zone"
)

// Honest worlds of chance.

type dice struct{ *rand.Rand }

// pick gives one of some things.
func pick[T any](d dice, list ...T) T { return list[d.Intn(len(list))] }

// letters gives a name with some letters large.
func (d dice) letters(n string) string {
	b := []byte(n)
	for i := range b {
		if 'a' <= b[i] && b[i] <= 'z' && d.Intn(4) == 0 {
			b[i] -= 32
		}
	}
	return string(b)
}

// draft: a world under way.
type draft struct {
	dice
	apexes    []string                // the root first
	records   map[string][]api.Record // of zones
	servers   map[string][]string     // addresses of servers' names
	has       map[string][]string     // zones that an address has
	addresses int
}

// holder gives the apex of the zone that has a name.
func (d *draft) holder(n string) string {
	best := api.Root
	for _, apex := range d.apexes {
		if name.Within(n, apex) && len(apex) > len(best) {
			best = apex
		}
	}
	return best
}

// parent gives the apex of the zone above.
func (d *draft) parent(apex string) string { return d.holder(name.Parent(apex)) }

// add puts a record into a zone; false if it may not stand there.
func (d *draft) add(apex string, r api.Record) bool {
	with := append(slices.Clone(d.records[apex]), r)
	if _, _, e := zone.New(apex, with); e != api.OK {
		return false
	}
	d.records[apex] = with
	return true
}

// must puts a record into a zone, unless it is there.
func (d *draft) must(apex string, r api.Record) {
	for _, o := range d.records[apex] {
		if data.SenseOf(o) == data.SenseOf(r) {
			return
		}
	}
	d.records[apex] = append(d.records[apex], r)
}

// age gives one for a set, the same each time.
func (d *draft) age(owner string, t int) int {
	sum := t
	for _, b := range []byte(name.Fold(owner)) {
		sum = sum*31 + int(b)
	}
	return [...]int{0, 1, 5, 60, 60, 300, 3600, 1000000}[(sum%8+8)%8]
}

// choose gives the apexes of a world.
func (d *draft) choose() {
	d.apexes = []string{api.Root}
	for _, text := range []string{"a.", "b.", "c.", "b.a.", "c.b.a.", "d.c.b.a.", "x.y.b.", "a.a.", "z.x.y.b.", "d.c."} {
		if d.Intn(2) == 0 {
			d.apexes = append(d.apexes, d.letters(n(text)))
		}
	}
}

// serve gives a zone servers. Each has a name within the parent or the zone, of
// its own or of a zone beside it, and addresses that have the zone.
func (d *draft) serve(apex string) []string {
	parent := d.parent(apex)
	var names []string
	for range 1 + d.Intn(3) {
		label := "\x02n" + strconv.Itoa(d.Intn(3))
		below := pick(d.dice, apex, apex, parent, "\x01s"+apex, pick(d.dice, d.apexes...))
		if !name.Within(below, parent) {
			below = apex
		}
		server := label + name.Fold(below)
		if !slices.Contains(names, server) {
			names = append(names, server)
		}
	}
	for _, server := range names {
		if d.servers[server] == nil {
			for range 1 + d.Intn(2) {
				address := at(1 + d.Intn(4))
				if d.Intn(3) > 0 {
					d.addresses++
					address = at(10 + d.addresses)
				}
				if !slices.Contains(d.servers[server], address) {
					d.servers[server] = append(d.servers[server], address)
				}
			}
		}
		for _, address := range d.servers[server] {
			if !slices.Contains(d.has[address], apex) {
				d.has[address] = append(d.has[address], apex)
			}
		}
	}
	return names
}

// delegate tells a zone's servers in it and in the one above.
func (d *draft) delegate(apex string, names []string) {
	parent := d.parent(apex)
	for _, server := range names {
		for i, z := range []string{parent, apex} {
			// Ages may be others in the zone than in the one above.
			d.must(z, api.Record{Owner: apex, Type: api.NS, Class: api.IN, TTL: d.age(apex, api.NS+i), Data: server})
		}
		for _, address := range d.servers[server] {
			d.must(parent, api.Record{Owner: server, Type: api.A, Class: api.IN, TTL: d.age(server, len(parent)), Data: address})
			holder := d.holder(server)
			d.must(holder, api.Record{Owner: server, Type: api.A, Class: api.IN, TTL: d.age(server, len(holder)), Data: address})
		}
	}
}

// anyName gives a name of the world, of a zone or of none.
func (d *draft) anyName() string {
	below := pick(d.dice, d.apexes...)
	for range d.Intn(3) {
		below = pick(d.dice, "\x01a", "\x01b", "\x01c", "\x01d", "\x03www", "\x01*", "\x01s", "\x02n1") + below
	}
	return d.letters(below)
}

// stands gives a name at which something stands.
func (d *draft) stands() string {
	return pick(d.dice, d.records[pick(d.dice, d.apexes...)]...).Owner
}

// anyRecord gives a record of a name, of the types that matter most often.
func (d *draft) anyRecord(owner string) api.Record {
	r := api.Record{Owner: owner, Class: api.IN}
	if d.Intn(8) == 0 {
		// One below which nothing else stands.
		r.Owner, r.Type = pick(d.dice, "\x01g", "\x01h")+owner, api.DNAME
		r.TTL, r.Data = d.age(r.Owner, r.Type), pick(d.dice, d.anyName(), name.Parent(r.Owner), r.Owner)
		return r
	}
	r.Type = pick(d.dice, api.A, api.A, api.AAAA, api.TXT, api.CNAME, api.CNAME, api.CNAME, api.DNAME, api.DNAME, api.MX, api.SRV, api.DS, api.NSEC, 65280, api.NS)
	switch r.Type {
	case api.A:
		r.Data = at(2000 + d.Intn(3))
	case api.AAAA:
		r.Data = strings.Repeat(at(3), 4)
	case api.CNAME, api.DNAME, api.NS:
		r.Data = pick(d.dice, d.anyName(), d.letters(d.stands()))
	case api.MX:
		r.Data = "\x00\x01" + d.anyName()
	case api.SRV:
		r.Data = "\x00\x01\x00\x01\x00\x01" + d.anyName()
	case api.DS:
		r.Data = "\x00\x01\xfd\x01\xaa"
	case api.NSEC:
		r.Data = d.anyName() + data.Set([]int{api.A, api.NSEC})
	default:
		r.Data = pick(d.dice, "\x01x", "\x02yz", "\x00")
	}
	r.TTL = d.age(owner, r.Type)
	return r
}

// mayStand: does the world stay honest with this record in a zone? No servers
// are named above a zone but at zones, those of zones don't change, and neither
// do their addresses.
func (d *draft) mayStand(r api.Record) bool {
	switch r.Type {
	case api.NS:
		return !slices.ContainsFunc(d.apexes, func(apex string) bool { return name.Within(apex, r.Owner) })
	case api.A:
		return d.servers[name.Fold(r.Owner)] == nil
	}
	return true
}

// world gives an honest one, and the addresses of its root's servers.
func (d dice) world() (*world, []string) {
	w := &draft{dice: d, records: map[string][]api.Record{}, servers: map[string][]string{}, has: map[string][]string{}}
	w.choose()
	roots := []string{at(1), at(2), at(3)}[:1+d.Intn(3)]
	for _, address := range roots {
		w.has[address] = []string{api.Root}
	}
	names := map[string][]string{}
	for _, apex := range w.apexes[1:] {
		names[apex] = w.serve(apex)
	}
	for _, apex := range w.apexes {
		minimum := string([]byte{0, 0, 0, byte(pick(d, 0, 5, 60))})
		w.must(apex, api.Record{Owner: apex, Type: api.SOA, Class: api.IN, TTL: pick(d, 0, 30, 30, 600), Data: n("ns.") + n("h.") + strings.Repeat("\x00\x00\x00\x09", 4) + minimum})
	}
	w.must(api.Root, api.Record{Owner: api.Root, Type: api.NS, Class: api.IN, TTL: 60, Data: w.anyName()})
	for _, apex := range w.apexes[1:] {
		w.delegate(apex, names[apex])
	}
	for range 10 + d.Intn(60) {
		owner := w.anyName()
		zone := w.holder(owner)
		if d.Intn(6) == 0 && zone != api.Root {
			zone = w.parent(zone) // at or below a cut
		}
		if r := w.anyRecord(owner); w.mayStand(r) {
			w.add(zone, r)
		}
	}
	return w.finish(), roots
}

// finish makes the zones, signs some, and lays them on their servers.
func (d *draft) finish() *world {
	w := &world{servers: map[string][]*zone.Zone{}}
	key, _ := seal.NewKey(251, 263, 3, 257)
	for _, apex := range d.apexes {
		records := d.records[apex]
		if d.Intn(5) == 0 {
			plan := api.Plan{Keys: []api.PlanKey{{Key: key, Active: true}}, From: 0, Until: 4000000000, KeyTTL: 60, Hashed: d.Intn(2) == 0}
			if signed, e := signer.Sign(apex, records, plan); e == api.OK {
				records = signed
			}
		}
		z, at, e := zone.New(apex, records)
		if e != api.OK {
			panic("no zone " + name.Show(apex) + ": error " + strconv.Itoa(int(e)) + " of " + told(records[max(at, 0)]))
		}
		w.zones = append(w.zones, z)
	}
	for address, apexes := range d.has {
		for _, apex := range apexes {
			w.servers[address] = append(w.servers[address], w.zones[slices.Index(d.apexes, apex)])
		}
		d.Shuffle(len(apexes), func(i, j int) {
			w.servers[address][i], w.servers[address][j] = w.servers[address][j], w.servers[address][i]
		})
	}
	return w
}

// question gives a name and a type: most often what stands in the world, or
// what leads on from there.
func (d dice) question(w *world) (string, int) {
	z := pick(d, w.zones...)
	r := pick(d, z.Records()...)
	for range 3 {
		// Those that lead on are more often looked at.
		if r.Type != api.CNAME && r.Type != api.DNAME {
			z = pick(d, w.zones...)
			r = pick(d, z.Records()...)
		}
	}
	q, t := r.Owner, pick(d, r.Type, r.Type, api.A, api.TXT)
	if r.Type == api.DNAME {
		q = pick(d, "", "\x01a", "\x01b", "\x03www", "\x01a\x01b") + q
	}
	switch d.Intn(8) {
	case 0:
		q = pick(d, z.Names()...)
	case 1:
		q = pick(d, w.zones...).Apex()
	case 2:
		q = pick(d, "\x01a", "\x01b", "\x03www", "\x01q", "\x01*") + q
	case 3:
		t = pick(d, api.CNAME, api.DNAME, api.ANY, api.DS, api.NS, api.SOA, api.MX, api.AAAA, api.RRSIG, api.NSEC, api.NSEC3, api.DNSKEY, 65280, 65535)
	}
	if name.Check(q) != api.OK {
		q = z.Apex()
	}
	return d.letters(q), t
}
