package auth_test

import (
	"math/rand"
	"reflect"
	"slices"
	"strings"
	"testing"

	"gazetteer/api"
	"gazetteer/auth"
	"gazetteer/data"
	"gazetteer/name"
	"gazetteer/proof"
	"gazetteer/signer"
	"gazetteer/wire"
	"gazetteer/zone"
)

// A second reckoning of Has, Answer and Serve, held against the package by zones
// and messages of chance. It lays down all that is to be said, then signs it, and
// leaves out last what stands there twice.

func modelHas(zones []*zone.Zone, q string, t int) *zone.Zone {
	var around []*zone.Zone
	for _, z := range zones {
		if z != nil && name.Within(q, z.Apex()) && !slices.ContainsFunc(around, func(o *zone.Zone) bool { return len(o.Apex()) == len(z.Apex()) }) {
			around = append(around, z)
		}
	}
	slices.SortFunc(around, func(a, b *zone.Zone) int { return len(b.Apex()) - len(a.Apex()) })
	switch {
	case len(around) == 0:
		return nil
	case t == api.DS && len(around) > 1 && len(around[0].Apex()) == len(q):
		return around[1]
	}
	return around[0]
}

// item: a record that is to be said.
type item struct {
	section string
	record  api.Record
	step    int
	zone    *zone.Zone // whose signatures go with it; nil if none do
	star    string     // at which it stands there, if it is told of another name
}

// draft: what is to be said so far.
type draft struct {
	zones  []*zone.Zone
	t      int
	proofs bool
	rcode  int
	aa     bool
	items  []item
	kinds  []int // of what was found
	wild   bool
}

func (d *draft) lay(section string, z *zone.Zone, star string, records ...api.Record) {
	for _, r := range records {
		d.items = append(d.items, item{section, r, len(d.kinds), z, star})
	}
}

func (d *draft) walk(q string) {
	d.aa = true
	var before []string
	for len(before) < 9 && !slices.Contains(before, strings.ToLower(q)) {
		z := modelHas(d.zones, q, d.t)
		if z == nil {
			return
		}
		before = append(before, strings.ToLower(q))
		if q = d.step(z, q); q == "" {
			return
		}
	}
}

func (d *draft) step(z *zone.Zone, q string) string {
	f := z.Find(q, d.t)
	d.kinds = append(d.kinds, f.Kind)
	d.wild = d.wild || f.Wild
	star, next := "", ""
	if f.Wild {
		star = f.Owner
	}
	switch f.Kind {
	case api.FoundAnswer:
		signs := z
		if d.t == api.ANY || d.t == api.RRSIG {
			signs = nil
		}
		d.lay("an", signs, star, f.Records...)
	case api.FoundAlias:
		d.lay("an", z, star, f.Records...)
		next = f.Records[0].Data
	case api.FoundGraft:
		d.lay("an", z, "", f.Records...)
		next = q[:len(q)-len(f.Owner)] + f.Records[0].Data
		if len(next) > 255 {
			d.rcode = api.YxDomain
			return ""
		}
		d.lay("an", nil, "", api.Record{Owner: q, Type: 5, Class: 1, TTL: f.Records[0].TTL, Data: next})
	case api.FoundReferral:
		d.refer(z, q, f)
		return ""
	default:
		d.soa(z)
		if f.Kind == api.FoundNoName {
			d.rcode = api.NxDomain
		}
	}
	d.prove(z, q)
	return next
}

func (d *draft) refer(z *zone.Zone, q string, f api.Found) {
	if len(d.kinds) == 1 {
		d.aa = false
	}
	d.lay("au", nil, "", f.Records...)
	if ds := z.Set(f.Owner, api.DS); len(ds) == 0 {
		d.prove(z, q)
	} else if d.proofs {
		d.lay("au", z, "", ds...)
	}
	for _, ns := range f.Records {
		if name.Within(ns.Data, z.Apex()) {
			d.lay("ad", nil, "", slices.Concat(z.Set(ns.Data, 1), z.Set(ns.Data, 28))...)
		}
	}
}

func (d *draft) soa(z *zone.Zone) {
	soa := z.Set(z.Apex(), api.SOA)[0]
	words, _ := data.Show(soa.Type, soa.Data)
	minimum := 0
	for _, digit := range words[strings.LastIndex(words, " ")+1:] {
		minimum = 10*minimum + int(digit-'0')
	}
	if minimum < soa.TTL {
		soa.TTL = minimum
	}
	d.lay("au", z, "", soa)
}

func (d *draft) prove(z *zone.Zone, q string) {
	if !d.proofs {
		return
	}
	if list, e := proof.Make(z, q, d.t); e == api.OK {
		d.lay("au", z, "", list...)
	}
}

// beside lays down the addresses of those that the answers name.
func (d *draft) beside() {
	for _, one := range d.items {
		if one.section != "an" || one.record.Type != api.NS && one.record.Type != api.MX && one.record.Type != api.SRV {
			continue
		}
		skip := map[int]int{api.NS: 0, api.MX: 2, api.SRV: 6}[one.record.Type]
		target := one.record.Data[skip:]
		for _, t := range []int{1, 28} {
			z := modelHas(d.zones, target, t)
			if z == nil {
				continue
			}
			if f := z.Find(target, t); f.Kind == api.FoundAnswer {
				star := ""
				if f.Wild {
					star = f.Owner
				}
				d.kinds = append(d.kinds, 0) // a step of its own
				d.lay("ad", z, star, f.Records...)
			}
		}
	}
}

// signed gives the items with signatures behind their sets.
func (d *draft) signed() []item {
	var list []item
	for i, one := range d.items {
		list = append(list, one)
		together := func(o item) bool {
			return o.section == one.section && o.step == one.step && o.zone == one.zone && o.record.Type == one.record.Type && name.Equal(o.record.Owner, one.record.Owner)
		}
		if !d.proofs || one.zone == nil || i+1 < len(d.items) && together(d.items[i+1]) {
			continue
		}
		at := one.record.Owner
		if one.star != "" {
			at = one.star
		}
		for _, sig := range one.zone.Records() {
			if sig.Type != api.RRSIG || !name.Equal(sig.Owner, at) {
				continue
			}
			words, _ := data.Show(sig.Type, sig.Data)
			if !strings.HasPrefix(words, data.TypeName(one.record.Type)+" ") {
				continue
			}
			if one.star != "" {
				sig.Owner = one.record.Owner
			}
			list = append(list, item{section: one.section, record: sig})
		}
	}
	return list
}

func alike(a, b api.Record) bool {
	return name.Equal(a.Owner, b.Owner) && a.Type == b.Type && data.Fold(a.Type, a.Data) == data.Fold(b.Type, b.Data)
}

func once(items []item) []item {
	var list []item
	for _, one := range items {
		if !slices.ContainsFunc(list, func(o item) bool { return alike(o.record, one.record) }) {
			list = append(list, one)
		}
	}
	return list
}

func modelAnswer(zones []*zone.Zone, m api.Message) (api.Message, *draft) {
	d := &draft{zones: zones}
	extras := opts(m)
	right := len(extras) == 0 || len(extras) == 1 && extras[0].Owner == api.Root
	version := 0
	if right && len(extras) == 1 {
		version = extras[0].TTL / 65536 % 256
		d.proofs = extras[0].TTL/32768%2 == 1
	}
	d.rcode = modelRcode(zones, m, right, version)
	if d.rcode == -1 {
		d.rcode, d.t = 0, m.Questions[0].Type
		d.walk(m.Questions[0].Name)
		d.beside()
	}
	a := api.Message{ID: m.ID, Response: true, Opcode: m.Opcode, RD: m.RD, CD: m.CD, AA: d.aa, Rcode: d.rcode, Questions: m.Questions}
	for _, one := range once(d.signed()) {
		section := map[string]*[]api.Record{"an": &a.Answers, "au": &a.Authority, "ad": &a.Additional}[one.section]
		*section = append(*section, one.record)
	}
	if right && len(extras) == 1 {
		ttl := 0
		if d.proofs {
			ttl += 32768
		}
		if version != 0 {
			ttl += 16777216
		}
		a.Additional = append(a.Additional, opt(4096, ttl))
	}
	return a, d
}

// modelRcode: -1 if names are looked for.
func modelRcode(zones []*zone.Zone, m api.Message, right bool, version int) int {
	if !right {
		return 1
	}
	if version != 0 {
		return 0
	}
	if m.Opcode != 0 {
		return 4
	}
	if len(m.Questions) != 1 || len(m.Answers)+len(m.Authority) != 0 {
		return 1
	}
	q := m.Questions[0]
	if q.Class != 1 && q.Class != 255 {
		return 5
	}
	for _, c := range [][3]int{{0, 0, 1}, {41, 41, 1}, {251, 252, 5}, {128, 254, 4}} {
		if c[0] <= q.Type && q.Type <= c[1] {
			return c[2]
		}
	}
	if modelHas(zones, q.Name, q.Type) == nil {
		return 5
	}
	return -1
}

// dice: chance.
type dice struct{ *rand.Rand }

func (d dice) oneOf(texts ...string) string { return texts[d.Intn(len(texts))] }

// below gives a name of some labels ahead of a zone's.
func (d dice) below(apex string) string {
	for range d.Intn(3) {
		apex = d.oneOf("\x01a", "\x01B", "\x01*", "\x02ab", "\x01x") + apex
	}
	return apex
}

func (d dice) apex() string {
	return n(d.oneOf(".", "ex.", "ex.", "ex.", "EX.", "a.ex.", "B.a.ex.", "b.ex.", "org."))
}

// target gives a name to which something leads.
func (d dice) target() string {
	if d.Intn(3) > 0 {
		return d.oneOf("a.ex.", "b.ex.", "a.a.ex.", "x.b.ex.", "ab.ex.", "A.ab.ex.", "*.ex.", "a.org.", "x.a.ex.", "X.ex.")
	}
	return name.Show(d.below(d.apex()))
}

// owner gives a name within a zone, as often as not one to which others lead.
func (d dice) owner(apex string) string {
	if target := n(d.target()); name.Within(target, apex) {
		return name.Show(target)
	}
	return name.Show(d.below(apex))
}

// line gives one of a zone, of one of the first kinds.
func (d dice) line(apex string, kinds int) string {
	owner := d.owner(apex)
	switch d.Intn(kinds) {
	case 0, 1:
		return owner + " CNAME " + d.target()
	case 2:
		return owner + " 77 DNAME " + d.oneOf(d.target(), d.target(), strings.Repeat(strings.Repeat("l", 63)+".", 3)+strings.Repeat("l", 58)+".")
	case 3:
		return owner + " MX 1 " + d.target()
	case 4:
		return owner + " SRV 1 2 3 " + d.target()
	case 5:
		return owner + " NS " + d.target()
	case 6:
		return owner + " DS " + d.oneOf("1", "2") + " 253 1 aa"
	case 7:
		return owner + " " + d.oneOf("60", "7") + " RRSIG " + d.oneOf("A", "NS", "CNAME", "DNAME", "DS", "SOA", "NSEC", "MX", "NSEC3") + " 253 2 60 200 100 " + d.oneOf("1", "2", "3") + " ex. AAAB"
	case 8:
		return owner + " NSEC " + name.Show(d.below(apex)) + d.oneOf(" A", " NS", "")
	case 9:
		return owner + " AAAA ::" + d.oneOf("1", "2")
	}
	return owner + " A 10.0.0." + d.oneOf("1", "2")
}

// zone gives one of chance, signed or not.
func (d dice) zone() *zone.Zone {
	apex := d.apex()
	records := list(name.Show(apex), "@ "+d.oneOf("60", "3")+" SOA ns h 7 2 3 4 "+d.oneOf("5", "90"), "@ NS "+d.target())
	kinds := []int{3, 5, 12, 12, 12}[d.Intn(5)]
	for range d.Intn(16) {
		more := append(slices.Clone(records), list(name.Show(apex), d.line(apex, kinds))...)
		// What would break a rule doesn't come in.
		if _, _, e := zone.New(apex, more); e == api.OK {
			records = more
		}
	}
	if d.Intn(2) == 0 {
		signed, e := signer.Sign(apex, records, plan(d.Intn(2) == 0))
		if e == api.OK {
			records = signed
		}
	}
	return newZone(name.Show(apex), records)
}

func (d dice) zones() []*zone.Zone {
	var zones []*zone.Zone
	for range d.Intn(6) {
		if d.Intn(8) == 0 {
			zones = append(zones, nil)
		}
		zones = append(zones, d.zone())
	}
	return zones
}

// known gives a name at which something stands, or one below it; or any.
func (d dice) known(zones []*zone.Zone) string {
	if len(zones) == 0 || d.Intn(4) == 0 {
		return d.below(d.below(d.apex()))
	}
	z := zones[d.Intn(len(zones))]
	if z == nil {
		return d.apex()
	}
	records := z.Records()
	owner := records[d.Intn(len(records))].Owner
	if d.Intn(2) == 0 && len(owner) < 100 {
		return d.below(owner)
	}
	return owner
}

// message gives one of chance, mostly one that is gone into.
func (d dice) message(zones []*zone.Zone) api.Message {
	types := []int{1, 1, 1, 1, 2, 2, 5, 6, 15, 15, 28, 33, 33, 39, 43, 43, 46, 47, 48, 50, 255, 255}
	q := api.Question{Name: d.known(zones), Type: types[d.Intn(len(types))], Class: 1}
	if d.Intn(20) == 0 {
		q.Type, q.Class = d.Intn(300), d.Intn(2)*254+1
	}
	m := api.Message{ID: d.Intn(65536), RD: d.Intn(2) == 0, CD: d.Intn(2) == 0, AD: d.Intn(2) == 0, Questions: []api.Question{q}}
	for range []int{0, 0, 0, 1, 1, 1, 1, 1, 1, 1, 1, 1, 1, 1, 1, 1, 1, 1, 1, 2}[d.Intn(20)] {
		m = with(m, opt(d.Intn(3000), []int{0, 0, 0, 32768, 32768, 32768, 32768, 32768, 32768, 32768, 32768, 65536, 1 << 24, 1<<32 - 1}[d.Intn(14)]))
	}
	one := list("ex.", "a A 10.0.0.1")
	switch d.Intn(60) {
	case 0:
		m.Opcode = d.Intn(16)
	case 1:
		m.Questions = append(m.Questions, q)
	case 2:
		m.Questions = nil
	case 3:
		m.Answers = one
	case 4:
		m.Authority = one
	case 5:
		m = with(m, one...)
	case 6:
		m = with(m, owned("ex.", opt(4096, 32768)))
	case 7:
		m.Questions[0].Class = d.Intn(300)
	}
	return m
}

// noLists gives a message in which lists that have nothing in them are nil.
func noLists(m api.Message) api.Message {
	m.Questions = append([]api.Question(nil), m.Questions...)
	for _, section := range []*[]api.Record{&m.Answers, &m.Authority, &m.Additional} {
		*section = append([]api.Record(nil), *section...)
	}
	return m
}

// ruin writes over all that an answer has, spare room included.
func ruin(m api.Message) {
	for i := range m.Questions[:cap(m.Questions)] {
		m.Questions[:cap(m.Questions)][i] = api.Question{Name: "ruined"}
	}
	for _, list := range [][]api.Record{m.Answers, m.Authority, m.Additional} {
		for i := range list[:cap(list)] {
			list[:cap(list)][i] = api.Record{Owner: "ruined"}
		}
	}
}

// tally counts what came up.
type tally map[string]int

func (c tally) note(d *draft, a api.Message) {
	for _, kind := range d.kinds {
		c["kind "+string(rune('0'+kind))]++
	}
	c["rcode "+string(rune('0'+a.Rcode))]++
	steps := len(slices.DeleteFunc(slices.Clone(d.kinds), func(kind int) bool { return kind == 0 }))
	if steps > 2 {
		c["long"]++
	}
	if steps == 9 {
		c["nine"]++
	}
	if d.wild && d.proofs {
		c["wild with proofs"]++
	}
	if len(a.Authority) > 0 && a.Authority[0].Type == api.NSEC {
		c["proofs ahead"]++
	}
	if slices.ContainsFunc(a.Authority, func(r api.Record) bool { return r.Type == api.NSEC3 }) {
		c["hashes"]++
	}
	if n := len(a.Additional); n > 2 {
		c["beside"]++
	}
	if all := d.signed(); len(once(all)) < len(all) {
		c["twice"]++
	}
}

func TestByChance(t *testing.T) {
	d := dice{rand.New(rand.NewSource(9))}
	count := tally{}
	for range 1000 {
		zones := d.zones()
		for range 30 {
			m := d.message(zones)
			given := noLists(m)
			want, draft := modelAnswer(zones, m)
			got, ok := auth.Answer(zones, m)
			if !ok || !reflect.DeepEqual(noLists(got), noLists(want)) {
				t.Fatalf("P9.1 of %+v, zones %q:\n%s\nwanted\n%s", m, showZones(zones), strings.Join(tell(got), "\n"), strings.Join(tell(want), "\n"))
			}
			checkServe(t, d, zones, m, want)
			ruin(got)
			again, _ := auth.Answer(zones, m)
			if !reflect.DeepEqual(noLists(again), noLists(want)) || !reflect.DeepEqual(noLists(m), given) {
				t.Fatalf("P2: what is answered to %+v shares memory", m)
			}
			count.note(draft, want)
		}
		q := d.below(d.apex())
		for _, typ := range []int{api.A, api.DS} {
			if auth.Has(zones, q, typ) != modelHas(zones, q, typ) {
				t.Fatalf("P9.1: Has of %s %d, zones %q", name.Show(q), typ, showZones(zones))
			}
		}
	}
	for _, what := range []string{"kind 1", "kind 2", "kind 3", "kind 4", "kind 5", "kind 6", "rcode 0", "rcode 1", "rcode 3", "rcode 4", "rcode 5", "rcode 6", "long", "nine", "wild with proofs", "proofs ahead", "hashes", "beside", "twice"} {
		if count[what] < 10 {
			t.Errorf("too few: %s %d", what, count[what])
		}
	}
}

func showZones(zones []*zone.Zone) []string {
	var texts []string
	for _, z := range zones {
		if z == nil {
			continue
		}
		texts = append(texts, "zone "+name.Show(z.Apex()))
		for _, r := range z.Records() {
			texts = append(texts, told(r))
		}
	}
	return texts
}

// checkServe: the same in bytes, and what is said to bytes of which one is turned.
func checkServe(t *testing.T, d dice, zones []*zone.Zone, m, want api.Message) {
	t.Helper()
	b := packed(m)
	limit := d.Intn(3000) - 500
	if got := auth.Serve(zones, b, limit); !slices.Equal(got, modelBytes(m, want, limit)) {
		t.Fatalf("P9.2 of %x, limit %d: %x", b, limit, got)
	}
	at := d.Intn(len(b))
	b[at] ^= 1 << d.Intn(8)
	m, _, e := wire.Unpack(b)
	switch {
	case b[2] >= 128:
		want = api.Message{}
	case e != api.OK:
		m = api.Message{}
		want = api.Message{ID: int(b[0])<<8 + int(b[1]), Response: true, Opcode: int(b[2]) / 8, RD: b[2]%2 == 1, Rcode: 1}
	default:
		want, _ = modelAnswer(zones, m)
	}
	if got := auth.Serve(zones, b, limit); !slices.Equal(got, modelBytes(m, want, limit)) {
		t.Fatalf("P9.2 of %x, limit %d: %x", b, limit, got)
	}
}

// modelBytes: the bytes of an answer to m; none if it is no response.
func modelBytes(m, a api.Message, limit int) []byte {
	if !a.Response {
		return nil
	}
	room := 512
	if extras := opts(m); len(extras) == 1 && extras[0].Owner == api.Root && extras[0].Class > 512 {
		room = extras[0].Class
	}
	if limit < 512 {
		limit = 512
	}
	if limit < room {
		room = limit
	}
	part, e := wire.Fit(a, room)
	if e != api.OK {
		return nil
	}
	return packed(part)
}
