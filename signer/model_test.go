package signer_test

import (
	"cmp"
	"math/rand"
	"slices"
	"strings"
	"testing"

	"gazetteer/api"
	"gazetteer/data"
	"gazetteer/name"
	"gazetteer/seal"
	"gazetteer/signer"
	"gazetteer/zone"
)

// A second reckoning of Sign, by going through all records for each thing that
// is asked, held against the package by zones of chance.

type model struct {
	apex string
	plan api.Plan
	list []api.Record // with keys, without proofs and signatures
}

func bytes(number, size int) string {
	text := ""
	for range size {
		text = string([]byte{byte(number)}) + text
		number >>= 8
	}
	return text
}

func newModel(apex string, records []api.Record, p api.Plan) model {
	m := model{apex: apex, plan: p}
	for _, r := range records {
		if !slices.Contains([]int{46, 47, 48, 50, 51}, r.Type) {
			m.list = append(m.list, r)
		}
	}
	for _, k := range p.Keys {
		public := bytes(k.Key.Flags, 2) + "\x03\xfd" + bytes(k.Key.Modulus, 4) + bytes(k.Key.Exponent, 4)
		m.list = append(m.list, api.Record{Owner: apex, Type: 48, Class: 1, TTL: p.KeyTTL, Data: public})
	}
	if p.Hashed {
		m.list = append(m.list, api.Record{Owner: apex, Type: 51, Class: 1, TTL: m.age(), Data: m.way()})
	}
	return m
}

func (m model) way() string {
	return "\x01\x00" + bytes(m.plan.Rounds, 2) + bytes(len(m.plan.Salt), 1) + m.plan.Salt
}

func (m model) age() int {
	for _, r := range m.list {
		if r.Type == api.SOA {
			text, _ := data.Show(api.SOA, r.Data)
			words := strings.Fields(text)
			least := 0
			for _, digit := range words[len(words)-1] {
				least = 10*least + int(digit-'0')
			}
			return min(least, r.TTL)
		}
	}
	panic("no SOA")
}

func (m model) hasNS(n string) bool {
	return slices.ContainsFunc(m.list, func(r api.Record) bool { return r.Type == api.NS && name.Equal(r.Owner, n) })
}

func (m model) isCut(n string) bool { return !name.Equal(n, m.apex) && m.hasNS(n) }

// own: the zone's own names, folded, in their order.
func (m model) own() []string {
	var names []string
	for _, r := range m.list {
		for n := name.Fold(r.Owner); name.Within(n, m.apex); n = name.Parent(n) {
			names = append(names, n)
		}
	}
	slices.SortFunc(names, name.Compare)
	names = slices.Compact(names)
	return slices.DeleteFunc(names, func(n string) bool {
		for n != name.Fold(m.apex) {
			n = name.Parent(n)
			if m.isCut(n) {
				return true
			}
		}
		return false
	})
}

func (m model) types(n string) []int {
	var types []int
	for _, r := range m.list {
		if name.Equal(r.Owner, n) && (!m.isCut(n) || r.Type == api.NS || r.Type == api.DS) {
			types = append(types, r.Type)
		}
	}
	slices.Sort(types)
	return slices.Compact(types)
}

func (m model) isSigned(n string, t int) bool { return !m.isCut(n) || t != api.NS }

func (m model) nsecs() []api.Record {
	var names []string
	for _, n := range m.own() {
		if len(m.types(n)) > 0 {
			names = append(names, n)
		}
	}
	var list []api.Record
	for i, n := range names {
		next := names[0]
		if i+1 < len(names) {
			next = names[i+1]
		}
		list = append(list, api.Record{Owner: n, Type: 47, Class: 1, TTL: m.age(), Data: next + data.Set(append(m.types(n), 47, 46))})
	}
	return list
}

func (m model) nsec3s() []api.Record {
	at := map[string]string{}
	var hashes []string
	for _, n := range m.own() {
		h, _ := seal.Hash(n, m.plan.Salt, m.plan.Rounds)
		hashes = append(hashes, h)
		at[h] = n
	}
	slices.Sort(hashes)
	var list []api.Record
	for i, h := range hashes {
		n := at[h]
		types := m.types(n)
		if slices.ContainsFunc(types, func(t int) bool { return m.isSigned(n, t) }) {
			types = append(types, 46)
		}
		next := append(hashes, hashes[0])[i+1]
		owner := "\x10" + data.To32(h) + name.Fold(m.apex)
		list = append(list, api.Record{Owner: owner, Type: 50, Class: 1, TTL: m.age(), Data: m.way() + "\x0a" + next + data.Set(types)})
	}
	return list
}

// order: that of chapter 5's Records.
func order(a, b api.Record) int {
	return cmp.Or(name.Compare(a.Owner, b.Owner), a.Type-b.Type, strings.Compare(data.Fold(a.Type, a.Data), data.Fold(b.Type, b.Data)))
}

func (m model) keysFor(t int) []api.Key {
	var keys, all []api.Key
	for _, k := range m.plan.Keys {
		if k.Active {
			all = append(all, k.Key)
		}
		if k.Active && (k.Key.Flags == 257) == (t == api.DNSKEY) {
			keys = append(keys, k.Key)
		}
	}
	if len(keys) > 0 {
		return keys
	}
	return all
}

func (m model) signatures(set []api.Record) []api.Record {
	var list []api.Record
	for _, k := range m.keysFor(set[0].Type) {
		sig, e := seal.Sign(k, m.apex, set, m.plan.From, m.plan.Until)
		if e != api.OK {
			panic(set[0].Owner)
		}
		list = append(list, sig)
	}
	return list
}

func (m model) all() []api.Record {
	proofs := m.nsecs()
	if m.plan.Hashed {
		proofs = m.nsec3s()
	}
	list := slices.Concat(m.list, proofs)
	for _, p := range proofs {
		list = append(list, m.signatures([]api.Record{p})...)
	}
	for _, n := range m.own() {
		for _, t := range m.types(n) {
			if !m.isSigned(n, t) {
				continue
			}
			set := slices.DeleteFunc(slices.Clone(m.list), func(r api.Record) bool { return r.Type != t || !name.Equal(r.Owner, n) })
			slices.SortFunc(set, order)
			list = append(list, m.signatures(set)...)
		}
	}
	slices.SortFunc(list, order)
	return list
}

// chanceZone: lines of a zone, which isn't always one.
func chanceZone(r *rand.Rand) []api.Record {
	labels := []string{"a", "A", "b", "c", "*", "x.y", "B.a", `\000`}
	kinds := []string{
		" A 10.0.0.1", " A 10.0.0.2", " TXT x", " TXT X", " NS ns", " NS ns.a", " DS 1 2 3 00", " DS 1 2 3 01",
		" MX 1 a", " CNAME b", " DNAME c.org.", " AAAA ::1", " CAA 0 a b", " NSEC a A", " DNSKEY 1 2 3 AAAA", " NSEC3 1 0 0 - 00", " TYPE65535 \\# 0",
	}
	soas := []string{"@ SOA ns h 7 2 3 4 5", "@ 9 SOA ns h 7 2 3 4 50", "@ SOA NS H 7 2 3 4 0"}
	lines := []string{soas[r.Intn(len(soas))], "@ NS ns"}
	for range r.Intn(14) {
		owner := labels[r.Intn(len(labels))]
		for range r.Intn(3) {
			owner = labels[r.Intn(len(labels))] + "." + owner
		}
		if r.Intn(9) == 0 {
			owner = "@"
		}
		lines = append(lines, owner+kinds[r.Intn(len(kinds))])
	}
	r.Shuffle(len(lines), func(i, j int) { lines[i], lines[j] = lines[j], lines[i] })
	return list(lines...)
}

func chancePlan(r *rand.Rand) api.Plan {
	p := api.Plan{Hashed: r.Intn(2) == 0, Salt: strings.Repeat("\x5a", r.Intn(3)), Rounds: r.Intn(4), From: r.Intn(50), KeyTTL: r.Intn(100)}
	p.Until = p.From + r.Intn(50)
	for _, i := range r.Perm(10)[:1+r.Intn(4)] {
		p.Keys = append(p.Keys, api.PlanKey{Key: key(i, 256+r.Intn(2)), Active: r.Intn(3) > 0})
	}
	return p
}

func TestSignByChance(t *testing.T) {
	r := rand.New(rand.NewSource(72))
	plain, hashed, cuts, between, noZones, noActive := 0, 0, 0, 0, 0, 0
	for range 1500 {
		records, p := chanceZone(r), chancePlan(r)
		apex := []string{n("ex."), n("EX."), n("eX.")}[r.Intn(3)]
		got, e := signer.Sign(apex, records, p)
		if _, _, bad := zone.New(apex, signer.Strip(records)); bad != api.OK {
			noZones++
			if e != bad || len(got) != 0 {
				t.Fatalf("P7.2 Sign(%q) = %d records, %d; wanted %d", toldAll(records), len(got), e, bad)
			}
			continue
		}
		m := newModel(apex, records, p)
		if len(m.keysFor(0)) == 0 {
			noActive++
			if e != api.ErrKey || len(got) != 0 {
				t.Fatalf("P7.2 Sign without active keys = %d records, %d", len(got), e)
			}
			continue
		}
		want := m.all()
		if e != api.OK || !slices.Equal(got, want) {
			t.Fatalf("P7.2 Sign(%q, %q, %+v) = %d\n%s\nwanted\n%s", apex, toldAll(records), p, e, strings.Join(toldAll(got), "\n"), strings.Join(toldAll(want), "\n"))
		}
		checkFits(t, apex, got, p)
		if p.Hashed {
			hashed++
		} else {
			plain++
		}
		own := m.own()
		if slices.ContainsFunc(own, m.isCut) {
			cuts++
		}
		if slices.ContainsFunc(own, func(n string) bool { return len(m.types(n)) == 0 }) {
			between++
		}
	}
	if min(plain, hashed, cuts, between, noZones, noActive) < 60 {
		t.Errorf("seen: %d plain, %d hashed, %d with cuts, %d with names between, %d no zones, %d without active keys", plain, hashed, cuts, between, noZones, noActive)
	}
}

// checkFits: every signature fits a DNSKEY of the zone, from From to Until.
func checkFits(t *testing.T, apex string, signed []api.Record, p api.Plan) {
	t.Helper()
	z, _, e := zone.New(apex, signed)
	if e != api.OK {
		t.Fatalf("P7.2 what Sign gave is no zone: %d", e)
	}
	for _, sig := range of(api.RRSIG, signed) {
		set := z.Set(sig.Owner, int(sig.Data[0])<<8|int(sig.Data[1]))
		fits := func(now int) bool {
			return slices.ContainsFunc(z.Set(apex, api.DNSKEY), func(k api.Record) bool {
				return seal.Verify(set, sig, apex, k.Data, now) == api.OK
			})
		}
		if !fits(p.From) || !fits(p.Until) || fits(p.From-1) || fits(p.Until+1) {
			t.Fatalf("P7.2 %s fits no key at the right time", told(sig))
		}
	}
}
