package update_test

import (
	"bytes"
	"math/rand"
	"slices"
	"testing"

	"gazetteer/api"
	"gazetteer/data"
	"gazetteer/name"
	"gazetteer/update"
	"gazetteer/wire"
	"gazetteer/zone"
)

// A second reckoning of Check and Apply, held against the package by zones and
// messages of chance. It has nothing but a list of records, which it goes
// through for each question that the chapter asks.

func like(a, b api.Record) bool {
	return name.Equal(a.Owner, b.Owner) && a.Type == b.Type && data.Fold(a.Type, a.Data) == data.Fold(b.Type, b.Data)
}

func at(owner string, types ...int) func(r api.Record) bool {
	return func(r api.Record) bool {
		return name.Equal(r.Owner, owner) && (len(types) == 0 || slices.Contains(types, r.Type))
	}
}

func modelThere(l []api.Record, owner string) bool {
	return slices.ContainsFunc(l, func(r api.Record) bool {
		hash := r.Type == api.NSEC3 || r.Type == api.RRSIG && r.Data[0] == 0 && r.Data[1] == 50
		return !hash && name.Within(r.Owner, owner)
	})
}

func modelCheck(z *zone.Zone, m api.Message) int {
	if m.Response || m.Opcode != 5 || len(m.Questions) != 1 || wire.Check(m) != api.OK {
		return api.FormErr
	}
	q := m.Questions[0]
	if q.Type != 6 || q.Class != 1 {
		return api.FormErr
	}
	if !name.Equal(q.Name, z.Apex()) {
		return api.NotAuth
	}
	l := z.Records()
	for _, c := range m.Answers {
		if code := modelCondition(z, l, c); code != 0 {
			return code
		}
	}
	for _, c := range m.Answers {
		if c.Class == 1 && !modelJust(l, m.Answers, c) {
			return api.NxSet
		}
	}
	for _, c := range m.Authority {
		if code := modelChange(z, c); code != 0 {
			return code
		}
	}
	return 0
}

func modelCondition(z *zone.Zone, l []api.Record, c api.Record) int {
	if c.TTL != 0 {
		return api.FormErr
	}
	if !name.Within(c.Owner, z.Apex()) {
		return api.NotZone
	}
	if c.Class == 1 {
		return 0
	}
	if (c.Class != 254 && c.Class != 255) || len(c.Data) > 0 {
		return api.FormErr
	}
	there := slices.ContainsFunc(l, at(c.Owner, c.Type))
	codes := [2]int{api.NxSet, api.YxSet}
	if c.Type == 255 {
		there = modelThere(l, c.Owner)
		codes = [2]int{api.NxDomain, api.YxDomain}
	}
	if c.Class == 255 && !there {
		return codes[0]
	}
	if c.Class == 254 && there {
		return codes[1]
	}
	return 0
}

// modelJust: of the owner and the type of c.
func modelJust(l, conditions []api.Record, c api.Record) bool {
	within := func(some, all []api.Record) bool {
		for _, r := range some {
			if r.Class == 1 && at(c.Owner, c.Type)(r) && !slices.ContainsFunc(all, func(o api.Record) bool { return o.Class == 1 && like(r, o) }) {
				return false
			}
		}
		return true
	}
	return within(conditions, l) && within(l, conditions)
}

func modelChange(z *zone.Zone, c api.Record) int {
	e := data.Check(c.Type, c.Data)
	switch {
	case !name.Within(c.Owner, z.Apex()):
		return api.NotZone
	case c.Class == 1 && c.TTL > 2147483647,
		c.Class == 255 && (c.TTL != 0 || c.Data != ""),
		c.Class == 254 && (c.TTL != 0 || c.Type == 255 || e != api.OK),
		c.Class == 255 && e == api.ErrType && c.Type != 255,
		c.Class != 1 && c.Class != 254 && c.Class != 255:
		return api.FormErr
	}
	return 0
}

func serialOf(d string) uint32 {
	b := []byte(d[len(d)-20:])
	return uint32(b[0])<<24 | uint32(b[1])<<16 | uint32(b[2])<<8 | uint32(b[3])
}

// modelDo: one change.
func modelDo(l []api.Record, apex string, c api.Record) []api.Record {
	none := func(f func(r api.Record) bool) []api.Record { return slices.DeleteFunc(l, f) }
	switch {
	case c.Class == 255:
		return none(func(r api.Record) bool {
			stays := name.Equal(r.Owner, apex) && (r.Type == api.SOA || r.Type == api.NS)
			return !stays && name.Equal(r.Owner, c.Owner) && (c.Type == 255 || r.Type == c.Type)
		})
	case c.Class == 254:
		servers := 0
		for _, r := range l {
			if at(apex, api.NS)(r) {
				servers++
			}
		}
		if c.Type == api.SOA || c.Type == api.NS && name.Equal(c.Owner, apex) && servers == 1 {
			return l
		}
		return none(func(r api.Record) bool { return like(r, c) })
	case c.Type == api.SOA:
		old := slices.IndexFunc(l, at(apex, api.SOA))
		if way := serialOf(c.Data) - serialOf(l[old].Data); name.Equal(c.Owner, apex) && way >= 1 && way <= 2147483647 {
			l[old] = c
		}
		return l
	case c.Type == api.CNAME:
		for _, r := range l {
			if name.Equal(r.Owner, c.Owner) && r.Type != 5 && r.Type != 46 && r.Type != 47 {
				return l
			}
		}
		return append(none(at(c.Owner, 5)), c)
	}
	if c.Type != 46 && c.Type != 47 && slices.ContainsFunc(l, at(c.Owner, 5)) {
		return l
	}
	l = append(none(func(r api.Record) bool { return like(r, c) }), c)
	for i, r := range l {
		if c.Type != 46 && at(c.Owner, c.Type)(r) {
			l[i].TTL = c.TTL
		}
	}
	return l
}

func modelApply(z *zone.Zone, m api.Message) (*zone.Zone, int) {
	if code := modelCheck(z, m); code != 0 {
		return nil, code
	}
	l := z.Records()
	for _, c := range m.Authority {
		l = modelDo(l, z.Apex(), c)
	}
	changed := false
	for _, r := range z.Records() {
		changed = changed || !slices.Contains(l, r)
	}
	if !changed && len(l) == len(z.Records()) {
		return z, 0
	}
	soa := slices.IndexFunc(l, at(z.Apex(), api.SOA))
	if s := serialOf(l[soa].Data); int(s) == z.Serial() {
		if s++; s == 0 {
			s = 1
		}
		d := []byte(l[soa].Data)
		copy(d[len(d)-20:], []byte{byte(s >> 24), byte(s >> 16), byte(s >> 8), byte(s)})
		l[soa].Data = string(d)
	}
	y, _, e := zone.New(z.Apex(), l)
	if e != api.OK {
		return nil, api.Refused
	}
	return y, 0
}

// dice: what falls by chance.
type dice struct{ *rand.Rand }

func (d dice) oneOf(texts ...string) string { return texts[d.Intn(len(texts))] }

func (d dice) owner() string {
	return n(d.oneOf("ex.", "EX.", "a.ex.", "A.ex.", "b.ex.", "x.a.ex.", "*.ex.", "*.a.ex.", "y.x.a.ex.", "c.Ex."))
}

func (d dice) serial() string {
	return d.oneOf("0", "1", "7", "8", "2147483647", "2147483648", "2147483655", "4294967295", "4294967290")
}

// words gives a type and data.
func (d dice) words() string {
	switch d.Intn(14) {
	case 0, 1, 2, 3:
		return d.oneOf("A 10.0.0.1", "A 10.0.0.2", "A 10.0.0.3")
	case 4, 5:
		return "NS " + d.oneOf("ns.org.", "NS.org.", "ns", "a")
	case 6, 7:
		return "CNAME " + d.oneOf("b", "B", "a")
	case 8:
		return "SOA " + d.oneOf("ns", "NS", "a") + " h " + d.serial() + " 2 3 4 5"
	case 9:
		return "MX 1 " + d.oneOf("a", "A", "b")
	case 10:
		return "DNAME " + d.oneOf("o.org.", "p.org.")
	case 11:
		return "RRSIG " + d.oneOf("A", "NSEC3") + " 253 2 60 9 " + d.oneOf("1", "2") + " 7 ex. AAAA"
	case 12:
		return d.oneOf("NSEC ex. A", "NSEC EX. A", "NSEC3 1 0 0 - 00 A")
	}
	return d.oneOf("TXT x", "TXT X", `TYPE700 \# 0`, `TYPE700 \# 1 61`)
}

func (d dice) zone() *zone.Zone {
	soa := "SOA ns h " + d.serial() + " 2 3 4 5"
	l := []api.Record{part("+ ex. 60 " + soa), part("+ ex. 60 NS ns.org.")}
	z := newZone(d.oneOf("ex.", "Ex."), l)
	for range d.Intn(12) {
		r := part("+ a. 60 " + d.words())
		r.Owner = d.owner()
		if r.Type == api.RRSIG {
			r.TTL += d.Intn(3)
		}
		if y, _, e := zone.New(z.Apex(), append(l, r)); e == api.OK {
			z, l = y, append(l, r)
		}
	}
	return z
}

// record gives one of the zone's or another, perhaps with other letters.
func (d dice) record(z *zone.Zone) api.Record {
	l := z.Records()
	r := l[d.Intn(len(l))]
	if d.Intn(2) == 0 {
		r = part("+ a. 60 " + d.words())
		r.Owner = d.owner()
	}
	if d.Intn(4) == 0 {
		r.Owner = bytesOf(r.Owner, bytes.ToUpper)
	}
	return r
}

func bytesOf(text string, f func([]byte) []byte) string { return string(f([]byte(text))) }

func (d dice) condition(z *zone.Zone) api.Record {
	r := d.record(z)
	r.TTL = 0
	if r.Class = []int{1, 254, 255}[d.Intn(3)]; r.Class != 1 {
		r.Data = ""
		if d.Intn(3) == 0 {
			r.Type = api.ANY
		}
	}
	return d.spoiled(r)
}

func (d dice) change(z *zone.Zone) api.Record {
	r := d.record(z)
	switch d.Intn(5) {
	case 0:
		r.Class, r.TTL, r.Data = 255, 0, ""
		if d.Intn(3) == 0 {
			r.Type = api.ANY
		}
	case 1:
		r.Class, r.TTL = 254, 0
	default:
		r.TTL = []int{60, 60, 60, 61, 0, 2147483647}[d.Intn(6)]
	}
	return d.spoiled(r)
}

// spoiled: now and then something is wrong.
func (d dice) spoiled(r api.Record) api.Record {
	switch d.Intn(120) {
	case 0:
		r.TTL = []int{1, 2147483648, -1, 4294967295, 4294967296}[d.Intn(5)]
	case 1:
		r.Owner = n(d.oneOf("org.", ".", "b.org."))
	case 2:
		r.Class = []int{0, 1, 2, 3, 253, 254, 255, 256}[d.Intn(8)]
	case 3:
		r.Type = []int{0, 41, 128, 251, 255, 700, 65536}[d.Intn(7)]
	case 4:
		r.Data = d.oneOf("", "x", "\x0a\x00\x00\x01")
	case 5:
		r.Type, r.Data = api.OPT, d.oneOf("", "x")
	}
	return r
}

func (d dice) message(z *zone.Zone) api.Message {
	m := changes()
	m.Questions[0].Name = n(d.oneOf("ex.", "eX."))
	for range d.Intn(4) - 1 {
		m.Answers = append(m.Answers, d.condition(z))
	}
	if d.Intn(4) == 0 {
		m.Answers = nil
		r := d.record(z)
		for _, s := range z.Set(r.Owner, r.Type) {
			s.TTL = 0
			m.Answers = append(m.Answers, s)
		}
	}
	for range d.Intn(7) {
		m.Authority = append(m.Authority, d.change(z))
	}
	switch d.Intn(100) {
	case 0:
		m.Response = true
	case 1:
		m.Opcode = d.Intn(17)
	case 2:
		m.Questions = append(m.Questions, m.Questions...)[:d.Intn(3)]
	case 3:
		m.Questions[0] = api.Question{Name: n(d.oneOf("ex.", "org.", "a.ex.")), Type: 5 + d.Intn(3), Class: d.Intn(3)}
	case 4:
		m.Additional = []api.Record{d.change(z)}
	case 5:
		m.Questions[0].Name = n(d.oneOf(".", "org.", "a.ex."))
	}
	return m
}

func TestModel(t *testing.T) {
	t.Parallel()
	d := dice{rand.New(rand.NewSource(10))}
	codes, changed, stayed := make([]int, 16), 0, 0
	for range 3000 {
		z := d.zone()
		for range 20 {
			m := d.message(z)
			want, code := modelApply(z, m)
			first := modelCheck(z, m)
			if got := update.Check(z, m); got != first {
				t.Fatalf("P10.1 of\n%s\n%+v: Check = %d, wanted %d", tell(z), m, got, first)
			}
			y, got := update.Apply(z, m)
			if got != code || (y == nil) != (want == nil) || y != nil && !same(y, want) {
				t.Fatalf("P10.2 of\n%s\n%+v: Apply = %d\n%s\nwanted %d\n%s", tell(z), m, got, tellOf(y), code, tellOf(want))
			}
			codes[code]++
			if y == nil {
				continue
			}
			if same(y, z) {
				stayed++
			} else {
				changed++
			}
			z = y
		}
	}
	for _, code := range []int{api.NoError, api.FormErr, api.NxDomain, api.Refused, api.YxDomain, api.YxSet, api.NxSet, api.NotAuth, api.NotZone} {
		if codes[code] < 100 {
			t.Errorf("too few of the code %d: %d", code, codes[code])
		}
	}
	if changed < 5000 || stayed < 2000 {
		t.Errorf("too few: %d changed, %d stayed", changed, stayed)
	}
}
