package wire_test

import (
	"bytes"
	"math/rand"
	"slices"
	"testing"

	"gazetteer/api"
	"gazetteer/wire"
)

// A second reckoning of the chapter, by its words and without care for work,
// held against the package by messages and bytes of chance.

// shortNames: where names that may be short stand in data of a type.
func shortNames(typ int, d string) (ahead string, names []string, rest string) {
	count := map[int]int{api.NS: 1, api.CNAME: 1, api.PTR: 1, api.SOA: 2, api.MX: 1}[typ]
	if d == "" || count == 0 {
		return d, nil, ""
	}
	if typ == api.MX {
		ahead, d = d[:2], d[2:]
	}
	for range count {
		end := 0
		for d[end] != 0 {
			end += 1 + int(d[end])
		}
		names = append(names, d[:end+1])
		d = d[end+1:]
	}
	return ahead, names, d
}

type modelPacker struct {
	b      string
	places []int
	noted  []string
}

func (p *modelPacker) num(n, size int) {
	for ; size > 0; size-- {
		p.b += string([]byte{byte(n >> (8*size - 8))})
	}
}

func (p *modelPacker) name(text string) {
	for text != "\x00" {
		for i, place := range p.places {
			if p.noted[i] == text {
				p.num(192*256+place, 2)
				return
			}
		}
		if len(p.b) <= 16383 {
			p.places, p.noted = append(p.places, len(p.b)), append(p.noted, text)
		}
		size := 1 + int(text[0])
		p.b += text[:size]
		text = text[size:]
	}
	p.b += "\x00"
}

func (p *modelPacker) record(r api.Record) {
	p.name(r.Owner)
	p.num(r.Type, 2)
	p.num(r.Class, 2)
	p.num(r.TTL, 4)
	// The data's own bytes stand two further on, where the length is.
	inner := *p
	inner.num(0, 2)
	begin := len(inner.b)
	ahead, names, rest := shortNames(r.Type, r.Data)
	inner.b += ahead
	for _, text := range names {
		inner.name(text)
	}
	inner.b += rest
	p.num(len(inner.b)-begin, 2)
	inner.b = p.b + inner.b[begin:]
	*p = inner
}

func modelPack(m api.Message) string {
	p := &modelPacker{}
	p.num(m.ID, 2)
	bits := 0
	for _, on := range []bool{m.Response, false, false, false, false, m.AA, m.TC, m.RD, m.RA, false, m.AD, m.CD} {
		bits *= 2
		if on {
			bits++
		}
	}
	p.num(bits*16+m.Opcode*2048+m.Rcode, 2)
	for _, count := range []int{len(m.Questions), len(m.Answers), len(m.Authority), len(m.Additional)} {
		p.num(count, 2)
	}
	for _, q := range m.Questions {
		p.name(q.Name)
		p.num(q.Type, 2)
		p.num(q.Class, 2)
	}
	for _, r := range slices.Concat(m.Answers, m.Authority, m.Additional) {
		p.record(r)
	}
	return p.b
}

// modelName: the name at a place behind so many bytes of labels, whose own
// bytes end ahead of an end; where it ends there, or what is wrong (short: it
// goes on behind that end).
func modelName(b string, at, end, ahead int, short api.Errno) (string, int, api.Errno) {
	begin, text := at, ""
	for {
		if at >= end {
			return "", 0, short
		}
		size := int(b[at])
		switch {
		case size == 0:
			return text + "\x00", at + 1, api.OK
		case size < 64:
			if at+1+size > end {
				return "", 0, short
			}
			text += b[at : at+1+size]
			at += 1 + size
			if ahead+len(text) > 254 {
				return "", 0, api.ErrLong
			}
		case size < 192:
			return "", 0, api.ErrPointer
		default:
			if at+1 >= end {
				return "", 0, short
			}
			place := (size-192)*256 + int(b[at+1])
			if place >= begin {
				return "", 0, api.ErrPointer
			}
			rest, _, e := modelName(b, place, len(b), ahead+len(text), api.ErrEnd)
			if e != api.OK {
				return "", 0, e
			}
			return text + rest, at + 2, api.OK
		}
	}
}

func num(b string) int {
	sum := 0
	for i := range len(b) {
		sum = sum*256 + int(b[i])
	}
	return sum
}

func modelRecord(b string, at int) (api.Record, int, api.Errno) {
	owner, at, e := modelName(b, at, len(b), 0, api.ErrEnd)
	if e != api.OK {
		return api.Record{}, 0, e
	}
	if at+10 > len(b) || at+10+num(b[at+8:at+10]) > len(b) {
		return api.Record{}, 0, api.ErrEnd
	}
	r := api.Record{Owner: owner, Type: num(b[at : at+2]), Class: num(b[at+2 : at+4]), TTL: num(b[at+4 : at+8])}
	end := at + 10 + num(b[at+8:at+10])
	at += 10
	names := map[int]int{api.NS: 1, api.CNAME: 1, api.PTR: 1, api.SOA: 2, api.MX: 1}[r.Type]
	if at == end {
		names = 0
	}
	if names > 0 && r.Type == api.MX {
		if at+2 > end {
			return api.Record{}, 0, api.ErrData
		}
		r.Data += b[at : at+2]
		at += 2
	}
	for range names {
		text, next, e := modelName(b, at, end, 0, api.ErrData)
		if e != api.OK {
			return api.Record{}, 0, e
		}
		r.Data, at = r.Data+text, next
	}
	r.Data += b[at:end]
	if wire.Check(api.Message{Answers: []api.Record{r}}) != api.OK {
		return api.Record{}, 0, api.ErrData
	}
	return r, end, api.OK
}

func modelUnpack(b string) (api.Message, int, api.Errno) {
	switch {
	case len(b) > 65535:
		return api.Message{}, 0, api.ErrLarge
	case len(b) < 12:
		return api.Message{}, len(b), api.ErrEnd
	case b[3]/64%2 == 1:
		return api.Message{}, 2, api.ErrForm
	}
	bit := func(i int) bool { return num(b[2:4])>>i%2 == 1 }
	m := api.Message{ID: num(b[:2]), Response: bit(15), Opcode: int(b[2]) / 8 % 16, AA: bit(10), TC: bit(9), RD: bit(8), RA: bit(7), AD: bit(5), CD: bit(4), Rcode: int(b[3]) % 16}
	at := 12
	for range num(b[4:6]) {
		text, next, e := modelName(b, at, len(b), 0, api.ErrEnd)
		if e == api.OK && next+4 > len(b) {
			e = api.ErrEnd
		}
		if e != api.OK {
			return api.Message{}, at, e
		}
		m.Questions = append(m.Questions, api.Question{Name: text, Type: num(b[next : next+2]), Class: num(b[next+2 : next+4])})
		at = next + 4
	}
	for i, section := range []*[]api.Record{&m.Answers, &m.Authority, &m.Additional} {
		for range num(b[6+2*i : 8+2*i]) {
			r, next, e := modelRecord(b, at)
			if e != api.OK {
				return api.Message{}, at, e
			}
			*section = append(*section, r)
			at = next
		}
	}
	if at < len(b) {
		return api.Message{}, at, api.ErrTrail
	}
	return m, 0, api.OK
}

// chance: what messages are made of.
type chance struct{ *rand.Rand }

func (c chance) name() string {
	labels := []string{"\x01a", "\x01A", "\x01b", "\x02ex", "\x02eX", "\x03\xc0\x0c\x00", "\x01\x00", label(63), label(63)}
	text := "\x00"
	for range c.Intn(8) {
		if longer := labels[c.Intn(len(labels))] + text; len(longer) <= 255 {
			text = longer
		}
	}
	return text
}

func (c chance) record() api.Record {
	r := api.Record{Owner: c.name(), Class: 1, TTL: c.Intn(1 << 32)}
	switch r.Type = []int{api.A, api.NS, api.CNAME, api.PTR, api.SOA, api.MX, api.SRV, api.DNAME, api.OPT, 65280, api.ANY}[c.Intn(11)]; r.Type {
	case api.A:
		r.Data = zeros(4)
	case api.NS, api.CNAME, api.PTR, api.DNAME:
		r.Data = c.name()
	case api.SOA:
		r.Data = c.name() + c.name() + zeros(20)
	case api.MX:
		r.Data = "\xc0\x0c" + c.name()
	case api.SRV:
		r.Data = zeros(6) + c.name()
	case api.ANY:
		r.Class = api.ClsAny
	default:
		r.Data = string([]byte{192, byte(c.Intn(256)), byte(c.Intn(256))}[:c.Intn(4)])
	}
	if c.Intn(10) == 0 {
		r.Class, r.Data = 254+c.Intn(2), ""
	}
	return r
}

func (c chance) records() []api.Record {
	var list []api.Record
	for range c.Intn(5) {
		list = append(list, c.record())
	}
	return list
}

func (c chance) message() api.Message {
	on := func() bool { return c.Intn(2) == 0 }
	m := api.Message{ID: c.Intn(1 << 16), Response: on(), Opcode: c.Intn(16), AA: on(), TC: on(), RD: on(), RA: on(), AD: on(), CD: on(), Rcode: c.Intn(16),
		Answers: c.records(), Authority: c.records(), Additional: c.records()}
	for range c.Intn(3) {
		m.Questions = append(m.Questions, api.Question{Name: c.name(), Type: c.Intn(1 << 16), Class: c.Intn(1 << 16)})
	}
	if c.Intn(20) == 0 {
		// Beyond the last place that a pointer may tell.
		m.Answers = append(m.Answers, filler(16000+c.Intn(400)))
	}
	return m
}

func (c chance) spoil(b []byte) []byte {
	i := c.Intn(len(b))
	switch c.Intn(7) {
	case 0:
		b[i] = byte(c.Intn(256))
	case 1:
		b[i] ^= 1 << c.Intn(8)
	case 2:
		b[i] = 192
		b[min(i+1, len(b)-1)] = byte(c.Intn(len(b)))
	case 3:
		b = b[:max(i, 1)]
	case 4:
		b = append(b, byte(c.Intn(256)))
	case 5:
		b[min(3, len(b)-1)] ^= 1 << c.Intn(8)
	case 6:
		// Where the first name ends it goes on.
		if at := bytes.IndexByte(b[min(12, len(b)):], 0); at >= 0 {
			b[12+at] = 63
		}
	}
	return b
}

func TestModelPack(t *testing.T) {
	c := chance{rand.New(rand.NewSource(3))}
	for range 2000 {
		m := c.message()
		want := modelPack(m)
		b, e := wire.Pack(m)
		if string(b) != want || e != api.OK {
			t.Fatalf("P3.2 Pack(%+v) = %x, %d; wanted %x, OK", m, b, e, want)
		}
		back, at, e := wire.Unpack(b)
		if !same(back, m) || at != 0 || e != api.OK {
			t.Fatalf("P3.3 Unpack(Pack(%+v)) = %+v, %d, %d", m, back, at, e)
		}
	}
}

func TestModelUnpack(t *testing.T) {
	c := chance{rand.New(rand.NewSource(4))}
	told := make([]int, 32)
	for range 15000 {
		b := []byte(modelPack(c.message()))
		if len(b) > 2000 {
			continue
		}
		for range c.Intn(3) {
			b = c.spoil(b)
		}
		want, wantAt, wantE := modelUnpack(string(b))
		m, at, e := wire.Unpack(b)
		if !same(m, want) || at != wantAt || e != wantE {
			t.Fatalf("P3.3 Unpack(%x) = %+v, %d, %d; wanted %+v, %d, %d", b, m, at, e, want, wantAt, wantE)
		}
		if wire.Check(m) != api.OK {
			t.Fatalf("P3.3 Unpack(%x) = %+v, which isn't right", b, m)
		}
		told[e]++
	}
	for _, e := range []api.Errno{api.OK, api.ErrEnd, api.ErrForm, api.ErrPointer, api.ErrLong, api.ErrData, api.ErrTrail} {
		if told[e] < 5 {
			t.Errorf("chance told %d only %d times", e, told[e])
		}
	}
}

func TestModelFit(t *testing.T) {
	c := chance{rand.New(rand.NewSource(5))}
	for range 1500 {
		m := c.message()
		limit := c.Intn(len(modelPack(m)) + 10)
		want, wantE := modelFit(m, limit)
		part, e := wire.Fit(m, limit)
		if !same(part, want) || e != wantE {
			t.Fatalf("P3.4 Fit(%+v, %d) = %+v, %d; wanted %+v, %d", m, limit, part, e, want, wantE)
		}
	}
}

func modelFit(m api.Message, limit int) (api.Message, api.Errno) {
	for {
		if len(modelPack(m)) <= limit {
			return m, api.OK
		}
		last := len(m.Additional) - 1
		for last >= 0 && m.Additional[last].Type == api.OPT {
			last--
		}
		if last < 0 {
			break
		}
		m.Additional = slices.Concat(m.Additional[:last], m.Additional[last+1:])
	}
	m.Answers, m.Authority, m.TC = nil, nil, true
	if len(modelPack(m)) <= limit {
		return m, api.OK
	}
	return api.Message{}, api.ErrLarge
}
