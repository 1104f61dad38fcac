package wire

import (
	"gazetteer/api"
	"gazetteer/data"
)

// Pack: the bytes of a message.
func Pack(m api.Message) ([]byte, api.Errno) {
	if Check(m) != api.OK {
		return nil, api.ErrForm
	}
	p := newPacker()
	p.message(&m, api.MaxMessage)
	if len(p.bytes) > api.MaxMessage {
		return nil, api.ErrLarge
	}
	return p.bytes, api.OK
}

// writer: bytes under way.
type writer struct{ bytes []byte }

func (w *writer) text(s string) { w.bytes = append(w.bytes, s...) }

// number writes so many bytes, the highest first.
func (w *writer) number(n, size int) {
	w.bytes = append(w.bytes, make([]byte, size)...)
	w.set(len(w.bytes)-size, n, size)
}

// set writes a number over what stands at a place.
func (w *writer) set(at, n, size int) {
	for i := range size {
		w.bytes[at+i] = byte(n >> (8 * (size - 1 - i)))
	}
}

// packer: a message under way, and the places to which pointers may lead: of
// each name that may be short, and of each end of it that has labels, the first.
type packer struct {
	writer
	places map[string]int
}

func newPacker() *packer { return &packer{places: make(map[string]int)} }

// message writes m, but nothing behind the first record with which there is no
// room in so many bytes. It answers how many records it wrote, that one too.
func (p *packer) message(m *api.Message, most int) int {
	p.head(m)
	for _, q := range m.Questions {
		p.question(q)
	}
	count := 0
	for _, section := range sectionsOf(m) {
		for _, r := range *section {
			if len(p.bytes) > most {
				return count
			}
			p.record(r)
			count++
		}
	}
	return count
}

func (p *packer) head(m *api.Message) {
	p.number(m.ID, 2)
	signs := m.Opcode<<opcodeBit | m.Rcode
	for _, k := range marksOf(m) {
		if *k.sign {
			signs |= 1 << k.bit
		}
	}
	p.number(signs, 2)
	p.number(len(m.Questions), 2)
	for _, section := range sectionsOf(m) {
		p.number(len(*section), 2)
	}
}

func (p *packer) question(q api.Question) {
	p.name(q.Name)
	p.number(q.Type, 2)
	p.number(q.Class, 2)
}

func (p *packer) record(r api.Record) {
	p.question(api.Question{Name: r.Owner, Type: r.Type, Class: r.Class})
	p.number(r.TTL, 4)
	// How long the data come out is known when they are written.
	p.number(0, 2)
	begin := len(p.bytes)
	p.data(r.Type, r.Data)
	p.set(begin-2, len(p.bytes)-begin, 2)
}

func (p *packer) data(t int, d string) {
	s := shapeOf(t)
	if d == "" || s.names == 0 {
		p.text(d)
		return
	}
	p.text(d[:s.ahead])
	rest := d[s.ahead:]
	for _, n := range data.Names(t, d) {
		p.name(n)
		rest = rest[len(n):]
	}
	p.text(rest)
}

// name writes a name that may be short.
func (p *packer) name(n string) {
	for n != api.Root {
		if place, ok := p.places[n]; ok {
			p.number(pointerMark<<8|place, 2)
			return
		}
		if at := len(p.bytes); at <= maxPlace {
			p.places[n] = at
		}
		end := 1 + int(n[0])
		p.text(n[:end])
		n = n[end:]
	}
	p.text(api.Root)
}
