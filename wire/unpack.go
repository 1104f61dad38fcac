package wire

import "gazetteer/api"

// Unpack: the message that bytes are.
func Unpack(b []byte) (api.Message, int, api.Errno) {
	switch {
	case len(b) > api.MaxMessage:
		return api.Message{}, 0, api.ErrLarge
	case len(b) < headSize:
		return api.Message{}, len(b), api.ErrEnd
	case number(b[2:4])>>unusedBit&1 != 0:
		return api.Message{}, 2, api.ErrForm
	}
	head := [headSize]byte(b)
	m := signsOf(head)
	r := reader{bytes: b, at: headSize, end: len(b), short: api.ErrEnd}
	if e := r.parts(head, &m); e != api.OK {
		return api.Message{}, r.at, e
	}
	return m, 0, api.OK
}

// number: the number that bytes are, the highest first.
func number(b []byte) int {
	n := 0
	for _, c := range b {
		n = n<<8 | int(c)
	}
	return n
}

// signsOf: a message with what its head tells, the numbers of parts aside.
func signsOf(head [headSize]byte) api.Message {
	signs := number(head[2:4])
	m := api.Message{ID: number(head[:2]), Opcode: signs >> opcodeBit & 15, Rcode: signs & 15}
	for _, k := range marksOf(&m) {
		*k.sign = signs>>k.bit&1 != 0
	}
	return m
}

// reader: bytes from a place on, up to an end; what it is if that comes too early.
type reader struct {
	bytes []byte
	at    int
	end   int
	short api.Errno
}

func (r *reader) take(size int) ([]byte, api.Errno) {
	if r.end-r.at < size {
		return nil, r.short
	}
	r.at += size
	return r.bytes[r.at-size : r.at], api.OK
}

// parts reads all that stands behind the head. With an error the reader is at
// the place that is told with it.
func (r *reader) parts(head [headSize]byte, m *api.Message) (e api.Errno) {
	if m.Questions, e = list(r, number(head[4:6]), (*reader).question); e != api.OK {
		return e
	}
	for i, section := range sectionsOf(m) {
		count := number(head[6+2*i : 8+2*i])
		if *section, e = list(r, count, (*reader).record); e != api.OK {
			return e
		}
	}
	if r.at < r.end {
		return api.ErrTrail
	}
	return api.OK
}

// list reads so many parts. With an error the reader is where the wrong one begins.
func list[T any](r *reader, count int, read func(*reader) (T, api.Errno)) ([]T, api.Errno) {
	var parts []T
	for range count {
		begin := r.at
		part, e := read(r)
		if e != api.OK {
			r.at = begin
			return nil, e
		}
		parts = append(parts, part)
	}
	return parts, api.OK
}

func (r *reader) question() (api.Question, api.Errno) {
	n, e := r.name()
	if e != api.OK {
		return api.Question{}, e
	}
	b, e := r.take(4)
	if e != api.OK {
		return api.Question{}, e
	}
	return api.Question{Name: n, Type: number(b[:2]), Class: number(b[2:])}, api.OK
}

func (r *reader) record() (api.Record, api.Errno) {
	q, e := r.question()
	if e != api.OK {
		return api.Record{}, e
	}
	b, e := r.take(6)
	if e != api.OK {
		return api.Record{}, e
	}
	begin := r.at
	if _, e := r.take(number(b[4:])); e != api.OK {
		return api.Record{}, e
	}
	inner := reader{bytes: r.bytes, at: begin, end: r.at, short: api.ErrData}
	d, e := inner.data(q.Type)
	if e != api.OK {
		return api.Record{}, e
	}
	told := api.Record{Owner: q.Name, Type: q.Type, Class: q.Class, TTL: number(b[:4]), Data: d}
	if !rightData(told) {
		return api.Record{}, api.ErrData
	}
	return told, api.OK
}

// data: all that the reader has, names that may be short made whole.
func (r *reader) data(t int) (string, api.Errno) {
	if r.at == r.end {
		// Where nothing need stand there is no name, either.
		return "", api.OK
	}
	s := shapeOf(t)
	d, e := r.take(s.ahead)
	if e != api.OK {
		return "", e
	}
	whole := string(d)
	for range s.names {
		n, e := r.name()
		if e != api.OK {
			return "", e
		}
		whole += n
	}
	return whole + string(r.bytes[r.at:r.end]), api.OK
}

// name reads a name that may be short.
func (r *reader) name() (string, api.Errno) {
	// Behind a pointer the rest may stand anywhere, whatever r's end is.
	rest := reader{bytes: r.bytes, end: len(r.bytes), short: api.ErrEnd}
	row, begin := r, r.at
	var n []byte
	for {
		first, e := row.take(1)
		if e != api.OK {
			return "", e
		}
		size := int(first[0])
		switch {
		case size == 0:
			return string(n) + api.Root, api.OK
		case size >= pointerMark:
			place, e := row.place(size)
			if e != api.OK {
				return "", e
			}
			// Only what leads ever further down comes to an end.
			if place >= begin {
				return "", api.ErrPointer
			}
			rest.at = place
			row, begin = &rest, place
			continue
		case size > api.MaxLabel:
			return "", api.ErrPointer
		}
		label, e := row.take(size)
		if e != api.OK {
			return "", e
		}
		n = append(append(n, first...), label...)
		if len(n)+len(api.Root) > api.MaxName {
			return "", api.ErrLong
		}
	}
}

// place: where a pointer leads whose first byte is read.
func (r *reader) place(first int) (int, api.Errno) {
	low, e := r.take(1)
	if e != api.OK {
		return 0, e
	}
	return (first-pointerMark)<<8 | int(low[0]), api.OK
}
