package resolver

import (
	"slices"

	"gazetteer/api"
	"gazetteer/wire"
)

// ask sends a question to a server of a zone. It gives what it answers; an
// answer that says nothing, if none comes or too much was sent already.
func (s *search) ask(zone, server, n string, t int) answer {
	if s.work >= api.MaxWork {
		return answer{}
	}
	s.work++
	s.sent++
	m := question(s.sent%(lastID+1), n, t)
	// A name and an extra always have room.
	b, _ := wire.Pack(m)
	for _, d := range s.send(server, b) {
		if d.From != server {
			continue
		}
		if reply, ok := fitting(d.Data, m); ok {
			return answer{reply, zone}
		}
	}
	return answer{}
}

// lastID: the greatest number of a message.
const lastID = 65535

// question: the message that asks for a name and a type. Without the extra no
// more than 512 bytes would come back.
func question(id int, n string, t int) api.Message {
	return api.Message{
		ID:         id,
		Questions:  []api.Question{{Name: n, Type: t, Class: api.IN}},
		Additional: []api.Record{{Owner: api.Root, Type: api.OPT, Class: api.MaxMessage}},
	}
}

// send: what comes back from an address. A net that panics has brought nothing.
func (s *search) send(to string, b []byte) (back []api.Datagram) {
	defer func() {
		if recover() != nil {
			back = nil
		}
	}()
	return s.net.Send(to, b)
}

// fitting: the message that bytes are, if it answers the one that was sent.
func fitting(b []byte, sent api.Message) (api.Message, bool) {
	m, _, e := wire.Unpack(b)
	fits := e == api.OK && m.Response && m.ID == sent.ID && m.Opcode == sent.Opcode && slices.Equal(m.Questions, sent.Questions)
	return m, fits
}
