package resolver_test

import (
	"slices"
	"strings"
	"testing"

	"gazetteer/api"
	"gazetteer/auth"
	"gazetteer/name"
	"gazetteer/wire"
)

// packed gives the bytes of a message.
func packed(m api.Message) []byte {
	b, e := wire.Pack(m)
	if e != api.OK {
		panic("a message that can't be packed")
	}
	return b
}

// lie gives an answer that fits a question, with data that stand nowhere.
func lie(m api.Message) api.Message {
	q := m.Questions[0]
	d := "\x09\x09\x09\x09"
	switch q.Type {
	case api.NS, api.CNAME, api.DNAME:
		d = n("lie.")
	case api.TXT:
		d = "\x03lie"
	}
	return api.Message{ID: m.ID, Response: true, AA: true, Questions: slices.Clone(m.Questions),
		Answers: []api.Record{{Owner: q.Name, Type: q.Type, Class: api.IN, TTL: 60, Data: d}}}
}

// turned gives the name with its large letters small, and its small ones large;
// another, if it has none.
func turned(n string) string {
	if !strings.ContainsAny(strings.ToLower(n), "abcdefghijklmnopqrstuvwxyz") {
		return "\x01x" + n
	}
	b := []byte(n)
	for i := range b {
		if letter := b[i] | 32; 'a' <= letter && letter <= 'z' {
			b[i] ^= 32
		}
	}
	return string(b)
}

// misfits: datagrams that don't fit what was sent, each alone.
func misfits() map[string]func(to string, m api.Message) api.Datagram {
	// from gives a lie that was changed, or comes from elsewhere.
	from := func(change func(to string, a *api.Message) string) func(string, api.Message) api.Datagram {
		return func(to string, m api.Message) api.Datagram {
			a := lie(m)
			place := change(to, &a)
			return api.Datagram{From: place, Data: packed(a)}
		}
	}
	bytes := func(change func(b []byte) []byte) func(string, api.Message) api.Datagram {
		return func(to string, m api.Message) api.Datagram {
			return api.Datagram{From: to, Data: change(packed(lie(m)))}
		}
	}
	return map[string]func(string, api.Message) api.Datagram{
		"from another address":    from(func(to string, a *api.Message) string { return "\x09\x09\x09\x09" }),
		"from nowhere":            from(func(to string, a *api.Message) string { return "" }),
		"from a longer address":   from(func(to string, a *api.Message) string { return to + "\x00" }),
		"the next ID":             from(func(to string, a *api.Message) string { a.ID = (a.ID + 1) % 65536; return to }),
		"the ID before":           from(func(to string, a *api.Message) string { a.ID = (a.ID + 65535) % 65536; return to }),
		"another byte of the ID":  from(func(to string, a *api.Message) string { a.ID ^= 256; return to }),
		"another Opcode":          from(func(to string, a *api.Message) string { a.Opcode = 4; return to }),
		"no Response":             from(func(to string, a *api.Message) string { a.Response = false; return to }),
		"no question":             from(func(to string, a *api.Message) string { a.Questions = nil; return to }),
		"two questions":           from(func(to string, a *api.Message) string { a.Questions = slices.Repeat(a.Questions, 2); return to }),
		"another name":            from(func(to string, a *api.Message) string { a.Questions[0].Name = n("else.ex."); return to }),
		"other letters":           from(func(to string, a *api.Message) string { a.Questions[0].Name = turned(a.Questions[0].Name); return to }),
		"another type":            from(func(to string, a *api.Message) string { a.Questions[0].Type++; return to }),
		"another class":           from(func(to string, a *api.Message) string { a.Questions[0].Class = 255; return to }),
		"nothing":                 bytes(func(b []byte) []byte { return nil }),
		"a byte":                  bytes(func(b []byte) []byte { return b[:1] }),
		"a head":                  bytes(func(b []byte) []byte { return b[:12] }),
		"all but the last byte":   bytes(func(b []byte) []byte { return b[:len(b)-1] }),
		"a byte more":             bytes(func(b []byte) []byte { return append(b, 0) }),
		"a bit that is always 0":  bytes(func(b []byte) []byte { b[3] |= 64; return b }),
		"more than a message has": bytes(func(b []byte) []byte { return append(b, make([]byte, 65536)...) }),
	}
}

// walk makes some calls over a net, and gives what was told and what was sent.
func walk(t *testing.T, w *net) ([]string, []sending) {
	t.Helper()
	r := begin(t, 20)
	var replies []string
	for _, line := range []string{"100 www.ex. A", "110 www.ex. A", "120 c.ex. A", "120 x.ex. A", "130 www.ex. TXT", "130 y.d.ex. A", "200 www.ex. A", "210 ex. NS", "900 ns.ex. A", "900 silent.ex. A", "900 a.silent. A"} {
		replies = append(replies, line+" => "+tell(ask(t, r, w, line)))
	}
	return replies, w.sent
}

// forged gives a net of walk's world. In it silent. has a server that says nothing.
func forged() *net {
	w := netOf(found(
		lay(".", "ns.=1"),
		lay("ex.", "ns.ex.=2", "www A 10.1.1.1", "c CNAME www", "d DNAME ex."),
		lay("silent.", "ns.silent.=3"),
	))
	delete(w.servers, at(3))
	return w
}

// TestMisfits: what doesn't fit changes nothing, ahead of others and in the
// place of none.
func TestMisfits(t *testing.T) {
	replies, sent := walk(t, forged())
	if !slices.ContainsFunc(replies, func(line string) bool { return strings.HasSuffix(line, "ServFail") }) {
		t.Error("nothing is silent")
	}
	check := func(about string, w *net) {
		t.Helper()
		gotReplies, gotSent := walk(t, w)
		if !slices.Equal(gotReplies, replies) {
			t.Errorf("P14.4 %s: %q\nwanted %q", about, gotReplies, replies)
		}
		if !slices.Equal(gotSent, sent) {
			t.Errorf("P14.4 %s: something else was sent", about)
		}
	}
	all := misfits()
	for about, make := range all {
		w := forged()
		w.ahead = func(to string, m api.Message) []api.Datagram { return []api.Datagram{make(to, m)} }
		check(about, w)
	}
	w := forged()
	w.ahead = func(to string, m api.Message) []api.Datagram {
		var list []api.Datagram
		for _, make := range all {
			list = append(list, make(to, m))
		}
		return list
	}
	check("all of them", w)
}

// TestOneMisfit: an answer that is turned in one thing alone doesn't count; as
// it was, it does.
func TestOneMisfit(t *testing.T) {
	for about, make := range misfits() {
		w := netOf(example())
		w.instead = func(to string, m api.Message) ([]api.Datagram, bool) {
			return []api.Datagram{make(to, m)}, true
		}
		if reply := ask(t, begin(t, 100), w, "100 www.ex. A"); reply.Rcode != api.ServFail {
			t.Errorf("P14.4 %s: %s", about, tell(reply))
		}
		w.instead = func(to string, m api.Message) ([]api.Datagram, bool) {
			return []api.Datagram{make(to, m), {From: to, Data: packed(lie(m))}}, true
		}
		run(t, begin(t, 100), w, "100 www.ex. A => 1 NoError: www.ex. 60 A 9.9.9.9")
	}
}

// TestFirst: of those that fit the first counts.
func TestFirst(t *testing.T) {
	w := netOf(example())
	behind := func(to string, m api.Message) ([]api.Datagram, bool) {
		honest := api.Datagram{From: to, Data: auth.Serve(w.servers[to], packed(m), 65535)}
		return []api.Datagram{honest, {From: to, Data: packed(lie(m))}}, true
	}
	ahead := func(to string, m api.Message) ([]api.Datagram, bool) {
		list, _ := behind(to, m)
		slices.Reverse(list)
		return list, true
	}
	w.instead = behind
	run(t, begin(t, 100), w, "100 www.ex. A => 2 NoError: www.ex. 60 A 10.1.1.1")
	w.instead = ahead
	run(t, begin(t, 100), w, "100 www.ex. A => 1 NoError: www.ex. 60 A 9.9.9.9")
	// One that fits and is of no use counts, too.
	w.instead = func(to string, m api.Message) ([]api.Datagram, bool) {
		list, _ := behind(to, m)
		refusal := api.Message{ID: m.ID, Response: true, Rcode: api.Refused, Questions: m.Questions}
		return append([]api.Datagram{{From: to, Data: packed(refusal)}}, list...), true
	}
	run(t, begin(t, 100), w, "100 www.ex. A => ? ServFail")
}

// TestLetters: those of the question come back, and names are equal in others.
func TestLetters(t *testing.T) {
	w := netOf(example("*.W A 10.1.1.2"))
	r := begin(t, 100)
	run(t, r, w,
		"100 WwW.eX. A => 2 NoError: www.ex. 60 A 10.1.1.1",
		"100 www.EX. A => 0 NoError: www.ex. 60 A 10.1.1.1",
		"100 Q.w.EX. A => 1 NoError: Q.w.EX. 60 A 10.1.1.2",
	)
	for _, s := range w.sent {
		m, _, _ := wire.Unpack([]byte(s.data))
		if q := name.Show(m.Questions[0].Name); q != "WwW.eX." && q != "Q.w.EX." {
			t.Errorf("P14.2: asked for was %s", q)
		}
	}
}
