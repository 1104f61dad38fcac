package resolver_test

import (
	"fmt"
	"strings"
	"testing"

	"gazetteer/api"
	"gazetteer/auth"
	"gazetteer/wire"
	"gazetteer/zone"
)

// TestLongAnswers: up to as many bytes as a message has.
func TestLongAnswers(t *testing.T) {
	q := n("www.ex.")
	most := 65535 - 12 - (len(q) + 4) - (2 + 10) - 11
	for _, size := range []int{400, 500, 600, 4096, 30000, most, most + 1} {
		w := example()
		long := append(w.zones[1].Records(), api.Record{Owner: q, Type: 65000, Class: api.IN, TTL: 60, Data: strings.Repeat("x", size)})
		w.servers[at(2)][0] = newZone("ex.", long)
		reply := ask(t, begin(t, 100), netOf(w), "100 www.ex. TYPE65000")
		switch {
		case size > most:
			if reply.Rcode != api.ServFail {
				t.Errorf("P14.2: an answer without room: %d", reply.Rcode)
			}
		case reply.Rcode != api.NoError || len(reply.Records) != 1 || len(reply.Records[0].Data) != size || reply.Work != 2:
			t.Errorf("P14.3: %d bytes: %d, %d records, Work %d", size, reply.Rcode, len(reply.Records), reply.Work)
		}
	}
}

// crowd gives a world in which big. has so many servers, all at 10.0.0.2, that
// what leads from q to there, without any address, has bytes in all. The names
// of its servers stand below a parent.
func crowd(t *testing.T, q, parent string, bytes int, lines ...string) *world {
	t.Helper()
	size := func(ns []api.Record) int {
		opt := api.Record{Owner: api.Root, Type: api.OPT}
		m := api.Message{Questions: []api.Question{{Name: n(q), Type: 1, Class: 1}}, Authority: ns, Additional: []api.Record{opt}}
		return len(packed(m))
	}
	var ns, a []api.Record
	add := func(label string) {
		server := string([]byte{byte(len(label))}) + label + n(parent)
		ns = append(ns, api.Record{Owner: n("big."), Type: api.NS, Class: 1, TTL: 60, Data: server})
		a = append(a, api.Record{Owner: server, Type: api.A, Class: 1, TTL: 60, Data: at(2)})
	}
	for i := 0; size(ns) < bytes-300; i++ {
		add(fmt.Sprintf("%060d", i))
	}
	each := 15 // bytes, beside the label: the rest of the name is a pointer, or the root
	if parent == "." {
		each = 14
	}
	for fill := bytes - size(ns); fill > 0; fill = bytes - size(ns) {
		// The last one takes just what is left.
		label := min(63, fill-each)
		if rest := fill - each - label; rest > 0 && rest < 20 {
			label -= 20
		}
		add(strings.Repeat("z", label-1) + string(rune('a'+len(ns)%26)))
	}
	if size(ns) != bytes {
		t.Fatalf("what leads to big. has %d bytes, not %d", size(ns), bytes)
	}
	top := append(list(".", append([]string{"@ SOA ns. h. 1 60 60 60 30", "@ NS ns.", "ns A 10.0.0.1"}, lines...)...), append(ns, a...)...)
	own := append(list("big.", "@ SOA ns. h. 1 60 60 60 30", "x A 10.1.1.1"), ns...)
	if parent != "." {
		own = append(own, a...)
	}
	w := &world{zones: []*zone.Zone{newZone(".", top), newZone("big.", own)}}
	w.servers = map[string][]*zone.Zone{at(1): w.zones[:1], at(2): w.zones[1:]}
	return w
}

// isCut: does the root's server have no room for an answer?
func isCut(w *world, q string) bool {
	m := api.Message{Questions: []api.Question{{Name: n(q), Type: 1, Class: 1}}, Additional: []api.Record{{Owner: api.Root, Type: api.OPT, Class: 65535}}}
	a, _, _ := wire.Unpack(auth.Serve(w.servers[at(1)], packed(m), 65535))
	return a.TC
}

// TestCrowds: an alias, or a grafted name, whose server has no room for what
// leads on from there.
func TestCrowds(t *testing.T) {
	c := strings.Repeat("c", 40) + "."
	w := crowd(t, "x.big.", "big.", 65535-16, c+" CNAME x.big.", "e.d. DNAME big.", "f. DNAME big.", "long CNAME "+c)
	for q, cut := range map[string]bool{"x.big.": false, c: true, "x.e.d.": true, "x.f.": true, "long.": true} {
		if isCut(w, q) != cut {
			t.Fatalf("%s: TC %v", q, !cut)
		}
	}
	run(t, begin(t, 100), netOf(w), "100 x.big. A => 2 NoError: x.big. 60 A 10.1.1.1")
	run(t, begin(t, 100), netOf(w),
		"100 "+c+" A => ? NoError: "+c+" 60 CNAME x.big. | x.big. 60 A 10.1.1.1",
		"100 "+c+" A => 0 NoError: "+c+" 60 CNAME x.big. | x.big. 60 A 10.1.1.1",
	)
	run(t, begin(t, 100), netOf(w),
		"100 x.e.d. A => ? NoError: e.d. 60 DNAME big. | x.e.d. 60 CNAME x.big. | x.big. 60 A 10.1.1.1",
		"100 x.e.d. CNAME => 1 NoError: e.d. 60 DNAME big. | x.e.d. 60 CNAME x.big.",
	)
	run(t, begin(t, 100), netOf(w), "100 x.f. A => ? NoError: f. 60 DNAME big. | x.f. 60 CNAME x.big. | x.big. 60 A 10.1.1.1")
	run(t, begin(t, 100), netOf(w), "100 x.e.d. CNAME => ? NoError: e.d. 60 DNAME big. | x.e.d. 60 CNAME x.big.")
	run(t, begin(t, 100), netOf(w), "100 x.e.d. ANY => ? NoError: e.d. 60 DNAME big. | x.e.d. 60 CNAME x.big. | x.big. 60 A 10.1.1.1")
	run(t, begin(t, 100), netOf(w), "100 long. A => ? NoError: long. 60 CNAME "+c+" | "+c+" 60 CNAME x.big. | x.big. 60 A 10.1.1.1")
}

// TestNoRoomForAddresses: servers whose names have room, but no address.
func TestNoRoomForAddresses(t *testing.T) {
	w := crowd(t, "x.big.", ".", 65535)
	run(t, begin(t, 100), netOf(w),
		"100 x.big. A => 3 NoError: x.big. 60 A 10.1.1.1",
		"100 y.big. A => 1 NxDomain",
	)
	// Within the zone itself nobody finds them.
	run(t, begin(t, 100), netOf(crowd(t, "x.big.", "big.", 65535)), "100 x.big. A => 1 ServFail")
}
