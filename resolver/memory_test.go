package resolver_test

import (
	"slices"
	"strconv"
	"testing"

	"gazetteer/api"
	"gazetteer/zone"
)

// TestAges: what is remembered lives to the second at which it ends.
func TestAges(t *testing.T) {
	w := netOf(found(
		lay(".", "ns.=1"),
		lay("ex.", "ns.ex.=2", "www 60 A 10.1.1.1", "c 20 CNAME www", "d 25 DNAME net.ex.", "x.net 50 A 10.1.1.2", "zero 0 A 10.1.1.3", "zc 0 CNAME www", "one 1 A 10.1.1.4", "any 9 A 10.1.1.5", "any 7 TXT hi"),
	))
	run(t, begin(t, 100), w,
		"100 www.ex. A => 2 NoError: www.ex. 60 A 10.1.1.1",
		"101 www.ex. A => 0 NoError: www.ex. 59 A 10.1.1.1",
		"159 www.ex. A => 0 NoError: www.ex. 1 A 10.1.1.1",
		"160 www.ex. A => 1 NoError: www.ex. 60 A 10.1.1.1",
		"170 c.ex. A => 1 NoError: c.ex. 20 CNAME www.ex. | www.ex. 50 A 10.1.1.1",
		"189 c.ex. A => 0 NoError: c.ex. 1 CNAME www.ex. | www.ex. 31 A 10.1.1.1",
		"190 c.ex. A => 1 NoError: c.ex. 20 CNAME www.ex. | www.ex. 30 A 10.1.1.1",
		"200 x.d.ex. A => 2 NoError: d.ex. 25 DNAME net.ex. | x.d.ex. 25 CNAME x.net.ex. | x.net.ex. 50 A 10.1.1.2",
		"224 x.d.ex. A => 0 NoError: d.ex. 1 DNAME net.ex. | x.d.ex. 1 CNAME x.net.ex. | x.net.ex. 26 A 10.1.1.2",
		"225 x.d.ex. A => 1 NoError: d.ex. 25 DNAME net.ex. | x.d.ex. 25 CNAME x.net.ex. | x.net.ex. 25 A 10.1.1.2",
		"300 zero.ex. A => 1 NoError: zero.ex. 0 A 10.1.1.3",
		"300 zero.ex. A => 1 NoError: zero.ex. 0 A 10.1.1.3",
		"300 zc.ex. A => 2 NoError: zc.ex. 0 CNAME www.ex. | www.ex. 60 A 10.1.1.1",
		"300 zc.ex. A => 1 NoError: zc.ex. 0 CNAME www.ex. | www.ex. 60 A 10.1.1.1",
		"300 one.ex. A => 1 NoError: one.ex. 1 A 10.1.1.4",
		"300 one.ex. A => 0 NoError: one.ex. 1 A 10.1.1.4",
		"301 one.ex. A => 1 NoError: one.ex. 1 A 10.1.1.4",
		`400 any.ex. ANY => 1 NoError: any.ex. 9 A 10.1.1.5 | any.ex. 7 TXT "hi"`,
		`406 any.ex. ANY => 0 NoError: any.ex. 1 A 10.1.1.5 | any.ex. 1 TXT "hi"`,
		`407 any.ex. ANY => 1 NoError: any.ex. 9 A 10.1.1.5 | any.ex. 7 TXT "hi"`,
	)
}

// TestAbsences: that nothing is there is remembered, too.
func TestAbsences(t *testing.T) {
	w := netOf(found(
		lay(".", "ns.=1"),
		lay("ex.", "ns.ex.=2", "www A 10.1.1.1", "a.b A 10.1.1.2"), // 30 seconds
		lay("old.", "ns.old.=3", "@ 20 SOA ns. h. 1 60 60 60 300"),
		lay("none.", "ns.none.=4", "@ 0 SOA ns. h. 1 60 60 60 300"),
		lay("long.", "ns.long.=5", "@ 999999 SOA ns. h. 1 60 60 60 999999"),
	))
	run(t, begin(t, 100), w,
		"100 x.ex. A => 2 NxDomain",
		"129 x.ex. TXT => 0 NxDomain",
		"129 y.x.ex. A => 0 NxDomain",
		"130 x.ex. A => 1 NxDomain",
		"200 www.ex. TXT => 1 NoError",
		"229 www.ex. TXT => 0 NoError",
		"229 www.ex. MX => 1 NoError",
		"230 www.ex. TXT => 1 NoError",
		"300 b.ex. ANY => 1 NoError",
		"329 b.ex. ANY => 0 NoError",
		"330 b.ex. ANY => 1 NoError",
		"400 x.old. A => ? NxDomain",
		"419 x.old. A => 0 NxDomain",
		"420 x.old. A => 1 NxDomain",
		"420 x.none. A => ? NxDomain",
		"420 x.none. A => 1 NxDomain",
		"500 x.long. A => ? NxDomain",
		"11299 x.long. A => 0 NxDomain",
		"11300 x.long. A => ? NxDomain",
	)
	again := found(lay(".", "ns.=1"), lay("ex.", "ns.ex.=2", "c CNAME x", "www A 10.1.1.1", "t CNAME www"))
	run(t, begin(t, 100), netOf(again),
		"100 c.ex. A => 3 NxDomain: c.ex. 60 CNAME x.ex.",
		"110 c.ex. A => 0 NxDomain: c.ex. 50 CNAME x.ex.",
		"130 c.ex. A => 1 NxDomain: c.ex. 30 CNAME x.ex.",
		"130 t.ex. TXT => 2 NoError: t.ex. 60 CNAME www.ex.",
		"159 t.ex. TXT => 0 NoError: t.ex. 31 CNAME www.ex.",
	)
}

// TestLongAges: nothing is remembered longer than a week.
func TestLongAges(t *testing.T) {
	w := netOf(example("old 2147483647 A 10.1.1.1"))
	r := begin(t, 100)
	if reply := ask(t, r, w, "100 old.ex. A"); reply.Rcode != api.NoError || len(reply.Records) != 1 || reply.Records[0].TTL > 2147483647 {
		t.Errorf("P14.3: %s", tell(reply))
	}
	run(t, r, w,
		"604899 old.ex. A => 0 NoError: old.ex. 1 A 10.1.1.1",
		"604900 old.ex. A => 2 NoError: old.ex. 2147483647 A 10.1.1.1",
	)
}

// askedFrom gives the numbers of the servers to whom something was sent from a
// number on.
func askedFrom(w *net, from int) []int {
	var numbers []int
	for _, s := range w.sent[from:] {
		numbers = append(numbers, int(s.to[3]))
	}
	return numbers
}

// TestServersAges: where servers are is remembered as long as both may be: who
// they are, and where.
func TestServersAges(t *testing.T) {
	for _, c := range []struct{ ns, a, lasts int }{{600, 600, 600}, {20, 600, 20}, {600, 30, 30}, {0, 600, 0}, {600, 0, 0}} {
		ns, a := "ex. "+strconv.Itoa(c.ns)+" NS ns.ex.", "ns.ex. "+strconv.Itoa(c.a)+" A 10.0.0.2"
		w := netOf(&world{servers: map[string][]*zone.Zone{
			at(1): {newZone(".", list(".", ". SOA ns. h. 1 60 60 60 0", ". NS ns.", "ns. A 10.0.0.1", ns, a))},
			at(2): {newZone("ex.", list(".", "ex. SOA ns. h. 1 60 60 60 0", ns, a, "c.ex. 0 CNAME www.ex.", "www.ex. 0 A 10.1.1.1"))},
		}})
		r := begin(t, 100)
		for _, now := range []int{1000, 1000 + c.lasts - 1, 1000 + c.lasts} {
			now = max(now, 1000)
			before := len(w.sent)
			ask(t, r, w, strconv.Itoa(now)+" c.ex. A")
			want := []int{1, 2, 2} // the root once, though the way is told with no age
			if now > 1000 && now < 1000+c.lasts {
				want = want[1:]
			}
			if got := askedFrom(w, before); !slices.Equal(got, want) {
				t.Errorf("P14.2: NS of %d, A of %d, at %d asked were %v; wanted %v", c.ns, c.a, now, got, want)
			}
		}
	}
}

// TestFewThings: with any number of things that may be remembered all comes out
// right, and no more than that are.
func TestFewThings(t *testing.T) {
	lines := []string{"c CNAME h1", "d DNAME ex."}
	for i := range 40 {
		lines = append(lines, "h"+strconv.Itoa(i)+" A 10.1.1."+strconv.Itoa(i))
	}
	for _, most := range []int{1, 2, 3, 5, 10, 30, 5000} {
		w, r := netOf(found(lay(".", "ns.=1"), lay("a.", "ns.a.=3"), lay("ex.", "ns.ex.=2", lines...), lay("b.a.", "ns.b.a.=4"))), begin(t, most)
		known := 0
		for round := range 2 {
			for i := range 40 {
				h := "h" + strconv.Itoa(i) + ".ex."
				reply := ask(t, r, w, "100 "+h+" A")
				if tell(reply) != "NoError: "+h+" 60 A 10.1.1."+strconv.Itoa(i) {
					t.Fatalf("P14.3: %d things: %s", most, tell(reply))
				}
				if round == 1 && reply.Work == 0 {
					known++
				}
			}
		}
		if known > most {
			t.Errorf("P14.1: of at most %d things %d are remembered", most, known)
		}
		if most == 5000 && known != 40 {
			t.Errorf("P14.2: %d of 40 are remembered", known)
		}
		run(t, r, w,
			"200 c.ex. A => ? NoError: c.ex. 60 CNAME h1.ex. | h1.ex. 60 A 10.1.1.1",
			"200 h2.d.ex. A => ? NoError: d.ex. 60 DNAME ex. | h2.d.ex. 60 CNAME h2.ex. | h2.ex. 60 A 10.1.1.2",
			"200 x.b.a. A => ? NxDomain",
			"200 y.x.ex. A => ? NxDomain",
		)
	}
}

// TestChanges: what was said is believed for as long as it may be, and what is
// said then is told behind that; who has moved is found.
func TestChanges(t *testing.T) {
	r := begin(t, 100)
	run(t, r, netOf(example()), "100 www.ex. A => 2 NoError: www.ex. 60 A 10.1.1.1", "100 y.ex. A => 1 NxDomain")
	moved := netOf(found(lay(".", "ns.=1"), lay("ex.", "ns.ex.=7", "www A 10.7.7.7", "y A 10.7.7.8")))
	run(t, r, moved,
		"129 y.ex. A => 0 NxDomain",
		"130 y.ex. A => 3 NoError: y.ex. 60 A 10.7.7.8", // who was asked first isn't there any more
		"159 www.ex. A => 0 NoError: www.ex. 1 A 10.1.1.1",
		"160 www.ex. A => 1 NoError: www.ex. 60 A 10.7.7.7",
	)
	// Servers that had been silent are asked again.
	silent := netOf(example())
	delete(silent.servers, at(2))
	r = begin(t, 100)
	run(t, r, silent, "100 www.ex. A => 2 ServFail", "100 www.ex. A => 3 ServFail")
	run(t, r, netOf(example()), "100 www.ex. A => 1 NoError: www.ex. 60 A 10.1.1.1")
}

// TestTimesBack: if time goes back nothing is promised of what is remembered;
// what comes out is what was said.
func TestTimesBack(t *testing.T) {
	w := netOf(example())
	r := begin(t, 100)
	for _, now := range []string{"4294967295", "0", "50", "4294967295", "49", "110"} {
		reply := ask(t, r, w, now+" www.ex. A")
		if reply.Rcode != api.NoError || len(reply.Records) != 1 || reply.Records[0].TTL > 60 || reply.Records[0].TTL < 0 {
			t.Errorf("P14.2 at %s: %s", now, tell(reply))
		}
	}
}

// TestAgain: whatever is asked again isn't asked of servers again, whichever
// its type, and whatever else was asked.
func TestAgain(t *testing.T) {
	w := netOf(found(
		lay(".", "ns.=1", "ex. DS 1 253 1 aa", "@ SOA ns. h. 1 60 60 60 30"),
		lay("ex.", "ns.ex.=2", "@ SOA ns. h. 1 60 60 60 30", "www A 10.1.1.1", "www TXT hi", "c CNAME www", "d DNAME www", "a.b A 10.1.1.2"),
	))
	questions := []string{"ex. ANY", "ex. DS", "ex. NS", "ex. SOA", "ex. A", "www.ex. ANY", "www.ex. A", "www.ex. MX", "c.ex. A", "c.ex. CNAME", "c.ex. ANY", "x.d.ex. ANY", "d.ex. ANY", "d.ex. DNAME", "x.ex. ANY", "x.ex. DS", "y.ex. A", ". NS", ". ANY", ". DS", "b.ex. A", "b.ex. ANY", "www.ex. TYPE65535"}
	for i := range questions {
		r := begin(t, 100)
		order := slices.Concat(questions[i:], questions[:i])
		var first []api.Reply
		for _, q := range order {
			first = append(first, ask(t, r, w, "100 "+q))
		}
		for j, q := range order {
			alone := ask(t, begin(t, 100), w, "100 "+q)
			again := ask(t, r, w, "110 "+q)
			for k := range again.Records {
				again.Records[k].TTL = alone.Records[k].TTL
			}
			if tell(first[j]) != tell(alone) || tell(again) != tell(alone) || again.Work != 0 {
				t.Errorf("P14.2 %s: alone %s\nbehind others %s\nagain %s by %d", q, tell(alone), tell(first[j]), tell(again), again.Work)
			}
		}
	}
}
