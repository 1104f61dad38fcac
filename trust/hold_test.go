package trust_test

import (
	"math"
	"math/rand"
	"slices"
	"strings"
	"testing"

	"gazetteer/api"
	"gazetteer/trust"
)

// TestNothingShared: whatever is done with an answer, or with what was handed
// in, isn't seen in another.
func TestNothingShared(t *testing.T) {
	list := append(anchors(". 1"), make([]api.Anchor, 3)...)[:1]
	records := append(bag(chain()...), make([]api.Record, 5)...)
	records = records[:len(records)-5]
	one := append(set("www.ex. A 10.0.0.1"), api.Record{})[:1]
	whole, wholeSet := slices.Clone(records[:cap(records)]), slices.Clone(one[:cap(one)])
	first := trust.Walk(list, records, n("www.ex."), api.A, 150)
	kept := slices.Clone(first.Keys)
	clear(first.Keys)
	_ = append(first.Keys[:0], "x", "y", "z")
	second := trust.Walk(list, records, n("www.ex."), api.A, 150)
	if !slices.Equal(second.Keys, kept) || tellTrust(second) != "secure ex. 3 4" {
		t.Errorf("P2: the second Walk = %s", tellTrust(second))
	}
	trust.Judge(list, records, one, 150)
	trust.Absent(list, records, n("x.ex."), api.A, 150)
	if !slices.Equal(records[:cap(records)], whole) || !slices.Equal(one[:cap(one)], wholeSet) || list[0] != anchors(". 1")[0] || list[:4][3] != (api.Anchor{}) {
		t.Error("P2: what was handed in was changed")
	}
	clear(records)
	clear(list)
	if tellTrust(second) != "secure ex. 3 4" {
		t.Errorf("P2: the second Walk became %s", tellTrust(second))
	}
}

// TestOrder: neither status nor zone hang on the order of a bag in which
// nothing is like anything else, and the keys are told in that order.
func TestOrder(t *testing.T) {
	t.Parallel()
	d := dice{rand.New(rand.NewSource(2))}
	lines := append(deep(), "x.d.ex. NSEC z.d.ex. NS / . 1", "a.c.d.ex. TXT a / c.d.ex. 4 ~3", "c.d.ex. NSEC b.c.d.ex. NS SOA / c.d.ex. 3")
	records := bag(lines...)
	for range 200 {
		d.Shuffle(len(records), func(i, j int) { records[i], records[j] = records[j], records[i] })
		three := slices.IndexFunc(records, func(r api.Record) bool { return r.Type == api.DNSKEY && r.Data == public(3) })
		four := slices.IndexFunc(records, func(r api.Record) bool { return r.Type == api.DNSKEY && r.Data == public(4) })
		order := " 3 4"
		if four < three {
			order = " 4 3"
		}
		check(t, anchors(". 1"), records,
			"walk a.c.d.ex. A => secure c.d.ex."+order, "walk p.y.z.b.c.d.ex. A => secure y.z.b.c.d.ex. 7", "walk p.x.d.ex. A => insecure",
			"judge a.c.d.ex. TXT a => secure", "absent a.c.d.ex. A => secure no name", "absent c.d.ex. A => secure no data")
		if t.Failed() {
			return
		}
	}
}

// TestGarbage: whatever is given, there is an answer.
func TestGarbage(t *testing.T) {
	t.Parallel()
	d := dice{rand.New(rand.NewSource(1))}
	texts := []string{"", "\x00", "\x02ex\x00", "\x02ex", "\x03www\x02ex\x00", "\xff\xff\xff", "\x00\x2e", strings.Repeat("\x01a", 130), public(1), public(3), ds(".", 1), strings.Repeat("\x3f", 70000), "\x10o184kt0592m2uprr\x00"}
	numbers := []int{math.MinInt, -1, 0, 1, 2, 43, 46, 47, 48, 50, 255, 65535, 65536, math.MaxInt}
	text := func() string { return d.oneOf(texts...) }
	some := func() int { return numbers[d.Intn(len(numbers))] }
	seen := 0
	for range 1500 {
		list := []api.Anchor{{Zone: text(), Ds: text()}, {Zone: text(), Ds: text()}}
		if d.rare(2) {
			list = anchors(". 1")
		}
		var records []api.Record
		if d.rare(2) {
			records = bag(chain("x.ex. NSEC y.ex. NS / ex. 4", "x.ex. at ex. NS / ex. 4")...)
		}
		for range d.Intn(6) {
			r := api.Record{Owner: text(), Type: some(), Class: 1, TTL: some(), Data: text()}
			records = slices.Insert(records, d.Intn(len(records)+1), r)
		}
		q, typ, now := text(), some(), some()
		if d.rare(2) {
			q, typ, now = n("a.x.ex."), 1, 150
		}
		w := trust.Walk(list, records, q, typ, now)
		if w.Status < 0 || w.Status > 3 || w.Status != api.TrustSecure && (w.Zone != "" || len(w.Keys) > 0) || w.Status == api.TrustSecure && (w.Zone == "" || len(w.Keys) == 0) {
			t.Fatalf("P13.1 Walk(%+v, %q, %d, %d) = %+v", list, q, typ, now, w)
		}
		status, proof := trust.Absent(list, records, q, typ, now)
		if status != w.Status && !(w.Status == api.TrustSecure && status == api.TrustBogus) || proof != api.ProofNothing && status != api.TrustSecure {
			t.Fatalf("P13.3 Absent(%q, %d, %d) = %d, %d", q, typ, now, status, proof)
		}
		part := records[:min(len(records), d.Intn(3))]
		if got := trust.Judge(list, records, part, now); got < 0 || got > 3 {
			t.Fatalf("P13.2 Judge(%+v) = %d", part, got)
		}
		if w.Status == api.TrustInsecure {
			seen++
		}
	}
	if seen < 20 {
		t.Errorf("too few: %d", seen)
	}
	if got := trust.Walk(nil, nil, n("ex."), api.A, 150); got.Status != api.TrustNone {
		t.Errorf("P13.1 Walk of nothing = %+v", got)
	}
	if status, _ := trust.Absent(anchors(". 1"), nil, n("ex."), api.A, 150); status != api.TrustBogus || trust.Judge(nil, nil, nil, 150) != api.TrustBogus {
		t.Error("P13.2, P13.3 of nothing")
	}
}

// TestMuch: many signatures of one star, many keys and many proofs.
func TestMuch(t *testing.T) {
	t.Parallel()
	lines := chain()
	for range 200 {
		lines = append(lines, "a.w.ex. TXT a / ex. 4 ~2", "*.w.ex. NSEC b.w.ex. TXT / ex. 9", "x.ex. NSEC y.ex. TXT / ex. 4")
	}
	run(t, lines, "judge a.w.ex. TXT a => bogus")
	run(t, append(lines, "*.w.ex. NSEC b.w.ex. TXT / ex. 3"), "judge a.w.ex. TXT a => secure", "walk a.w.ex. TXT => secure ex. 3 4")
}
