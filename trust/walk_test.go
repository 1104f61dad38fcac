package trust_test

import (
	"math"
	"slices"
	"strings"
	"testing"

	"gazetteer/api"
	"gazetteer/trust"
)

func TestExamples(t *testing.T) {
	whole := chain()
	run(t, whole, "judge www.ex. A 10.0.0.1 => secure", "walk www.ex. A => secure ex. 3 4", "201: judge www.ex. A 10.0.0.1 => bogus")
	bare := without(whole, "ex. ds")
	run(t, bare, "judge www.ex. A 10.0.0.1 => bogus", "walk www.ex. A => secure . 1 2")
	run(t, append(bare, "ex. NSEC fx. NS RRSIG NSEC / . 2"), "judge www.ex. A 10.0.0.1 => insecure", "walk www.ex. A => insecure")
	check(t, nil, bag(whole...), "judge www.ex. A 10.0.0.1 => none", "walk www.ex. A => none")
	check(t, anchors("org. 1"), bag(whole...), "judge www.ex. A 10.0.0.1 => none", "walk www.ex. A => none")
}

// always: the lines of a bag whose signatures fit at all times.
func always() []string {
	return []string{". keys 1 / . 1 @0-4294967295", "ex. ds 3 / . 1 @0-4294967295", "ex. keys 3 / ex. 3 @0-4294967295"}
}

// TestWalkWrong: what no zone can tell of is bogus, whoever is trusted.
func TestWalkWrong(t *testing.T) {
	records := bag(always()...)
	for _, list := range [][]api.Anchor{anchors(". 1"), nil} {
		right := api.TrustSecure
		if list == nil {
			right = api.TrustNone
		}
		ask := func(n string, typ, now, want int) {
			t.Helper()
			got := trust.Walk(list, records, n, typ, now)
			if got.Status != want || want != api.TrustSecure && (got.Zone != "" || len(got.Keys) > 0) {
				t.Errorf("P13.1 Walk(%q, %d, %d) = %+v; wanted %d", n, typ, now, got, want)
			}
			status, proof := trust.Absent(list, records, n, typ, now)
			if want == api.TrustSecure {
				want = api.TrustBogus // nothing is proved
			}
			if status != want || proof != api.ProofNothing {
				t.Errorf("P13.3 Absent(%q, %d, %d) = %d, %d; wanted %d", n, typ, now, status, proof, want)
			}
		}
		host := n("www.ex.")
		for _, bad := range []string{"", "www.ex.", "\x03www", "\x03www\x02ex", host + "\x00", "\xc0\x0c", strings.Repeat("\x01a", 127) + "\x01\x00"} {
			ask(bad, api.A, 150, api.TrustBogus)
		}
		ask(strings.Repeat("\x01a", 127)+"\x00", api.A, 150, right)
		for _, typ := range []int{math.MinInt, -1, 0, 65536, 65536 + 1, math.MaxInt} {
			ask(host, typ, 150, api.TrustBogus)
		}
		for _, typ := range []int{1, api.RRSIG, api.OPT, api.ANY, 65535} {
			ask(host, typ, 150, right)
		}
		for _, now := range []int{math.MinInt, -1, api.MaxTime + 1, api.Never + 150, math.MaxInt} {
			ask(host, api.A, now, api.TrustBogus)
		}
		for _, now := range []int{0, 1, api.MaxTime} {
			ask(host, api.A, now, right)
		}
	}
}

// TestTimes: each signature holds from its first second to its last.
func TestTimes(t *testing.T) {
	lines := []string{
		". keys 1 2 / . 1 @100-200",
		"ex. ds 3 / . 2 @110-190",
		"ex. keys 3 4 / ex. 3 @120-180",
		"www.ex. A 10.0.0.1 / ex. 4 @130-170",
	}
	walk := func(now, want string) string { return now + ": walk www.ex. A => " + want }
	judge := func(now, want string) string { return now + ": judge www.ex. A 10.0.0.1 => " + want }
	run(t, lines,
		walk("99", "bogus"), walk("201", "bogus"), judge("99", "bogus"), judge("201", "bogus"),
		// A DS that isn't signed isn't one.
		walk("100", "secure . 1 2"), walk("109", "secure . 1 2"), walk("191", "secure . 1 2"), walk("200", "secure . 1 2"),
		judge("100", "bogus"), judge("191", "bogus"),
		walk("110", "bogus"), walk("119", "bogus"), walk("181", "bogus"), walk("190", "bogus"),
		walk("120", "secure ex. 3 4"), walk("180", "secure ex. 3 4"),
		judge("120", "bogus"), judge("129", "bogus"), judge("171", "bogus"), judge("180", "bogus"),
		judge("130", "secure"), judge("150", "secure"), judge("170", "secure"),
	)
	proof := append(without(lines, "ex. ds"), "ex. NSEC . NS / . 1 @110-190")
	run(t, proof, walk("109", "secure . 1 2"), walk("110", "insecure"), walk("190", "insecure"), walk("191", "secure . 1 2"))
}

// TestAnchorsThatCount: those of the zone that is furthest down.
func TestAnchorsThatCount(t *testing.T) {
	records := bag(chain("a.ex. ds 5 / ex. 4", "a.ex. keys 5 / a.ex. 5")...)
	for _, c := range []struct{ anchors, call string }{
		{"", "walk www.ex. A => none"},
		{"org. 1", "walk www.ex. A => none"},
		{"org. 1", "walk . A => none"},
		{"x.www.ex. 1", "walk www.ex. A => none"},
		{"ww.ex. 1", "walk www.ex. A => none"},
		{". 1", "walk www.ex. A => secure ex. 3 4"},
		{". 1", "walk www.org. A => secure . 1 2"},
		{". 1", "walk . A => secure . 1 2"},
		{". 2", "walk www.ex. A => bogus"},
		{". 3", "walk www.ex. A => bogus"},
		{"ex. 3", "walk www.ex. A => secure ex. 3 4"},
		{"ex. 3", "walk www.org. A => none"},
		{"ex. 3", "walk . A => none"},
		{"ex. 4", "walk www.ex. A => bogus"},
		{"ex. 3", "walk ex. A => secure ex. 3 4"},
		{"a.ex. 5", "walk b.a.ex. A => secure a.ex. 5"},
		// Several of one zone: one of them is enough.
		{". 1 . 2", "walk www.ex. A => secure ex. 3 4"},
		{". 2 . 1", "walk www.ex. A => secure ex. 3 4"},
		{". 7 . 8 . 1 . 9", "walk www.ex. A => secure ex. 3 4"},
		{". 2 . 7", "walk www.ex. A => bogus"},
		{". 1 . 1", "walk www.ex. A => secure ex. 3 4"},
		// Of zones above one another those further up aren't asked.
		{". 1 ex. 3", "walk www.ex. A => secure ex. 3 4"},
		{"ex. 3 . 1", "walk www.ex. A => secure ex. 3 4"},
		{". 7 ex. 3", "walk www.ex. A => secure ex. 3 4"},
		{"ex. 3 . 7", "walk www.ex. A => secure ex. 3 4"},
		{". 1 ex. 7", "walk www.ex. A => bogus"},
		{"ex. 7 . 1", "walk www.ex. A => bogus"},
		{". 1 ex. 7", "walk www.org. A => secure . 1 2"},
		{". 1 ex. 7 a.ex. 5", "walk b.a.ex. A => secure a.ex. 5"},
		{"a.ex. 5 . 1 ex. 7", "walk b.a.ex. A => secure a.ex. 5"},
		{"a.ex. 5 . 1 ex. 7", "walk b.ex. A => bogus"},
		{"ex. 7 . 1 ex. 3", "walk www.ex. A => secure ex. 3 4"},
		{". 1 www.ex. 7", "walk www.ex. A => bogus"},
		{". 1 x.www.ex. 7", "walk www.ex. A => secure ex. 3 4"},
		{". 1 org. 7", "walk www.ex. A => secure ex. 3 4"},
		// DS are those of the zone above.
		{"ex. 3", "walk ex. DS => none"},
		{"ex. 3", "walk ex. A => secure ex. 3 4"},
		{"ex. 3", "walk a.ex. DS => secure ex. 3 4"},
		{"ex. 3", "walk a.ex. DNSKEY => secure a.ex. 5"},
		{"ex. 7 . 1", "walk ex. DS => secure . 1 2"},
		{"ex. 7 . 1", "walk EX. DS => secure . 1 2"},
		{". 1 a.ex. 7", "walk a.ex. DS => secure ex. 3 4"},
		{". 1 a.ex. 7", "walk b.a.ex. DS => bogus"},
		{". 1", "walk . DS => none"},
		{". 1", "walk . A => secure . 1 2"},
		{". 1", "walk ex. DS => secure . 1 2"},
		{". 1", "walk b.a.ex. DS => secure a.ex. 5"},
	} {
		check(t, anchors(c.anchors), records, c.call)
	}
}

func TestAnchorsLetters(t *testing.T) {
	records := bag(chain()...)
	for _, zone := range []string{"eX.", "EX.", "ex."} {
		list := []api.Anchor{{Zone: n(zone), Ds: ds("ex.", 3)}}
		check(t, list, records, "walk www.ex. A => secure ex. 3 4", "walk www.Ex. A => secure Ex. 3 4", "walk EX. A => secure EX. 3 4", "walk eX. DS => none")
		twice := append(list, api.Anchor{Zone: n("Ex."), Ds: ds("ex.", 4)})
		check(t, twice, records, "walk www.ex. A => secure ex. 3 4")
		slices.Reverse(twice)
		check(t, twice, records, "walk www.ex. A => secure ex. 3 4")
	}
	// The letters of the bag don't count, and those of n are told.
	mixed := bag(". keys 1 / . 1", "eX. ds 3 / . 1", "Ex. keys 3 / ex. 3", "Sub.EX. ds 5 / EX. 3", "sUB.eX. keys 5 6 / SUB.ex. 5")
	check(t, anchors(". 1"), mixed, "walk EX. A => secure EX. 3", "walk ex. DS => secure . 1", "walk WwW.Sub.eX. A => secure Sub.eX. 5 6", "walk sub.EX. DS => secure EX. 3")
}

// TestAnchorsNoNames: they count for nothing, however much their digests fit.
func TestAnchorsNoNames(t *testing.T) {
	records := bag(chain()...)
	for _, zone := range []string{"", "ex.", "\x02ex", "\x02ex\x00\x00", "\x00\x00"} {
		bad := api.Anchor{Zone: zone, Ds: ds("ex.", 3)}
		check(t, []api.Anchor{bad}, records, "walk www.ex. A => none")
		check(t, []api.Anchor{bad, anchors(". 1")[0]}, records, "walk www.ex. A => secure ex. 3 4")
		check(t, []api.Anchor{anchors("ex. 3")[0], bad}, records, "walk www.ex. A => secure ex. 3 4")
	}
}

// TestAnchorsDigests: all bytes of a digest count.
func TestAnchorsDigests(t *testing.T) {
	records := bag(chain()...)
	right := ds("ex.", 3)
	for _, bad := range []string{"", right[:13], right + "\x00", right[1:], ds("EY.", 3), ds(".", 3), right[:3] + "\x02" + right[4:], strings.ToUpper(right) + "x"} {
		check(t, []api.Anchor{{Zone: n("ex."), Ds: bad}}, records, "walk www.ex. A => bogus", "judge www.ex. A 10.0.0.1 => bogus", "absent x.ex. A => bogus nothing")
	}
	for i := range len(right) {
		bad := []byte(right)
		bad[i] ^= 1
		check(t, []api.Anchor{{Zone: n("ex."), Ds: string(bad)}}, records, "walk www.ex. A => bogus")
	}
	// A digest counts for its own anchor's zone.
	low, high := api.Anchor{Zone: n("ex."), Ds: ds("ex.", 7)}, api.Anchor{Zone: api.Root, Ds: right}
	check(t, []api.Anchor{low, high}, records, "walk www.ex. A => bogus")
	check(t, []api.Anchor{high, low}, records, "walk www.ex. A => bogus")
	// Nothing is a digest of what is no key.
	odd := append(bag("ex. DNSKEY 257 3 8 AAAA"), bag("ex. DNSKEY 257 3 8 AAAA / ex. 3")[1])
	check(t, []api.Anchor{{Zone: n("ex."), Ds: ""}}, odd, "walk www.ex. A => bogus")
}

// TestKeysOfTheAnchor: they have to be there, and one whose digest is known has
// to have signed them.
func TestKeysOfTheAnchor(t *testing.T) {
	for _, c := range []struct{ lines, want string }{
		{". keys 1 / . 1", "secure . 1"},
		{". keys 1 2 / . 1", "secure . 1 2"},
		{". keys 2 1 / . 1", "secure . 2 1"},
		{". keys 3 2 1 / . 1 / . 2", "secure . 3 2 1"},
		{". keys 1 2 / . 2 / . 1", "secure . 1 2"},
		{"", "bogus"},
		{". keys 1", "bogus"},
		{". keys 1 2 / . 2", "bogus"},
		// Who has signed is known, but isn't one of them.
		{". keys 2 3 / . 1", "bogus"},
		{". keys 2 3 / . 1 / . 2", "bogus"},
		// A signature of fewer or others.
		{". keys 1 2|. keys 1 / . 1", "bogus"},
		{". keys 1|. keys 1 2 / . 1", "secure . 1 2"},
		{". keys 1 2 / . 1|. keys 3", "bogus"},
		// They are those of another name, or another type.
		{"ex. keys 1 / . 1", "bogus"},
		{". DS 1 253 1 aa / . 1|. keys 1", "bogus"},
		{". keys 1|. TXT a / . 1", "bogus"},
		// Keys of other ways of sealing are told along.
		{". DNSKEY 256 3 8 AAAA, 0 0 0 AAAA / . 1", "bogus"},
	} {
		run(t, strings.Split(c.lines, "|")[:min(1, len(c.lines))+strings.Count(c.lines, "|")], "walk www.org. A => "+c.want, "walk . SOA => "+c.want)
	}
	odd := []api.Record{set(". DNSKEY 256 3 8 AAAA")[0], set(". keys 1")[0], set(". DNSKEY 0 0 0 AAAA")[0]}
	odd = append(odd, signature(odd, []string{".", "1"}))
	check(t, anchors(". 1"), odd, "walk ex. A => secure . (256 3 8 AAAA) 1 (0 0 0 AAAA)")
}

// TestKeysOfAnotherZone: a signature has to be the zone's own.
func TestKeysOfAnotherZone(t *testing.T) {
	check(t, anchors("ex. 3"), bag("ex. keys 3 / . 3"), "walk ex. A => bogus")
	check(t, anchors("ex. 3"), bag("ex. keys 3 / . 3 / ex. 3"), "walk ex. A => secure ex. 3")
	// The same key, as one of the zone above.
	list := []api.Anchor{{Zone: n("ex."), Ds: ds(".", 3)}}
	check(t, list, bag("ex. keys 3 / ex. 3"), "walk ex. A => bogus")
	run(t, []string{". keys 1 / . 1", "ex. ds 3 / . 1", "ex. keys 3 / . 3 / . 1"}, "walk ex. A => bogus")
}

// TestSetsThatAreNone: what is no set isn't there.
func TestSetsThatAreNone(t *testing.T) {
	spoil := map[string]func(r *api.Record){
		"class 3":      func(r *api.Record) { r.Class = 3 },
		"class 0":      func(r *api.Record) { r.Class = 0 },
		"age -1":       func(r *api.Record) { r.TTL = -1 },
		"age 2^31":     func(r *api.Record) { r.TTL = api.MaxTTL + 1 },
		"short data":   func(r *api.Record) { r.Data = r.Data[:4] },
		"no data":      func(r *api.Record) { r.Data = "" },
		"endless data": func(r *api.Record) { r.Data = strings.Repeat("x", api.MaxData+1) },
	}
	for why, change := range spoil {
		for _, c := range []struct{ begin, spoiled, want string }{
			{". keys", ". DNSKEY", "bogus"},
			{"ex. ds", "ex. DS", "secure . 1 2"},
			{"ex. keys", "ex. DNSKEY", "bogus"},
		} {
			records := bag(chain()...)
			at := slices.IndexFunc(records, func(r api.Record) bool { return strings.HasPrefix(tell([]api.Record{r}), c.spoiled) })
			change(&records[at])
			check(t, anchors(". 1"), records, "walk www.ex. A => "+c.want)
			// Another one that is wrong spoils what is right, too.
			records = bag(chain()...)
			more := records[at]
			more.Data += "\x00"
			change(&more)
			check(t, anchors(". 1"), append(records, more), "walk www.ex. A => "+c.want)
			if t.Failed() {
				t.Fatalf("%s of %s", why, c.begin)
			}
		}
	}
	// Ages need not be the same, and have their ends.
	for _, age := range []int{0, 1, api.MaxTTL} {
		records := bag(chain()...)
		for i := range records {
			if i%2 == 0 {
				records[i].TTL = age
			}
		}
		check(t, anchors(". 1"), records, "walk www.ex. A => secure ex. 3 4")
	}
}

// TestLike: of records that are like each other the first is taken, whatever
// the others are.
func TestLike(t *testing.T) {
	for _, begin := range []string{". keys", "ex. ds", "ex. keys"} {
		records := bag(chain()...)
		line := chain()[slices.IndexFunc(chain(), func(line string) bool { return strings.HasPrefix(line, begin) })]
		again := bag(line)
		for i := range again {
			again[i].Owner = strings.ToUpper(again[i].Owner)
			again[i].TTL = 7
		}
		check(t, anchors(". 1"), append(slices.Clone(records), again...), "walk www.ex. A => secure ex. 3 4")
		check(t, anchors(". 1"), append(slices.Clone(again), records...), "walk www.ex. A => secure ex. 3 4")
		for i := range again {
			again[i].Class = 3
		}
		check(t, anchors(". 1"), append(slices.Clone(records), again...), "walk www.ex. A => secure ex. 3 4")
		want := "bogus"
		if begin == "ex. ds" {
			want = "secure . 1 2"
		}
		check(t, anchors(". 1"), append(slices.Clone(again), records...), "walk www.ex. A => "+want)
	}
	check(t, anchors(". 1"), append(bag(". keys 2 1 2 3"), bag(". keys 3 1 2 / . 1")...), "walk ex. A => secure . 2 1 3")
}

// TestKeysOrder: they are told as they stand in the bag.
func TestKeysOrder(t *testing.T) {
	run(t, []string{
		"ex. keys 6", ". keys 2", "ex. keys 3", "ex. ds 9 3", ". keys 1", "ex. keys 5 4",
		". keys 1 2 / . 1", "ex. ds 3 9 / . 2", "ex. keys 3 4 5 6 / ex. 3",
	}, "walk ex. A => secure ex. 6 3 5 4", "walk ex. DS => secure . 2 1")
}
