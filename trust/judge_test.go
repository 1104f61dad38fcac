package trust_test

import (
	"slices"
	"strings"
	"testing"

	"gazetteer/api"
	"gazetteer/trust"
)

// TestJudgeNoSet: what is none is bogus, whoever is trusted.
func TestJudgeNoSet(t *testing.T) {
	records := bag(chain("ex. A 10.0.0.2,10.0.0.3 / ex. 3")...)
	one, two := set("www.ex. A 10.0.0.1"), set("ex. A 10.0.0.2,10.0.0.3")
	with := func(list []api.Record, change func(r *api.Record)) []api.Record {
		list = slices.Clone(list)
		change(&list[len(list)-1])
		return list
	}
	for _, bad := range [][]api.Record{
		nil,
		{},
		with(one, func(r *api.Record) { r.Owner = "www.ex." }),
		with(one, func(r *api.Record) { r.Owner = "" }),
		with(one, func(r *api.Record) { r.Class = 3 }),
		with(one, func(r *api.Record) { r.TTL = -1 }),
		with(one, func(r *api.Record) { r.TTL = api.MaxTTL + 1 }),
		with(one, func(r *api.Record) { r.Data += "x" }),
		with(one, func(r *api.Record) { r.Type = 0 }),
		with(one, func(r *api.Record) { r.Type = 65536 + 1 }),
		with(one, func(r *api.Record) { r.Type = api.OPT }),
		with(two, func(r *api.Record) { r.Owner = n("www.ex.") }),
		with(two, func(r *api.Record) { r.Type = 731 }),
		with(two, func(r *api.Record) { r.Data = two[0].Data }),
		with(two, func(r *api.Record) { r.Data, r.TTL, r.Owner = two[0].Data, 7, n("EX.") }),
		append(slices.Clone(one), two...),
		records[2:3], // an RRSIG
		records,
	} {
		for _, list := range []string{". 1", "", "org. 1"} {
			if got := trust.Judge(anchors(list), records, bad, 150); got != api.TrustBogus {
				t.Errorf("P13.2 Judge(%s) of no set, %s = %d", list, tell(bad), got)
			}
		}
	}
	check(t, anchors(". 1"), records, "judge ex. A 10.0.0.2,10.0.0.3 => secure", "judge EX. A 10.0.0.3,10.0.0.2 => secure", "judge ex. A 10.0.0.3 => bogus")
	// It need not be in the bag; its ages don't count.
	ages := set("WWW.ex. A 10.0.0.1")
	ages[0].TTL = api.MaxTTL
	left := slices.DeleteFunc(slices.Clone(records), func(r api.Record) bool { return r.Type == api.A })
	if got := trust.Judge(anchors(". 1"), left, ages, 150); got != api.TrustSecure {
		t.Errorf("P13.2 Judge of a set that isn't in the bag = %d", got)
	}
}

// TestJudgeBad: the time is Walk's, and so is all that isn't secure.
func TestJudgeBad(t *testing.T) {
	records := bag(always()...)
	records = append(records, bag("ex. A 10.0.0.1 / ex. 3 @0-4294967295", "a.ex. NSEC b.ex. NS / ex. 3", "c.ex. ds 5 / ex. 3")...)
	check(t, anchors(". 1"), records,
		"-1: judge ex. A 10.0.0.1 => bogus", "4294967296: judge ex. A 10.0.0.1 => bogus",
		"0: judge ex. A 10.0.0.1 => secure", "4294967295: judge ex. A 10.0.0.1 => secure",
		"judge a.ex. A 10.0.0.1 => insecure", "judge b.a.ex. DS 1 253 1 aa => insecure", "judge a.ex. NSEC b.ex. NS => insecure",
		"judge c.ex. A 10.0.0.1 => bogus", "judge c.ex. ds 5 => secure", "judge c.ex. ds 6 => bogus",
		"judge ex. ds 3 => secure", "judge ex. keys 3 => secure", "judge . keys 1 => secure", "judge . ds 1 => none")
	check(t, anchors("ex. 3"), records, "judge ex. A 10.0.0.1 => secure", "judge ex. ds 3 => none", "judge . keys 1 => none", "judge org. A 10.0.0.1 => none", "4294967296: judge org. A 10.0.0.1 => bogus")
}

// TestJudgeSigned: by one of the keys of the zone that Walk tells.
func TestJudgeSigned(t *testing.T) {
	base := without(chain(), "www.ex. A")
	for _, c := range []struct{ line, want string }{
		{"www.ex. A 10.0.0.1 / ex. 3", "secure"},
		{"www.ex. A 10.0.0.1 / ex. 4", "secure"},
		{"www.ex. A 10.0.0.1 / ex. 9 / ex. 4", "secure"},
		{"WWW.EX. A 10.0.0.1 / EX. 4", "secure"},
		{"www.ex. A 10.0.0.1", "bogus"},
		{"www.ex. A 10.0.0.1 / ex. 9", "bogus"},
		{"www.ex. A 10.0.0.1 / . 1", "bogus"},
		{"www.ex. A 10.0.0.1 / . 3", "bogus"},
		{"www.ex. A 10.0.0.1 / ex. 1", "bogus"},
		{"www.ex. A 10.0.0.1 / www.ex. 4", "bogus"},
		{"www.ex. A 10.0.0.1 / ex. 4 @151-200", "bogus"},
		{"www.ex. A 10.0.0.1 / ex. 4 @100-149", "bogus"},
		{"www.ex. A 10.0.0.1 / ex. 4 @150-150", "secure"},
		{"www.ex. A 10.0.0.1 / ex. 4 @150-150 / ex. 4 @100-149", "secure"},
		{"www.ex. A 10.0.0.2 / ex. 4", "bogus"},
		{"www.ex. A 10.0.0.1,10.0.0.2 / ex. 4", "bogus"},
		{"ww.ex. A 10.0.0.1 / ex. 4", "bogus"},
		{"www.ex. TXT a / ex. 4", "bogus"},
	} {
		run(t, append(base, c.line), "judge www.ex. A 10.0.0.1 => "+c.want)
		slices.Reverse(base)
		run(t, append([]string{c.line}, base...), "judge www.ex. A 10.0.0.1 => "+c.want)
		slices.Reverse(base)
	}
	// A signature that is wrong as a record is none.
	for _, change := range []func(*api.Record){
		func(r *api.Record) { r.Class = 3 },
		func(r *api.Record) { r.TTL = -1 },
		func(r *api.Record) { r.Data = r.Data[:1] },
		func(r *api.Record) { r.Data = "" },
		func(r *api.Record) { r.Data = r.Data[:len(r.Data)-4] },
		func(r *api.Record) { r.Owner = "www.ex." },
		func(r *api.Record) { r.Owner = n("ex.") },
		func(r *api.Record) { r.Type = 731 },
	} {
		records := bag(chain()...)
		change(&records[len(records)-1])
		check(t, anchors(". 1"), records, "judge www.ex. A 10.0.0.1 => bogus")
	}
}

// TestJudgeStars: a star's set stands for a name if the name next to the
// labels that are told isn't there.
func TestJudgeStars(t *testing.T) {
	for _, c := range []struct{ lines, set, want string }{
		// A star's own set is as others are.
		{"*.w.ex. TXT a / ex. 4", "*.w.ex. TXT a", "secure"},
		{"*.W.ex. TXT a / ex. 4", "*.w.EX. TXT a", "secure"},
		{"*.w.ex. TXT a / ex. 4", "a.w.ex. TXT a", "bogus"},
		{"*. TXT a / . 1", "*. TXT a", "secure"},
		{"*.*.ex. TXT a / ex. 4", "*.*.ex. TXT a", "secure"},
		{"a.*.ex. TXT a / ex. 4", "a.*.ex. TXT a", "secure"},
		// With fewer labels it hangs on a proof.
		{"a.w.ex. TXT a / ex. 4 ~2", "a.w.ex. TXT a", "bogus"},
		{"a.w.ex. TXT a / ex. 4 ~2|*.w.ex. NSEC b.w.ex. TXT / ex. 4", "a.w.ex. TXT a", "secure"},
		{"a.w.ex. TXT a / ex. 4 ~2|w.ex. NSEC b.w.ex. TXT / ex. 4", "a.w.ex. TXT a", "secure"},
		{"a.w.ex. TXT a / ex. 4 ~2|ex. NSEC ex. TXT / ex. 4", "A.W.ex. TXT a", "secure"},
		{"a.w.ex. TXT a / ex. 4 ~2|*.w.ex. NSEC b.w.ex. TXT", "a.w.ex. TXT a", "bogus"},
		{"a.w.ex. TXT a / ex. 4 ~2|*.w.ex. NSEC b.w.ex. TXT / ex. 9", "a.w.ex. TXT a", "bogus"},
		{"a.w.ex. TXT a / ex. 4 ~2|*.w.ex. NSEC b.w.ex. TXT / . 1", "a.w.ex. TXT a", "bogus"},
		{"a.w.ex. TXT a / ex. 4 ~2|*.w.ex. NSEC b.w.ex. TXT / ex. 3 @100-149", "a.w.ex. TXT a", "bogus"},
		{"a.w.ex. TXT a / ex. 4 ~2|*.w.ex. NSEC org. TXT / ex. 4", "a.w.ex. TXT a", "bogus"},
		{"a.w.ex. TXT a / ex. 4 ~2|a.w.ex. NSEC b.w.ex. TXT / ex. 4", "a.w.ex. TXT a", "bogus"},
		{"a.w.ex. TXT a / ex. 4 ~2|b.w.ex. NSEC c.w.ex. TXT / ex. 4", "a.w.ex. TXT a", "bogus"},
		{"a.w.ex. TXT a / ex. 4 ~2|*.w.ex. NSEC a.w.ex. TXT / ex. 4", "a.w.ex. TXT a", "bogus"},
		{"a.w.ex. TXT a / ex. 4 ~2|*.w.ex. NSEC b.a.w.ex. TXT / ex. 4", "a.w.ex. TXT a", "bogus"},
		{"a.w.ex. TXT a / ex. 4 ~2|w.ex. NSEC b.w.ex. NS / ex. 4", "a.w.ex. TXT a", "insecure"},
		{"a.w.ex. TXT a / ex. 4 ~2|w.ex. NSEC b.w.ex. DNAME / ex. 4", "a.w.ex. TXT a", "bogus"},
		// It is the name next to the labels that has to be missing.
		{"c.b.a.w.ex. TXT a / ex. 4 ~2|*.w.ex. NSEC b.w.ex. TXT / ex. 4", "c.b.a.w.ex. TXT a", "secure"},
		{"c.b.a.w.ex. TXT a / ex. 4 ~2|a.w.ex. NSEC b.w.ex. TXT / ex. 4", "c.b.a.w.ex. TXT a", "bogus"},
		{"c.b.a.w.ex. TXT a / ex. 4 ~3|a.w.ex. NSEC b.w.ex. TXT / ex. 4", "c.b.a.w.ex. TXT a", "secure"},
		{"c.b.a.w.ex. TXT a / ex. 4 ~4|a.w.ex. NSEC b.w.ex. TXT / ex. 4", "c.b.a.w.ex. TXT a", "secure"},
		{"c.b.a.w.ex. TXT a / ex. 4 ~4|b.a.w.ex. NSEC b.w.ex. TXT / ex. 4", "c.b.a.w.ex. TXT a", "secure"},
		{"c.b.a.w.ex. TXT a / ex. 4 ~3|b.a.w.ex. NSEC b.w.ex. TXT / ex. 4", "c.b.a.w.ex. TXT a", "bogus"},
		{"c.b.a.w.ex. TXT a / ex. 4 ~1|ex. NSEC x.ex. TXT / ex. 4", "c.b.a.w.ex. TXT a", "secure"},
		{"c.b.a.w.ex. TXT a / ex. 4 ~1|w.ex. NSEC x.ex. TXT / ex. 4", "c.b.a.w.ex. TXT a", "bogus"},
		// One signature that holds is enough.
		{"a.w.ex. TXT a / ex. 4 ~2 / ex. 3", "a.w.ex. TXT a", "secure"},
		{"a.w.ex. TXT a / ex. 3 / ex. 4 ~2", "a.w.ex. TXT a", "secure"},
		{"a.w.ex. TXT a / ex. 4 ~1 / ex. 4 ~2|*.w.ex. NSEC b.w.ex. TXT / ex. 4", "a.w.ex. TXT a", "secure"},
		{"a.w.ex. TXT a / ex. 4 ~2 / ex. 4 ~1|*.w.ex. NSEC b.w.ex. TXT / ex. 4", "a.w.ex. TXT a", "secure"},
		{"a.w.ex. TXT a / ex. 4 ~1|*.w.ex. NSEC b.w.ex. TXT / ex. 4", "a.w.ex. TXT a", "bogus"},
		// A star that another stands for has a label in front that counts.
		{"*.a.w.ex. TXT a / ex. 4 ~2", "*.a.w.ex. TXT a", "bogus"},
		{"*.a.w.ex. TXT a / ex. 4 ~2|*.w.ex. NSEC b.w.ex. TXT / ex. 4", "*.a.w.ex. TXT a", "secure"},
		{"*.a.w.ex. TXT a / ex. 4 ~2|a.w.ex. NSEC b.w.ex. TXT / ex. 4", "*.a.w.ex. TXT a", "bogus"},
		// By hashes.
		{"c.a.w.ex. TXT a / ex. 4 ~2|a.w.ex. over ex. TXT / ex. 4", "c.a.w.ex. TXT a", "secure"},
		{"c.a.w.ex. TXT a / ex. 4 ~2|c.a.w.ex. over ex. TXT / ex. 4", "c.a.w.ex. TXT a", "bogus"},
		{"c.a.w.ex. TXT a / ex. 4 ~2|a.w.ex. at ex. TXT / ex. 4", "c.a.w.ex. TXT a", "bogus"},
		{"c.a.w.ex. TXT a / ex. 4 ~2|a.w.ex. over ex. TXT", "c.a.w.ex. TXT a", "bogus"},
		{"c.a.w.ex. TXT a / ex. 4 ~2|a.w.ex. over ex. TXT / ex. 9", "c.a.w.ex. TXT a", "bogus"},
		{"c.a.w.ex. TXT a / ex. 4 ~2|a.w.ex. over w.ex. TXT / ex. 4", "c.a.w.ex. TXT a", "bogus"},
		// An NSEC that is proved puts them aside, one that isn't doesn't.
		{"c.a.w.ex. TXT a / ex. 4 ~2|a.w.ex. over ex. TXT / ex. 4|x.ex. NSEC y.ex. TXT / ex. 4", "c.a.w.ex. TXT a", "bogus"},
		{"c.a.w.ex. TXT a / ex. 4 ~2|a.w.ex. over ex. TXT / ex. 4|x.ex. NSEC y.ex. TXT", "c.a.w.ex. TXT a", "secure"},
		{"c.a.w.ex. TXT a / ex. 4 ~2|a.w.ex. over ex. TXT / ex. 4|x.ex. NSEC y. TXT / ex. 4", "c.a.w.ex. TXT a", "secure"},
		// The root's star.
		{"a.b.org. TXT a / . 1 ~0|. NSEC z. TXT / . 2", "a.b.org. TXT a", "secure"},
		{"a.b.org. TXT a / . 1 ~0|org. NSEC z. TXT / . 2", "a.b.org. TXT a", "bogus"},
		{"*. TXT a / . 1 ~0", "*. TXT a", "secure"},
	} {
		lines := append(chain(), strings.Split(c.lines, "|")...)
		run(t, lines, "judge "+c.set+" => "+c.want)
		slices.Reverse(lines)
		run(t, lines, "judge "+c.set+" => "+c.want)
	}
}

// TestAbsent: what the proofs of the zone that Walk tells say.
func TestAbsent(t *testing.T) {
	for _, c := range []struct{ lines, question, want string }{
		{"", "x.ex. A", "bogus nothing"},
		{"ex. NSEC ex. NS SOA / ex. 4", "x.ex. A", "secure no name"},
		{"ex. NSEC ex. NS SOA / ex. 3", "X.eX. A", "secure no name"},
		{"ex. NSEC ex. NS SOA / ex. 4", "ex. A", "secure no data"},
		{"ex. NSEC ex. NS SOA / ex. 4", "ex. NS", "bogus nothing"},
		{"ex. NSEC ex. NS SOA / ex. 4", "ex. DS", "bogus nothing"}, // that is the root's
		{"ex. NSEC ex. NS SOA / ex. 4", "x.ex. DS", "secure no name"},
		{"ex. NSEC ex. NS SOA / ex. 4", "x.ex. ANY", "secure no name"},
		{"ex. NSEC ex. NS SOA", "x.ex. A", "bogus nothing"},
		{"ex. NSEC ex. NS SOA / ex. 9", "x.ex. A", "bogus nothing"},
		{"ex. NSEC ex. NS SOA / . 1", "x.ex. A", "bogus nothing"},
		{"ex. NSEC ex. NS SOA / ex. 4 @100-149", "x.ex. A", "bogus nothing"},
		{"ex. NSEC org. NS SOA / ex. 4", "x.ex. A", "bogus nothing"},
		{"a.ex. NSEC c.ex. A / ex. 4", "a.ex. TXT", "secure no data"},
		{"a.ex. NSEC c.ex. A / ex. 4", "a.ex. A", "bogus nothing"},
		{"a.ex. NSEC c.ex. A / ex. 4", "b.ex. A", "bogus nothing"},
		{"a.ex. NSEC c.ex. A / ex. 4|ex. NSEC a.ex. SOA / ex. 4", "b.ex. A", "secure no name"},
		{"a.ex. NSEC c.ex. A / ex. 4|ex. NSEC a.ex. SOA", "b.ex. A", "bogus nothing"},
		{"a.ex. NSEC c.b.ex. A / ex. 4", "b.ex. A", "secure no data"},
		{"*.w.ex. NSEC z.ex. TXT / ex. 4", "a.w.ex. A", "secure no data"},
		{"*.w.ex. NSEC z.ex. TXT / ex. 4", "a.w.ex. TXT", "bogus nothing"},
		// The first that denies it tells, in the order of the bag.
		{"ex. NSEC z.ex. A / ex. 4|a.ex. NSEC c.b.ex. A / ex. 4", "b.ex. A", "secure no name"},
		{"a.ex. NSEC c.b.ex. A / ex. 4|ex. NSEC z.ex. A / ex. 4", "b.ex. A", "secure no data"},
		{"a.ex. NSEC c.b.ex. A|ex. NSEC z.ex. A / ex. 4|a.ex. NSEC c.b.ex. A / ex. 4", "b.ex. A", "secure no data"},
		// The proofs of a zone above and of another say nothing of it.
		{". NSEC . NS SOA / . 1", "x.ex. A", "bogus nothing"},
		{". NSEC . NS SOA / . 1", "x.org. A", "secure no name"},
		{". NSEC . NS SOA / . 1", "ex. DS", "secure no name"},
		{"ex. NSEC fx. NS / . 1", "ex. DS", "secure no data"},
		{"ex. NSEC fx. NS DS / . 1", "ex. DS", "bogus nothing"},
		{"ex. NSEC fx. NS / . 1", "x.ex. A", "bogus nothing"},
		{"fx. NSEC gx. NS / . 1", "x.fx. A", "insecure nothing"},
		{"fx. NSEC gx. NS / . 1", "fx. A", "insecure nothing"},
		{"fx. NSEC gx. NS / . 1", "fx. DS", "secure no data"},
		{"fx. ds 5 / . 1|. NSEC . NS / . 1", "x.fx. A", "bogus nothing"},
		// By hashes.
		{"ex. at ex. SOA / ex. 4|x.ex. over ex. A / ex. 4|*.ex. over ex. A / ex. 4", "x.ex. A", "secure no name"},
		{"ex. at ex. SOA / ex. 4|x.ex. over ex. A / ex. 4|*.ex. at ex. TXT / ex. 4", "x.ex. A", "secure no data"},
		{"ex. at ex. SOA / ex. 4|x.ex. over ex. A / ex. 4|*.ex. at ex. TXT / ex. 4", "x.ex. TXT", "bogus nothing"},
		{"ex. at ex. SOA / ex. 4|x.ex. over ex. A|*.ex. over ex. A / ex. 4", "x.ex. A", "bogus nothing"},
		{"x.ex. at ex. A / ex. 4", "x.ex. MX", "secure no data"},
		{"x.ex. at ex. A / ex. 9", "x.ex. MX", "bogus nothing"},
		{"x.ex. at ex. A / ex. 4|y.ex. NSEC z.ex. A / ex. 4", "x.ex. MX", "bogus nothing"},
		{"x.ex. at ex. A / ex. 4|y.ex. NSEC z.ex. A", "x.ex. MX", "secure no data"},
		{"x.ex. at ex. A / ex. 4|x.ex. at ex. MX / ex. 4", "x.ex. MX", "secure no data"},
		{"x.ex. at ex. MX / ex. 4|x.ex. at ex. A / ex. 4", "x.ex. MX", "bogus nothing"},
	} {
		lines := chain()
		if c.lines != "" {
			lines = append(lines, strings.Split(c.lines, "|")...)
		}
		run(t, lines, "absent "+c.question+" => "+c.want)
		run(t, append(lines[4:], lines[:4]...), "absent "+c.question+" => "+c.want)
	}
	check(t, nil, bag(chain()...), "absent x.ex. A => none nothing")
	check(t, anchors("ex. 3"), bag(chain("ex. NSEC ex. NS SOA / ex. 4")...), "absent x.ex. A => secure no name", "absent ex. DS => none nothing", "absent org. A => none nothing", "201: absent x.ex. A => bogus nothing")
}
