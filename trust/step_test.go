package trust_test

import (
	"slices"
	"strings"
	"testing"

	"gazetteer/api"
	"gazetteer/data"
	"gazetteer/seal"
)

// TestDs: where they are signed a zone begins, and its keys have to be theirs.
func TestDs(t *testing.T) {
	for _, c := range []struct{ ds, keys, want string }{
		{"ex. ds 3 / . 1", "ex. keys 3 / ex. 3", "secure ex. 3"},
		{"ex. ds 3 / . 2", "ex. keys 3 4 / ex. 3", "secure ex. 3 4"},
		{"ex. ds 3 / . 2 / . 1", "ex. keys 4 3 / ex. 3 / ex. 4", "secure ex. 4 3"},
		{"ex. ds 9 3 8 / . 2", "ex. keys 4 3 / ex. 3", "secure ex. 4 3"},
		{"ex. ds 3 4 / . 2", "ex. keys 4 3 / ex. 4", "secure ex. 4 3"},
		// They aren't signed, or by others, or not all of them are.
		{"ex. ds 3", "ex. keys 3 / ex. 3", "secure . 1 2"},
		{"ex. ds 3 / . 9", "ex. keys 3 / ex. 3", "secure . 1 2"},
		{"ex. ds 3 / ex. 1", "ex. keys 3 / ex. 3", "secure . 1 2"},
		{"ex. ds 3 / ex. 3", "ex. keys 3 / ex. 3", "secure . 1 2"},
		{"ex. ds 3 / . 1|ex. ds 4 / . 1", "ex. keys 3 4 / ex. 3 / ex. 4", "secure . 1 2"},
		{"ex. ds 3 / . 1 @151-200", "ex. keys 3 / ex. 3", "secure . 1 2"},
		{"ex. ds 3|ex. TXT a / . 1", "ex. keys 3 / ex. 3", "secure . 1 2"},
		{"ex. ds 3|ey. ds 3 / . 1", "ex. keys 3 / ex. 3", "secure . 1 2"},
		{"www.ex. ds 3 / . 1", "ex. keys 3 / ex. 3", "bogus"},
		// The keys are missing, or aren't theirs, or don't sign.
		{"ex. ds 3 / . 1", "ey. keys 3 / ey. 3", "bogus"},
		{"ex. ds 3 / . 1", "ex. keys 3", "bogus"},
		{"ex. ds 3 / . 1", "ex. keys 4 / ex. 4", "bogus"},
		{"ex. ds 3 / . 1", "ex. keys 3 4 / ex. 4", "bogus"},
		{"ex. ds 3 4 / . 1", "ex. keys 3 / ex. 4", "bogus"},
		{"ex. ds 3 / . 1", "ex. keys 4 / ex. 3", "bogus"},
		{"ex. ds 3 / . 1", "ex. keys 3 / . 3", "bogus"},
		{"ex. ds 3 / . 1", "ex. keys 3 / . 1", "bogus"},
		{"ex. ds 3 / . 1", "ex. keys 3 / ex. 3 @100-149", "bogus"},
		{"ex. ds 3 / . 1", "ex. keys 3|ex. keys 3 4 / ex. 3|ex. keys 5", "bogus"},
		{"ex. DS 1 253 1 aa / . 1", "ex. keys 3 / ex. 3", "bogus"},
		// The keys of the zone above are no keys of this one.
		{"ex. ds 1 / . 1", "ex. keys 3 / ex. 3", "bogus"},
		{"ex. ds 1 / . 1", "ex. keys 1 / ex. 1", "secure ex. 1"},
	} {
		lines := append([]string{". keys 1 2 / . 1"}, strings.Split(c.ds+"|"+c.keys, "|")...)
		run(t, lines, "walk www.ex. A => "+c.want, "walk ex. SOA => "+strings.ReplaceAll(c.want, "bogus", status(c.ds)), "walk ex. DS => secure . 1 2", "walk fx. A => secure . 1 2")
	}
}

// status: what is said of ex. itself where a name below it is bogus.
func status(ds string) string {
	if strings.HasPrefix(ds, "www.") {
		return "secure . 1 2"
	}
	return "bogus"
}

// TestDsDigests: all bytes of a digest count.
func TestDsDigests(t *testing.T) {
	right := ds("ex.", 3)
	for i := range len(right) + 1 {
		bad := []byte(right + "\x00")
		if i < len(right) {
			bad = bad[:len(right)]
			bad[i] ^= 1
		}
		records := []api.Record{record(n("ex."), api.DS, string(bad))}
		records = append(records, signature(records, []string{".", "1"}))
		records = append(records, bag(". keys 1 / . 1", "ex. keys 3 / ex. 3")...)
		check(t, anchors(". 1"), records, "walk ex. A => bogus")
	}
}

// TestDsOfNoKey: no digest is that of data that aren't a key's.
func TestDsOfNoKey(t *testing.T) {
	d := "\x01\x01\x03\x08\x00\x01\x01\xdd\x00\x00\x00\x03"
	tag := seal.Tag(d)
	digest := string([]byte{byte(tag >> 8), byte(tag), 253, 1}) + seal.Digest(n("ex.")+d)
	told := []api.Record{record(n("ex."), api.DS, digest)}
	told = append(told, signature(told, []string{".", "1"}))
	keys := []api.Record{record(n("ex."), api.DNSKEY, d)}
	keys = append(keys, signature(keys, []string{"ex.", "3"}))
	check(t, anchors(". 1"), append(append(bag(". keys 1 / . 1"), told...), keys...), "walk ex. A => bogus")
}

// deep: a chain of zones with names between them at which nothing stands.
func deep() []string {
	return []string{
		". keys 1 / . 1",
		"c.d.ex. ds 3 / . 1", "c.d.ex. keys 3 4 / c.d.ex. 3",
		"b.c.d.ex. ds 5 / c.d.ex. 4", "b.c.d.ex. keys 5 / b.c.d.ex. 5",
		"y.z.b.c.d.ex. ds 7 / b.c.d.ex. 5", "y.z.b.c.d.ex. keys 7 / y.z.b.c.d.ex. 7",
	}
}

func TestZonesBetween(t *testing.T) {
	run(t, deep(),
		"walk ex. A => secure . 1", "walk d.ex. A => secure . 1", "walk x.d.ex. A => secure . 1",
		"walk c.d.ex. DS => secure . 1", "walk c.d.ex. A => secure c.d.ex. 3 4", "walk a.c.d.ex. A => secure c.d.ex. 3 4",
		"walk b.c.d.ex. DS => secure c.d.ex. 3 4", "walk b.c.d.ex. A => secure b.c.d.ex. 5",
		"walk z.b.c.d.ex. A => secure b.c.d.ex. 5", "walk y.z.b.c.d.ex. DS => secure b.c.d.ex. 5",
		"walk y.z.b.c.d.ex. NS => secure y.z.b.c.d.ex. 7", "walk p.q.r.y.z.b.c.d.ex. NS => secure y.z.b.c.d.ex. 7",
	)
	// Without what leads there a zone further down isn't one.
	gap := without(deep(), "b.c.d.ex. ds")
	run(t, gap, "walk b.c.d.ex. A => secure c.d.ex. 3 4", "walk x.y.z.b.c.d.ex. A => secure c.d.ex. 3 4")
	// DS are asked by the keys of the zone that was come to last.
	over := instead(deep(), "y.z.b.c.d.ex. ds", "y.z.b.c.d.ex. ds 7 / . 1 / c.d.ex. 4")
	run(t, over, "walk x.y.z.b.c.d.ex. A => secure b.c.d.ex. 5")
	run(t, append(without(over, "b.c.d.ex."), "org. TXT a"), "walk x.y.z.b.c.d.ex. A => secure y.z.b.c.d.ex. 7")
	// What is wrong further up is not mended further down.
	run(t, instead(deep(), "c.d.ex. keys", "c.d.ex. keys 3 4 / c.d.ex. 4"), "walk x.y.z.b.c.d.ex. A => bogus", "walk c.d.ex. DS => secure . 1")
	// Below a zone that nobody signs nothing is asked any more.
	run(t, append(gap, "b.c.d.ex. NSEC c.d.ex. NS / c.d.ex. 4"), "walk x.y.z.b.c.d.ex. A => insecure", "walk b.c.d.ex. DS => secure c.d.ex. 3 4", "walk y.z.b.c.d.ex. DS => insecure")
}

// TestNoDs: which proofs say that a zone begins without them.
func TestNoDs(t *testing.T) {
	for _, types := range []struct{ types, want string }{
		{"NS", "insecure"},
		{"NS RRSIG NSEC", "insecure"},
		{"A NS CNAME DNAME TYPE65535", "insecure"},
		{"NS SOA", "secure . 1 2"},
		{"NS DS", "secure . 1 2"},
		{"NS SOA DS", "secure . 1 2"},
		{"SOA", "secure . 1 2"},
		{"DS", "secure . 1 2"},
		{"A RRSIG NSEC", "secure . 1 2"},
		{"", "secure . 1 2"},
		{"TYPE258", "secure . 1 2"}, // NS but for the block
	} {
		walk := []string{
			"walk www.ex. A => " + types.want, "walk ex. A => " + types.want, "walk ex. NS => " + types.want, "walk a.b.ex. DS => " + types.want,
			"walk ex. DS => secure . 1 2", "walk ey. A => secure . 1 2", "walk . DNSKEY => secure . 1 2",
		}
		keys := ". keys 1 2 / . 1"
		for _, line := range []string{"ex. NSEC fx. ", "EX. NSEC ex. ", "ex. NSEC . ", "ex. NSEC www.ex. ", "ex. at . "} {
			run(t, []string{keys, line + types.types + " / . 1"}, walk...)
			run(t, []string{line + types.types + " / . 2", keys}, walk...)
			run(t, []string{keys, line + types.types, line + types.types + " / . 9 / . 2"}, walk...)
		}
		// They tell nothing of names that they cover.
		for _, line := range []string{"a. NSEC fx. ", "fx. NSEC . ", "w. NSEC w. ", "ex. over . ", "www.ex. at . ", "*. NSEC fx. "} {
			run(t, []string{keys, line + types.types + " / . 1"}, "walk ex. A => secure . 1 2", "walk ey. A => secure . 1 2")
		}
	}
}

// TestNoDsSigned: a proof has to be the zone's own.
func TestNoDsSigned(t *testing.T) {
	keys := ". keys 1 2 / . 1"
	for _, line := range []string{"ex. NSEC fx. NS", "ex. at . NS"} {
		for _, sig := range []string{"", " / . 9", " / . 1 @100-149", " / . 1 @151-200"} {
			run(t, []string{keys, line + sig}, "walk www.ex. A => secure . 1 2")
		}
	}
	run(t, []string{keys, "ex. NSEC fx. NS / ex. 1"}, "walk www.ex. A => secure . 1 2")
	// Two at one name are signed each by itself.
	both := bag("ex. NSEC fx. NS", "ex. NSEC gx. NS")
	both = append(both, signature(both, []string{".", "1"}))
	check(t, anchors(". 1"), append(bag(keys), both...), "walk www.ex. A => secure . 1 2")
	run(t, []string{keys, "ex. NSEC fx. NS / . 1", "ex. NSEC gx. NS DS / . 1"}, "walk www.ex. A => insecure")
	run(t, []string{keys, "ex. NSEC gx. NS DS / . 1", "ex. NSEC fx. NS / . 1"}, "walk www.ex. A => insecure")
	// The signature of a star's fits, too.
	run(t, []string{keys, "a.ex. NSEC fx. NS / . 1 ~1"}, "walk www.a.ex. A => insecure")
	// DS that are signed go ahead of it, others don't.
	proof := "ex. NSEC fx. NS / . 1"
	run(t, chain(proof), "walk www.ex. A => secure ex. 3 4")
	run(t, instead(chain(proof), "ex. keys", "ex. keys 3 4 / ex. 4"), "walk www.ex. A => bogus")
	run(t, instead(chain(proof), "ex. ds", "ex. ds 3 / . 9"), "walk www.ex. A => insecure")
	run(t, instead(chain(proof), "ex. ds", "ex. ds 3"), "walk www.ex. A => insecure")
	// Each zone proves its own.
	lower := append(chain(), "a.ex. NSEC b.ex. NS / ex. 4")
	run(t, lower, "walk www.a.ex. A => insecure", "walk a.ex. DS => secure ex. 3 4", "walk b.ex. A => secure ex. 3 4")
	run(t, append(chain(), "a.ex. NSEC b.ex. NS / . 2"), "walk www.a.ex. A => secure ex. 3 4")
	run(t, append(chain(), "a.ex. at ex. NS / ex. 4"), "walk www.a.ex. A => insecure")
	run(t, append(chain(), "a.ex. at . NS / . 2"), "walk www.a.ex. A => secure ex. 3 4")
}

// TestNoDsMayBeUsed: as chapter 8 says, whoever has signed it.
func TestNoDsMayBeUsed(t *testing.T) {
	// Its next name isn't the zone's.
	lines := []string{"ex. keys 3 / ex. 3", "a.ex. NSEC org. NS / ex. 3"}
	check(t, anchors("ex. 3"), bag(lines...), "walk www.a.ex. A => secure ex. 3")
	check(t, anchors("ex. 3"), bag(lines[0], "a.ex. NSEC b.EX. NS / ex. 3"), "walk www.a.ex. A => insecure")
	signed := func(r api.Record) []api.Record {
		return append(bag(lines[0]), r, signature([]api.Record{r}, []string{"ex.", "3"}))
	}
	right := set("a.ex. at ex. NS")[0]
	check(t, anchors("ex. 3"), signed(right), "walk www.a.ex. A => insecure")
	change := func(at int, b string) api.Record {
		r := right
		r.Data = r.Data[:at] + b + r.Data[at+len(b):]
		return r
	}
	short := right // its next hash has nine bytes
	short.Data = right.Data[:7] + "\x09" + right.Data[9:]
	for _, bad := range []api.Record{change(0, "\x02"), change(1, "\x01"), change(2, "\x00\x33"), change(2, "\x01"), change(3, "\x04"), change(5, "x"), short} {
		check(t, anchors("ex. 3"), signed(bad), "walk www.a.ex. A => secure ex. 3")
	}
	// Fifty rounds are the most.
	for _, rounds := range []int{0, 50} {
		own, _ := seal.Hash(n("a.ex."), salt, rounds)
		r := change(3, string([]byte{byte(rounds)}))
		r.Owner = "\x10" + data.To32(own) + n("ex.")
		check(t, anchors("ex. 3"), signed(r), "walk www.a.ex. A => insecure")
		r.Owner = "\x10" + strings.ToUpper(data.To32(own)) + n("EX.")
		check(t, anchors("ex. 3"), signed(r), "walk www.a.ex. A => insecure")
		r.Owner = "\x10" + data.To32(own) + n("b.ex.")
		check(t, anchors("ex. 3"), signed(r), "walk www.a.ex. A => secure ex. 3")
	}
	// What is wrong in the bag counts for nothing, though a signature of what is
	// right is there.
	for i := range 2 {
		for _, change := range []func(*api.Record){func(r *api.Record) { r.Class = 3 }, func(r *api.Record) { r.TTL = -1 }} {
			for _, line := range []string{"a.ex. NSEC b.ex. NS / ex. 3", "a.ex. at ex. NS / ex. 3"} {
				records := bag(lines[0], line)
				change(&records[2+i])
				check(t, anchors("ex. 3"), records, "walk www.a.ex. A => secure ex. 3")
				check(t, anchors("ex. 3"), append(records, bag(line)...), "walk www.a.ex. A => insecure")
				slices.Reverse(records)
				check(t, anchors("ex. 3"), records, "walk www.a.ex. A => secure ex. 3")
			}
		}
	}
}
