package world_test

import (
	"strings"
	"testing"

	"gazetteer/world"
)

// chain gives a world of signed zones, one below the other, of several servers:
// the root, ex. and b.ex., with DS; u.ex. without. All count from 5 to 100.
func chain() *world.World {
	w := told("server a", "server b", "server c",
		loading("b", "ex.", 1, "www A 10.0.0.2", "*.w TXT a", "alias CNAME www", "b NS ns.b", "u NS ns.u"), loading("c", "b.ex.", 1, "x A 10.0.0.3"), loading("c", "u.ex.", 1, "x A 10.0.0.4"),
		loading("a", ".", 1, "ex NS ns.ex"), loading("b", "out.", 1, "x A 10.0.0.5"))
	below := tell(w, "sign c b.ex. 257 263 3 5 100")[0]
	tell(w, "change b ex. + b.ex. 60 DS "+below, "sign c u.ex. 257 263 3 5 100")
	ex := tell(w, "sign b ex. 251 263 3 5 100")[0]
	tell(w, "change a . + ex. 60 DS "+ex, "sign a . 269 271 7 5 100")
	return w
}

// TestJudge: what a star says of another name isn't signed with that name in
// any zone.
func TestJudge(t *testing.T) {
	w := chain()
	play(t, w, `
> judge b www.ex. A
trust 0
ok
> anchor a .
1
ok
> judge b www.ex. A
trust 3
ok
> time 4
ok
> judge b www.ex. A
trust 3
ok
> time 5
ok
> judge b www.ex. A
trust 1
ok
> judge b WWW.Ex A
trust 1
ok
> judge a . NS
trust 1
ok
> judge b ex. SOA
trust 1
ok
> judge b ex. DNSKEY
trust 1
ok
> judge a ex. DS
trust 1
ok
> judge b b.ex. DS
trust 1
ok
> judge c x.b.ex. A
trust 1
ok
> judge c x.u.ex. A
trust 2
ok
> judge b q.w.ex. TXT
trust 3
ok
> judge b *.w.ex. TXT
trust 1
ok
> judge b alias.ex. CNAME
trust 1
ok
> judge b x.out. A
trust 3
ok
> judge b www.ex. ANY
trust 3
ok
> judge b www.ex. RRSIG
trust 3
ok
> judge b www.ex. NSEC
trust 1
ok
> time 100
ok
> judge c x.b.ex. A
trust 1
ok
> time 101
ok
> judge c x.b.ex. A
trust 3
ok
> judge c x.u.ex. A
trust 3
ok`)
}

// TestJudgeNone: what is no answer isn't judged, whoever else has it.
func TestJudgeNone(t *testing.T) {
	w := chain()
	tell(w, "anchor a .", "time 50")
	for _, line := range []string{
		"judge a www.ex. A",  // a referral
		"judge b b.ex. NS",   // likewise
		"judge b x.b.ex. A",  // likewise
		"judge b www.ex. MX", // no such data
		"judge b x.ex. A",    // no such name
		"judge b w.ex. TXT",  // nothing stands there
		"judge b alias.ex. A",
		"judge b ex. DS", // the zone above is a's
		"judge b org. A", // no zone has it
		"judge c www.ex. A",
		"judge b . SOA",
		"judge d www.ex. A",
		"judge b www.ex. AXFR",
	} {
		checkDo(t, w, line, "error 28")
	}
	checkDo(t, told("server a"), "judge a ex. A", "error 28")
	// Of a server that has the zone above, too, that one tells the DS.
	tell(w, "copy a b .")
	checkDo(t, w, "judge b ex. DS", "trust 1", "ok")
}

// TestJudgeAll: the bag are the zones of all servers, the anchors are all that
// were told.
func TestJudgeAll(t *testing.T) {
	w := told("server a", loading("a", "ex.", 1, "b NS ns.b"))
	tell(w, "server b", loading("b", "b.ex.", 1, "x A 10.0.0.3"), "sign b b.ex. 257 263 3 0 100")
	checkDo(t, w, "anchor b b.ex.", "1", "ok")
	checkDo(t, w, "judge b x.b.ex. A", "trust 1", "ok")
	checkDo(t, w, "judge a ns.ex. A", "trust 0", "ok")
	tell(w, "sign a ex. 251 263 3 0 100")
	checkDo(t, w, "judge a ns.ex. A", "trust 0", "ok")
	checkDo(t, w, "anchor a ex.", "1", "ok")
	checkDo(t, w, "judge a ns.ex. A", "trust 1", "ok")
	checkDo(t, w, "judge b x.b.ex. A", "trust 1", "ok") // by the nearer anchor
	// A zone of one server proves what another's says: who copied it, and lost
	// its signatures, is believed all the same.
	tell(w, "server c", "load c ex. $TTL 60|@ SOA ns h 1 2 3 4 5|@ NS ns|ns A 10.0.0.1")
	checkDo(t, w, "judge c ns.ex. A", "trust 1", "ok")
	tell(w, "change c ex. + ns.ex. 60 A 10.0.0.2")
	checkDo(t, w, "judge c ns.ex. A", "trust 3", "ok")
	checkDo(t, w, "judge a ns.ex. A", "trust 1", "ok")
	// Only the newest zones count.
	tell(w, "change a ex. = ns.ex. 0 RRSIG -")
	checkDo(t, w, "judge a ns.ex. A", "trust 3", "ok")
	tell(w, "sign a ex. 251 263 3 0 100")
	checkDo(t, w, "judge a ns.ex. A", "trust 1", "ok")
	// Keys that come later aren't anchors by themselves.
	tell(w, "sign a ex. 257 269 3 0 100")
	checkDo(t, w, "judge a ns.ex. A", "trust 3", "ok")
	checkDo(t, w, "anchor a ex.", "1", "ok")
	checkDo(t, w, "judge a ns.ex. A", "trust 1", "ok")
	tell(w, "sign a ex. 251 263 3 0 100") // the first anchor is one still
	checkDo(t, w, "judge a ns.ex. A", "trust 1", "ok")
}

// TestAnchors: each DNSKEY of flags 257 that has a Ds is one.
func TestAnchors(t *testing.T) {
	key := " DNSKEY 257 3 253 "
	for _, c := range []struct{ lines, want string }{
		{"", "0"},
		{"@" + key + "AAEB3QAAAAM=", "1"},
		{"@" + key + "AAEB3QAAAAM=|@" + key + "AAEIBwAAAAM=", "2"},
		{"@" + key + "AAEB3QAAAAM=|@" + key + "AAEIBwAAAAM=|@" + key + "AAEcywAAAAc=", "3"},
		{"@ DNSKEY 256 3 253 AAEB3QAAAAM=", "0"},
		{"@ DNSKEY 256 3 253 AAEB3QAAAAM=|@" + key + "AAEB3QAAAAM=", "1"},
		{"@ DNSKEY 258 3 253 AAEB3QAAAAM=", "0"},
		{"@ DNSKEY 1 3 253 AAEB3QAAAAM=", "0"},
		// Data that aren't a key's have no Ds.
		{"@ DNSKEY 257 3 252 AAEB3QAAAAM=", "0"},
		{"@ DNSKEY 257 2 253 AAEB3QAAAAM=", "0"},
		{"@" + key + "AA==", "0"},
		{"@" + key + "AAAAAAAAAAM=|@" + key + "AAEB3QAAAAM=", "1"},
		{"@ DS 257 253 1 0101", "0"},
		// Wherever it stands in the zone, it is a key of the zone's apex.
		{"x" + key + "AAEB3QAAAAM=", "1"},
		{"x" + key + "AAEB3QAAAAM=|@" + key + "AAEB3QAAAAM=", "2"},
	} {
		w := told("server a", loading("a", "ex.", 1, strings.Split(c.lines, "|")...))
		checkDo(t, w, "anchor a ex.", c.want, "ok")
		checkDo(t, w, "anchor a EX", c.want, "ok") // told again, counted again
		want := "trust 3"
		if c.want == "0" {
			want = "trust 0"
		}
		checkDo(t, w, "judge a ns.ex. A", want, "ok")
		checkDo(t, w, "anchor a org.", "error 28")
		checkDo(t, w, "anchor b ex.", "error 28")
	}
}

// TestAnchorSeveral: one of several keys of flags 257 is enough.
func TestAnchorSeveral(t *testing.T) {
	w := told("server a", "server b", loading("a", "ex.", 1), "sign a ex. 251 263 3 0 100", "copy a b ex.", "change b ex. + ex. 60 DNSKEY 257 3 253 AAEIBwAAAAM=")
	checkDo(t, w, "anchor b ex.", "2", "ok")
	checkDo(t, w, "judge a ns.ex. A", "trust 3", "ok") // the bag has a key that wasn't signed
	tell(w, "change b ex. = ex. 0 DNSKEY -")
	checkDo(t, w, "judge a ns.ex. A", "trust 1", "ok")
	tell(w, "sign a ex. 257 263 3 0 100") // with the other key
	checkDo(t, w, "judge a ns.ex. A", "trust 1", "ok")
	tell(w, "sign a ex. 257 269 3 0 100")
	checkDo(t, w, "judge a ns.ex. A", "trust 3", "ok")
}
