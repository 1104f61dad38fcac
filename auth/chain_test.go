package auth_test

import (
	"strconv"
	"strings"
	"testing"

	"gazetteer/api"
	"gazetteer/name"
	"gazetteer/zone"
)

// links gives a zone in which a0 leads to a1, and so on up to the last, at
// which an A stands.
func links(last int) *zone.Zone {
	var lines []string
	for i := range last {
		lines = append(lines, "a"+strconv.Itoa(i)+" CNAME a"+strconv.Itoa(i+1))
	}
	return plain("ex.", append(lines, "a"+strconv.Itoa(last)+" A 10.0.0.1")...)
}

// TestChainBound: eight names are looked for behind the first.
func TestChainBound(t *testing.T) {
	for last := range 20 {
		want := []string{"rcode 0 aa"}
		for i := range min(last, 9) {
			want = append(want, "an a"+strconv.Itoa(i)+".ex. 60 CNAME a"+strconv.Itoa(i+1)+".ex.")
		}
		if last <= 8 {
			want = append(want, "an a"+strconv.Itoa(last)+".ex. 60 A 10.0.0.1")
		}
		check(t, []*zone.Zone{links(last)}, false, row{"a0.ex.", "A", strings.Join(want, "; ")})
	}
	// What would be denied, if it were looked for.
	check(t, []*zone.Zone{links(8)}, false, row{"a0.ex.", "TXT", strings.Join(tell(said(t, []*zone.Zone{links(8)}, ask("a0.ex.", "A")))[:9], "; ") + "; au ex. 5 SOA"})
	if a := said(t, []*zone.Zone{links(9)}, ask("a0.ex.", "TXT")); len(a.Answers) != 9 || len(a.Authority) != 0 {
		t.Errorf("P9.1: the ninth name behind the first is looked for: %q", tell(a))
	}
}

// TestGraftBound: made aliases count as others.
func TestGraftBound(t *testing.T) {
	for last := range 12 {
		var lines []string
		want := []string{"rcode 0 aa"}
		for i := range last {
			a, b := "a"+strconv.Itoa(i), "a"+strconv.Itoa(i+1)
			lines = append(lines, a+" DNAME "+b)
			if i < 9 {
				want = append(want, "an "+a+".ex. 60 DNAME "+b+".ex.", "an x."+a+".ex. 60 CNAME x."+b+".ex.")
			}
		}
		end := "a" + strconv.Itoa(last)
		if last <= 8 {
			want = append(want, "an x."+end+".ex. 60 A 10.0.0.1")
		}
		zones := []*zone.Zone{plain("ex.", append(lines, "x."+end+" A 10.0.0.1")...)}
		check(t, zones, false, row{"x.a0.ex.", "A", strings.Join(want, "; ")})
	}
}

func TestLoops(t *testing.T) {
	zones := []*zone.Zone{plain("ex.", "self CNAME SELF", "a CNAME B", "B CNAME c", "c CNAME A", "down DNAME x.down", "same DNAME same", "x.w CNAME y.w", "*.w CNAME X.w", "up 77 DNAME ex.")}
	check(t, zones, false,
		row{"self.ex.", "A", "rcode 0 aa; an self.ex. 60 CNAME SELF.ex."},
		row{"a.ex.", "A", "rcode 0 aa; an a.ex. 60 CNAME B.ex.; an B.ex. 60 CNAME c.ex.; an c.ex. 60 CNAME A.ex."},
		row{"C.ex.", "A", "rcode 0 aa; an c.ex. 60 CNAME A.ex.; an a.ex. 60 CNAME B.ex.; an B.ex. 60 CNAME c.ex."},
		row{"q.w.ex.", "A", "rcode 0 aa; an q.w.ex. 60 CNAME X.w.ex.; an x.w.ex. 60 CNAME y.w.ex.; an y.w.ex. 60 CNAME X.w.ex."},
		// It leads to the name itself.
		row{"y.same.ex.", "A", "rcode 0 aa; an same.ex. 60 DNAME same.ex.; an y.same.ex. 60 CNAME y.same.ex."},
		// The DNAME is told once, each alias that it makes with its age.
		row{"y.up.ex.", "A", "rcode 3 aa; an up.ex. 77 DNAME ex.; an y.up.ex. 77 CNAME y.ex.; au ex. 5 SOA"},
		row{"y.up.up.ex.", "A", "rcode 3 aa; an up.ex. 77 DNAME ex.; an y.up.up.ex. 77 CNAME y.up.ex.; an y.up.ex. 77 CNAME y.ex.; au ex. 5 SOA"},
		row{"up.up.ex.", "A", "rcode 0 aa; an up.ex. 77 DNAME ex.; an up.up.ex. 77 CNAME up.ex.; au ex. 5 SOA"},
	)
	a := said(t, zones, ask("y.down.ex.", "A"))
	if len(a.Answers) != 1+9 || a.Rcode != api.NoError || name.Count(a.Answers[9].Data) != 3+9 || len(a.Authority) != 0 {
		t.Errorf("P9.1 of a DNAME that leads below itself: %q", tell(a))
	}
}

func TestTooLong(t *testing.T) {
	label := strings.Repeat("l", 60)
	long := strings.Join([]string{label, label, label}, ".")
	zones := []*zone.Zone{plain("ex.", "g DNAME "+long)}
	dname := "an g.ex. 60 DNAME " + long + ".ex."
	// Ahead of three labels of 61 bytes and ex. with four, two labels have room.
	const fits = 255 - 3*61 - 4 - 1
	y := strings.Repeat("y", 33) + "." + strings.Repeat("y", fits-34)
	check(t, zones, false,
		row{y + ".g.ex.", "A", "rcode 3 aa; " + dname + "; an " + y + ".g.ex. 60 CNAME " + y + "." + long + ".ex.; au ex. 5 SOA"},
		row{y + "y.g.ex.", "A", "rcode 6 aa; " + dname},
		row{y + "y.g.ex.", "ANY", "rcode 6 aa; " + dname},
	)
	// Behind aliases, too.
	zones = []*zone.Zone{plain("ex.", "g DNAME "+long, "al CNAME "+y+"y.g"), plain("org.", "al CNAME al.ex.")}
	check(t, zones, false, row{"al.org.", "A", "rcode 6 aa; an al.org. 60 CNAME al.ex.; an al.ex. 60 CNAME " + y + "y.g.ex.; " + dname})
}

// TestLeads: where names lead that a zone leaves to others, or to nobody.
func TestLeads(t *testing.T) {
	zones := []*zone.Zone{
		plain("ex.", "out CNAME www.org.", "far CNAME www.net.", "gone CNAME x.org.", "sub CNAME x.b", "kid2 CNAME x.c.kid", "gr DNAME org.", "fargr DNAME net.",
			"b NS ns.b", "ns.b A 10.0.0.9", "kid.ex. NS ns.kid", "ns.kid A 10.0.0.8"),
		nil,
		plain("org.", "www A 10.0.0.1", "back CNAME out.ex."),
	}
	check(t, zones, false,
		row{"out.ex.", "A", "rcode 0 aa; an out.ex. 60 CNAME www.org.; an www.org. 60 A 10.0.0.1"},
		row{"back.org.", "A", "rcode 0 aa; an back.org. 60 CNAME out.ex.; an out.ex. 60 CNAME www.org.; an www.org. 60 A 10.0.0.1"},
		// No zone has it.
		row{"far.ex.", "A", "rcode 0 aa; an far.ex. 60 CNAME www.net."},
		row{"x.fargr.ex.", "A", "rcode 0 aa; an fargr.ex. 60 DNAME net.; an x.fargr.ex. 60 CNAME x.net."},
		// The SOA is that of the zone of the last name.
		row{"gone.ex.", "A", "rcode 3 aa; an gone.ex. 60 CNAME x.org.; au org. 5 SOA"},
		row{"out.ex.", "TXT", "rcode 0 aa; an out.ex. 60 CNAME www.org.; au org. 5 SOA"},
		row{"www.gr.ex.", "A", "rcode 0 aa; an gr.ex. 60 DNAME org.; an www.gr.ex. 60 CNAME www.org.; an www.org. 60 A 10.0.0.1"},
		row{"a.back.gr.ex.", "A", "rcode 3 aa; an gr.ex. 60 DNAME org.; an a.back.gr.ex. 60 CNAME a.back.org.; au org. 5 SOA"},
		// A referral behind an alias: the alias was said by who has it.
		row{"sub.ex.", "A", "rcode 0 aa; an sub.ex. 60 CNAME x.b.ex.; au b.ex. 60 NS ns.b.ex.; ad ns.b.ex. 60 A 10.0.0.9"},
		row{"x.b.ex.", "A", "rcode 0; au b.ex. 60 NS ns.b.ex.; ad ns.b.ex. 60 A 10.0.0.9"},
	)
	// With the zone below.
	kid := plain("kid.ex.", "www A 10.0.0.2")
	check(t, append(zones, kid), false,
		row{"kid.ex.", "SOA", "rcode 0 aa; an kid.ex. 60 SOA"},
		row{"www.kid.ex.", "A", "rcode 0 aa; an www.kid.ex. 60 A 10.0.0.2"},
		row{"kid.ex.", "DS", "rcode 0 aa; au ex. 5 SOA"},
		row{"x.kid.ex.", "A", "rcode 3 aa; au kid.ex. 5 SOA"},
		row{"kid2.ex.", "A", "rcode 3 aa; an kid2.ex. 60 CNAME x.c.kid.ex.; au kid.ex. 5 SOA"},
	)
}

// TestDsLeads: with the type DS an alias leads to the zone above.
func TestDsLeads(t *testing.T) {
	zones := []*zone.Zone{plain("kid.ex.", "al CNAME kid.ex.", "@ DS 9 253 1 aa"), plain("ex.", "kid NS ns.kid", "kid DS 1 253 1 aa")}
	check(t, zones, false,
		row{"al.kid.ex.", "DS", "rcode 0 aa; an al.kid.ex. 60 CNAME kid.ex.; an kid.ex. 60 DS 1 253 1 aa"},
		row{"al.kid.ex.", "TXT", "rcode 0 aa; an al.kid.ex. 60 CNAME kid.ex.; au kid.ex. 5 SOA"},
		row{"kid.ex.", "DS", "rcode 0 aa; an kid.ex. 60 DS 1 253 1 aa"},
	)
	// Without the zone above it tells what it has itself.
	check(t, zones[:1], false, row{"kid.ex.", "DS", "rcode 0 aa; an kid.ex. 60 DS 9 253 1 aa"})
}

// TestProvedChains: proofs of more than one name, each record once.
func TestProvedChains(t *testing.T) {
	ex := signed("ex.", false, "*.a CNAME x.b", "*.b CNAME x.org.", "c NS ns.c", "*.d CNAME x.c", "ns.c A 10.0.0.1", "*.e CNAME z.e.e", "y.e.e A 10.0.0.2")
	org := signed("org.", true, "*.x CNAME y.c.ex.")
	const (
		ofA = "au *.a.ex. 5 NSEC *.b.ex.; au *.a.ex. 5 RRSIG NSEC"
		ofB = "au *.b.ex. 5 NSEC c.ex.; au *.b.ex. 5 RRSIG NSEC"
		ofD = "au *.d.ex. 5 NSEC *.e.ex.; au *.d.ex. 5 RRSIG NSEC"
		ofC = "au c.ex. 60 NS ns.c.ex.; au c.ex. 5 NSEC *.d.ex.; au c.ex. 5 RRSIG NSEC; ad ns.c.ex. 60 A 10.0.0.1"
	)
	check(t, []*zone.Zone{ex}, true,
		row{"q.a.ex.", "A", "rcode 0 aa; an q.a.ex. 60 CNAME x.b.ex.; an q.a.ex. 60 RRSIG CNAME; an x.b.ex. 60 CNAME x.org.; an x.b.ex. 60 RRSIG CNAME; " + ofA + "; " + ofB},
		row{"q.d.ex.", "A", "rcode 0 aa; an q.d.ex. 60 CNAME x.c.ex.; an q.d.ex. 60 RRSIG CNAME; " + ofD + "; " + ofC},
		row{"q.c.ex.", "A", "rcode 0; " + ofC},
		// The NSEC of y.e.e.ex. covers both names, and is told once.
		row{"zz.e.ex.", "A", "rcode 3 aa; an zz.e.ex. 60 CNAME z.e.e.ex.; an zz.e.ex. 60 RRSIG CNAME; au y.e.e.ex. 5 NSEC ex.; au y.e.e.ex. 5 RRSIG NSEC; au ex. 5 SOA; au ex. 60 RRSIG SOA; au *.e.ex. 5 NSEC y.e.e.ex.; au *.e.ex. 5 RRSIG NSEC"},
	)
	// From a zone with names to one with hashes, and back.
	a := said(t, []*zone.Zone{ex, org}, proved(ask("q.b.ex.", "A")))
	if len(a.Answers) != 2 || len(a.Authority) != 2+2+2 || a.Authority[4].Type != api.NSEC3 || a.Authority[2].Owner != n("org.") {
		t.Errorf("P9.1: proofs of two zones: %q", tell(a))
	}
	a = said(t, []*zone.Zone{ex, org}, proved(ask("q.x.org.", "A")))
	if len(a.Answers) != 2 || len(a.Authority) != 2+3 || a.Authority[0].Type != api.NSEC3 || a.Authority[2].Type != api.NS || a.Authority[3].Type != api.NSEC || !a.AA {
		t.Errorf("P9.1: proofs of two zones: %q", tell(a))
	}
}
