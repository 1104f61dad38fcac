package resolver_test

import (
	"math"
	"strconv"
	"strings"
	"testing"

	"gazetteer/api"
)

// example: the world of the chapter's examples, with more in it.
func example(lines ...string) *world {
	return found(
		lay(".", "ns.=1"),
		lay("ex.", "ns.ex.=2", append([]string{"www A 10.1.1.1"}, lines...)...),
	)
}

func TestExamples(t *testing.T) {
	w, r := netOf(example()), begin(t, 100)
	run(t, r, w,
		"100 www.ex. A => 2 NoError: www.ex. 60 A 10.1.1.1",
		"100 www.ex. A => 0 NoError: www.ex. 60 A 10.1.1.1",
		"100 x.ex. A => 1 NxDomain",
	)
	delete(w.servers, at(2))
	run(t, begin(t, 100), w, "100 www.ex. A => ? ServFail")
}

func TestNoQuestion(t *testing.T) {
	w, r := netOf(example()), begin(t, 100)
	www := n("www.ex.")
	for _, c := range []struct {
		about  string
		net    api.Net
		q      string
		t, now int
	}{
		{"no net", nil, www, 1, 100},
		{"no bytes", w, "", 1, 100},
		{"no end", w, "\x03www\x02ex", 1, 100},
		{"a written name", w, "www.ex.", 1, 100},
		{"too long", w, strings.Repeat("\x01a", 127) + "\x01a\x00", 1, 100},
		{"something behind it", w, www + "\x00", 1, 100},
		{"type 0", w, www, 0, 100},
		{"type -1", w, www, -1, 100},
		{"OPT", w, www, 41, 100},
		{"type 128", w, www, 128, 100},
		{"IXFR", w, www, 251, 100},
		{"AXFR", w, www, 252, 100},
		{"type 254", w, www, 254, 100},
		{"type 65536", w, www, 65536, 100},
		{"the greatest type", w, www, math.MaxInt, 100},
		{"the least type", w, www, math.MinInt, 100},
		{"ahead of time", w, www, 1, -1},
		{"the least time", w, www, 1, math.MinInt},
		{"behind time", w, www, 1, api.MaxTime + 1},
		{"the greatest time", w, www, 1, math.MaxInt},
		{"all of it", nil, "", 0, -1},
	} {
		reply := r.Resolve(c.net, c.q, c.t, c.now)
		if reply.Rcode != api.FormErr || len(reply.Records) > 0 || reply.Work != 0 || len(w.sent) > 0 {
			t.Errorf("P14.2 %s: %+v, and %d were sent", c.about, reply, len(w.sent))
		}
	}
}

// TestTypes: all others may be asked for, at all times.
func TestTypes(t *testing.T) {
	w := netOf(example(`www TYPE65535 \# 1 00`, `www TYPE127 \# 2 0102`))
	for _, now := range []string{"0", "100", "4294967295"} {
		r := begin(t, 100)
		run(t, r, w,
			now+" www.ex. A => 2 NoError: www.ex. 60 A 10.1.1.1",
			now+` www.ex. TYPE127 => 1 NoError: www.ex. 60 TYPE127 \# 2 0102`,
			now+` www.ex. TYPE65535 => 1 NoError: www.ex. 60 TYPE65535 \# 1 00`,
			now+` www.ex. ANY => 1 NoError: www.ex. 60 A 10.1.1.1 | www.ex. 60 TYPE127 \# 2 0102 | www.ex. 60 TYPE65535 \# 1 00`,
			now+" www.ex. TYPE256 => 1 NoError",
			now+" www.ex. TYPE40 => 1 NoError",
			now+" www.ex. TYPE42 => 1 NoError",
			now+" www.ex. TYPE65280 => 1 NoError",
			now+" ex. TYPE65281 => 1 NoError",
		)
	}
}

// TestZones: zones below one another, on one server and on several.
func TestZones(t *testing.T) {
	w := found(
		lay(".", "ns.=1", "top A 10.1.0.1"),
		lay("a.", "ns.a.=2", "x.a. A 10.1.0.2"),
		lay("b.a.", "ns.b.a.=3 ns2.b.a.=4", "x.b.a. A 10.1.0.3"),
		lay("d.c.b.a.", "ns.d.c.b.a.=2", "x.d.c.b.a. A 10.1.0.4"), // there is no c.b.a.; the server of a. has it
		lay("e.", "ns.e.=1", "x.e. A 10.1.0.5"),                   // the root's server has it
		lay("f.e.", "ns.f.e.=5", "x.f.e. A 10.1.0.6"),
		lay("g.f.e.", "ns.f.e.=5", "x.g.f.e. A 10.1.0.7"), // the server's name is the parent's
		lay("h.", "ns.f.e.=5 nsh.=6", "x.h. A 10.1.0.8"),  // and here one that another zone has
	)
	run(t, begin(t, 100), netOf(w),
		"100 top. A => 1 NoError: top. 60 A 10.1.0.1",
		"100 x.a. A => 2 NoError: x.a. 60 A 10.1.0.2",
		"100 x.b.a. A => 2 NoError: x.b.a. 60 A 10.1.0.3",
		"100 c.b.a. A => 1 NoError",
		"100 c.b.a. DS => 1 NoError",
		"100 x.d.c.b.a. A => 2 NoError: x.d.c.b.a. 60 A 10.1.0.4",
		"100 x.e. A => 1 NoError: x.e. 60 A 10.1.0.5",
		"100 x.f.e. A => 2 NoError: x.f.e. 60 A 10.1.0.6",
		"100 x.g.f.e. A => 1 NoError: x.g.f.e. 60 A 10.1.0.7",
		"100 x.h. A => 2 NoError: x.h. 60 A 10.1.0.8",
		"100 . NS => 1 NoError: . 600 NS ns.",
		"100 ns. A => 1 NoError: ns. 600 A 10.0.0.1",
		"100 ns.f.e. A => 1 NoError: ns.f.e. 600 A 10.0.0.5",
		"100 y. A => 1 NxDomain",
	)
	for line, work := range map[string]int{"100 top. A": 1, "100 x.a. A": 2, "100 x.b.a. A": 3, "100 x.d.c.b.a. A": 2, "100 x.e. A": 1, "100 x.g.f.e. A": 2, "100 x.h. A": 2} {
		reply := ask(t, begin(t, 100), netOf(w), line)
		if reply.Rcode != api.NoError || len(reply.Records) != 1 || reply.Work != work {
			t.Errorf("P14.3 %s: %s, Work %d; wanted %d", line, tell(reply), reply.Work, work)
		}
	}
}

// TestTop: the root's servers are those that were given, whatever the root says.
func TestTop(t *testing.T) {
	w := found(
		lay(".", "ns.=9", "www A 10.1.1.1", "a.b A 10.1.1.2"),
		lay("ex.", "ns.ex.=2", "www A 10.1.1.3"),
	)
	w.servers[at(1)] = w.servers[at(9)]
	delete(w.servers, at(9))
	run(t, begin(t, 100), netOf(w),
		"100 . NS => 1 NoError: . 600 NS ns.",
		"100 ns. A => 1 NoError: ns. 600 A 10.0.0.9",
		"100 www. A => 1 NoError: www. 60 A 10.1.1.1",
		"100 . ANY => 1 NoError: . 600 NS ns. | . 300 SOA ns. h. 1 60 60 60 30",
		"100 . A => 1 NoError",
		"100 b. A => 1 NoError",
		"100 www.ex. A => 2 NoError: www.ex. 60 A 10.1.1.3",
	)
}

// TestApexes: what stands at the apex of a zone is the zone's own, but DS, which
// stand in the zone above.
func TestApexes(t *testing.T) {
	w := found(
		lay(".", "ns.=1", `ex. DS 1 253 1 aa`, "lone.ex. A 10.9.9.9"),
		lay("ex.", "ns.ex.=2", "ex. A 10.1.1.1", "ex. DS 2 253 1 bb", "sub DS 3 253 1 cc"),
		lay("sub.ex.", "ns.sub.ex.=3", "sub.ex. A 10.1.1.2", "sub.ex. TXT hi"),
		lay("net.", "ns.net.=4"),
	)
	// A server that has the root and what is below ex., but not ex.
	w.servers[at(1)] = append(w.servers[at(1)], w.zones[2])
	for _, first := range []string{"ex. A => ? NoError: ex. 60 A 10.1.1.1", "ex. DS => 1 NoError: ex. 60 DS 1 253 1 aa"} {
		run(t, begin(t, 100), netOf(w),
			"100 "+first,
			"100 ex. DS => ? NoError: ex. 60 DS 1 253 1 aa",
			"100 ex. NS => ? NoError: ex. 600 NS ns.ex.",
			"100 ex. A => ? NoError: ex. 60 A 10.1.1.1",
			"100 sub.ex. DS => ? NoError: sub.ex. 60 DS 3 253 1 cc",
			"100 sub.ex. A => ? NoError: sub.ex. 60 A 10.1.1.2",
			"100 sub.ex. ANY => ? NoError: sub.ex. 60 A 10.1.1.2 | sub.ex. 600 NS ns.sub.ex. | sub.ex. 300 SOA ns. h. 1 60 60 60 30 | sub.ex. 60 TXT \"hi\"",
			"100 x.sub.ex. DS => ? NxDomain",
			"100 net. DS => ? NoError",
			"100 x.net. DS => ? NxDomain",
			"100 . DS => ? NoError",
			"100 lone.ex. A => ? NxDomain",
		)
	}
}

// TestAliases: from one zone into another, by CNAME and by DNAME.
func TestAliases(t *testing.T) {
	w := found(
		lay(".", "ns.=1", "far CNAME www.ex."),
		lay("ex.", "ns.ex.=2", "www A 10.1.1.1", "www A 10.1.1.2", "a 50 CNAME b.net.", "l1 CNAME l2", "l2 CNAME L3.net.", "gone CNAME x.net.", "bare CNAME c.net.",
			"*.w CNAME www", "old 40 DNAME net.", "in.old2 DNAME deep.net.", "self CNAME self", "DS CNAME net."),
		lay("net.", "ns.net.=3", "b CNAME www.ex.", "c TXT hi", "l3 CNAME l1.ex.", "d DNAME ex.", "deep DNAME old.ex.", "www.Sub A 10.1.1.3", "y A 10.1.1.4"),
	)
	run(t, begin(t, 100), netOf(w),
		"100 a.ex. A => 5 NoError: a.ex. 50 CNAME b.net. | b.net. 60 CNAME www.ex. | www.ex. 60 A 10.1.1.1 | www.ex. 60 A 10.1.1.2",
		"100 a.ex. CNAME => 0 NoError: a.ex. 50 CNAME b.net.",
		"100 a.ex. ANY => 1 NoError: a.ex. 50 CNAME b.net.",
		"100 a.ex. TXT => 1 NoError: a.ex. 50 CNAME b.net. | b.net. 60 CNAME www.ex.",
		"100 far. A => 1 NoError: far. 60 CNAME www.ex. | www.ex. 60 A 10.1.1.1 | www.ex. 60 A 10.1.1.2",
		"100 l1.ex. A => 3 NoError: l1.ex. 60 CNAME l2.ex. | l2.ex. 60 CNAME L3.net. | l3.net. 60 CNAME l1.ex.",
		"100 l3.net. A => 0 NoError: l3.net. 60 CNAME l1.ex. | l1.ex. 60 CNAME l2.ex. | l2.ex. 60 CNAME L3.net.",
		"100 self.ex. A => 1 NoError: self.ex. 60 CNAME self.ex.",
		"100 gone.ex. A => 2 NxDomain: gone.ex. 60 CNAME x.net.",
		"100 bare.ex. A => 2 NoError: bare.ex. 60 CNAME c.net.",
		"100 bare.ex. TXT => 1 NoError: bare.ex. 60 CNAME c.net. | c.net. 60 TXT \"hi\"",
		"100 Q.p.w.ex. A => 1 NoError: Q.p.w.ex. 60 CNAME www.ex. | www.ex. 60 A 10.1.1.1 | www.ex. 60 A 10.1.1.2",
		"100 ds.ex. DS => 2 NoError: DS.ex. 60 CNAME net.",
		"100 Y.old.ex. A => 2 NoError: old.ex. 40 DNAME net. | Y.old.ex. 40 CNAME Y.net. | y.net. 60 A 10.1.1.4",
		"100 www.SUB.old.ex. A => 1 NoError: old.ex. 40 DNAME net. | www.SUB.old.ex. 40 CNAME www.SUB.net. | www.Sub.net. 60 A 10.1.1.3",
		"110 y.old.ex. CNAME => 1 NoError: old.ex. 30 DNAME net. | y.old.ex. 30 CNAME y.net.",
		"110 b.old.ex. CNAME => 0 NoError: old.ex. 30 DNAME net. | b.old.ex. 30 CNAME b.net. | b.net. 50 CNAME www.ex.",
		"110 old.ex. DNAME => 0 NoError: old.ex. 30 DNAME net.",
		"110 old.ex. A => 1 NoError",
		"110 old.ex. ANY => 1 NoError: old.ex. 40 DNAME net.",
		"110 x.old.ex. A => 0 NxDomain: old.ex. 30 DNAME net. | x.old.ex. 30 CNAME x.net.",
		"110 y.in.old2.ex. A => ? NoError: in.old2.ex. 60 DNAME deep.net. | y.in.old2.ex. 60 CNAME y.deep.net. | deep.net. 60 DNAME old.ex. | y.deep.net. 60 CNAME y.old.ex. | old.ex. 30 DNAME net. | y.old.ex. 30 CNAME y.net. | y.net. 50 A 10.1.1.4",
		"110 in.old2.ex. A => 1 NoError",
		"110 old2.ex. A => 1 NoError",
	)
}

// TestTwice: what stands in an answer already isn't told again.
func TestTwice(t *testing.T) {
	w := found(
		lay(".", "ns.=1"),
		lay("ex.", "ns.ex.=2", "d DNAME ex.", "e DNAME f.ex.", "x.f CNAME y.e", "y.f CNAME e", "grow DNAME a.grow"),
	)
	run(t, begin(t, 100), netOf(w),
		"100 d.d.ex. DNAME => 2 NoError: d.ex. 60 DNAME ex. | d.d.ex. 60 CNAME d.ex.",
		"100 d.d.ex. ANY => 1 NoError: d.ex. 60 DNAME ex. | d.d.ex. 60 CNAME d.ex.",
		"100 x.e.ex. DNAME => ? NoError: e.ex. 60 DNAME f.ex. | x.e.ex. 60 CNAME x.f.ex. | x.f.ex. 60 CNAME y.e.ex. | y.e.ex. 60 CNAME y.f.ex. | y.f.ex. 60 CNAME e.ex.",
	)
	reply := ask(t, begin(t, 100), netOf(w), "100 x.grow.ex. A")
	if reply.Rcode != api.NoError || len(reply.Records) != 10 || reply.Records[0].Type != api.DNAME {
		t.Errorf("P14.3: a name that grows: %s", tell(reply))
	}
}

// TestLongest: names that grow to 255 bytes, and beyond.
func TestLongest(t *testing.T) {
	long, b := strings.Repeat(strings.Repeat("a", 60)+".", 3), strings.Repeat("b", 63)
	w := found(
		lay(".", "ns.=1"),
		lay("ex.", "ns.ex.=2", "d DNAME "+long, "c CNAME "+b+".cccccc.d", "k CNAME "+b+".ccccccc.d"),
	)
	run(t, begin(t, 100), netOf(w),
		"100 "+b+".xxxxxx.d.ex. A => 3 NxDomain: d.ex. 60 DNAME "+long+" | "+b+".xxxxxx.d.ex. 60 CNAME "+b+".xxxxxx."+long,
		"100 "+b+".xxxxxxx.d.ex. A => 0 YxDomain: d.ex. 60 DNAME "+long,
		"160 "+b+".xxxxxxx.d.ex. A => 1 YxDomain: d.ex. 60 DNAME "+long,
		"160 c.ex. A => ? NxDomain: c.ex. 60 CNAME "+b+".cccccc.d.ex. | d.ex. 60 DNAME "+long+" | "+b+".cccccc.d.ex. 60 CNAME "+b+".cccccc."+long,
		"160 k.ex. A => ? YxDomain: k.ex. 60 CNAME "+b+".ccccccc.d.ex. | d.ex. 60 DNAME "+long,
	)
}

// TestChains: no more than eight names are looked for behind the first.
func TestChains(t *testing.T) {
	lines := []string{"c0 A 10.1.1.2"}
	for i := range 12 {
		lines = append(lines, "c"+strconv.Itoa(i+1)+" CNAME c"+strconv.Itoa(i))
	}
	w := netOf(example(lines...))
	for i := range 13 {
		reply := ask(t, begin(t, 100), w, "100 c"+strconv.Itoa(i)+".ex. A")
		records := 9
		if i <= 8 {
			records = i + 1
		}
		ends := len(reply.Records) > 0 && reply.Records[len(reply.Records)-1].Type == api.A
		if reply.Rcode != api.NoError || len(reply.Records) != records || ends != (i <= 8) {
			t.Errorf("P14.3: a chain of %d: %s", i, tell(reply))
		}
	}
}

// TestStars: and names that are there only by what is below them.
func TestStars(t *testing.T) {
	w := netOf(found(
		lay(".", "ns.=1"),
		lay("ex.", "ns.ex.=2", "*.w TXT hi", "a.b.c A 10.1.1.1", "x.w A 10.1.1.2", "*.t.s A 10.1.1.3"),
	))
	run(t, begin(t, 100), w,
		`100 q.p.w.ex. TXT => 2 NoError: q.p.w.ex. 60 TXT "hi"`,
		`100 q.p.w.ex. A => 1 NoError`,
		`100 *.w.ex. TXT => 1 NoError: *.w.ex. 60 TXT "hi"`,
		`100 w.ex. TXT => 1 NoError`,
		`100 x.w.ex. TXT => 1 NoError`,
		`100 y.x.w.ex. TXT => 1 NxDomain`,
		`100 z.y.x.w.ex. A => 0 NxDomain`,
		`100 c.ex. A => 1 NoError`,
		`100 b.c.ex. ANY => 1 NoError`,
		`100 b.c.ex. ANY => 0 NoError`,
		`100 d.c.ex. A => 1 NxDomain`,
		`100 e.d.c.ex. TXT => 0 NxDomain`,
		`100 a.b.c.ex. TXT => 1 NoError`,
		`100 s.ex. A => 1 NoError`,
		`100 q.t.s.ex. ANY => 1 NoError: q.t.s.ex. 60 A 10.1.1.3`,
		`100 t.s.ex. A => 1 NoError`,
	)
}
