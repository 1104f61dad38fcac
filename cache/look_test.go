package cache_test

import (
	"math"
	"strings"
	"testing"

	"gazetteer/api"
	"gazetteer/cache"
)

// TestLookOrder: each line of what is known, and which is told where several
// hold. What comes takes others away, so that not all can be there together.
func TestLookOrder(t *testing.T) {
	const (
		set   = "put 3 100 www 60 A 10.0.0.1 => ok"
		alias = "put 2 100 www 50 CNAME x => ok"
		lack  = "deny 100 www A 60 40 ex. => ok"
		void  = "deny 100 www - 60 30 ex. => ok"
		above = "deny 100 ex. - 60 25 ex. => ok"
		gone  = "prove 100 ex. @ 20 NSEC @ NS SOA => ok"
		bare  = "prove 100 ex. www 20 NSEC @ NS SOA => ok"
	)
	for _, c := range []struct {
		calls []string
		want  []string // at 100, 120, 125, 130, 140, 150, 160
	}{
		{[]string{set}, []string{"set", "set", "set", "set", "set", "set", "nothing"}},
		{[]string{alias}, []string{"alias", "alias", "alias", "alias", "alias", "nothing", "nothing"}},
		{[]string{lack}, []string{"no data", "no data", "no data", "no data", "nothing", "nothing", "nothing"}},
		{[]string{void}, []string{"no name", "no name", "no name", "nothing", "nothing", "nothing", "nothing"}},
		{[]string{above}, []string{"no name", "no name", "nothing", "nothing", "nothing", "nothing", "nothing"}},
		{[]string{gone}, []string{"no name", "nothing", "nothing", "nothing", "nothing", "nothing", "nothing"}},
		{[]string{bare}, []string{"no data", "nothing", "nothing", "nothing", "nothing", "nothing", "nothing"}},
		{[]string{alias, set}, []string{"set", "set", "set", "set", "set", "set", "nothing"}},
		{[]string{gone, alias, set}, []string{"set", "set", "set", "set", "set", "set", "nothing"}},
		{[]string{lack, alias}, []string{"alias", "alias", "alias", "alias", "alias", "nothing", "nothing"}},
		{[]string{alias, lack}, []string{"alias", "alias", "alias", "alias", "alias", "nothing", "nothing"}},
		{[]string{alias, gone}, []string{"alias", "alias", "alias", "alias", "alias", "nothing", "nothing"}},
		{[]string{void, lack}, []string{"no data", "no data", "no data", "no data", "nothing", "nothing", "nothing"}},
		{[]string{above, lack, gone}, []string{"no data", "no data", "no data", "no data", "nothing", "nothing", "nothing"}},
		{[]string{gone, lack}, []string{"no data", "no data", "no data", "no data", "nothing", "nothing", "nothing"}},
		{[]string{void, bare}, []string{"no name", "no name", "no name", "nothing", "nothing", "nothing", "nothing"}},
		{[]string{bare, above}, []string{"no name", "no name", "nothing", "nothing", "nothing", "nothing", "nothing"}},
		{[]string{set, void}, []string{"no name", "no name", "no name", "nothing", "nothing", "nothing", "nothing"}},
		{[]string{set, lack}, []string{"no data", "no data", "no data", "no data", "nothing", "nothing", "nothing"}},
	} {
		one := newCache(10)
		run(t, "P12.5", one, c.calls...)
		for i, now := range []int{100, 120, 125, 130, 140, 150, 160} {
			got, _, _ := strings.Cut(tellKnown(one.Look(n("www"), api.A, now)), ":")
			if got = strings.TrimRight(got, " 0123456789"); got != c.want[i] {
				t.Errorf("P12.5: %s\nat %d: %s; wanted %s", strings.Join(c.calls, "\n"), now, got, c.want[i])
			}
		}
	}
}

// TestAlias: it is told for all types but its own, and for those that have
// sets.
func TestAlias(t *testing.T) {
	c := newCache(10)
	run(t, "P12.5", c,
		"put 2 100 www 50 CNAME x => ok",
		"put 4 100 www 60 A 10.0.0.1 => ok",
		"put 1 100 www RRSIG CNAME 253 2 60 200 100 1 ex. AAAAAQ== => ok",
		"look 110 WWW A => set 4: www.ex. 50 A 10.0.0.1",
		"look 110 www MX => alias 2: www.ex. 40 CNAME x.ex.",
		"look 110 www ANY => alias 2: www.ex. 40 CNAME x.ex.",
		"look 110 www NSEC => alias 2: www.ex. 40 CNAME x.ex.",
		"look 110 www TYPE65535 => alias 2: www.ex. 40 CNAME x.ex.",
		"look 110 www CNAME => set 2: www.ex. 40 CNAME x.ex.",
		"look 110 www RRSIG => set 1: www.ex. 50 RRSIG CNAME 253 2 60 200 100 1 ex. AAAAAQ==",
		"look 110 a.www A => nothing",
		"look 110 @ A => nothing",
		"look 0 www MX => alias 2: www.ex. 50 CNAME x.ex.",
		"look 149 www MX => alias 2: www.ex. 1 CNAME x.ex.",
		"look 150 www MX => nothing",
		"look 150 www A => set 4: www.ex. 10 A 10.0.0.1")
}

// TestAsPut: in the order and the letters in which they were put.
func TestAsPut(t *testing.T) {
	run(t, "P12.5", newCache(10),
		"put 4 100 wWw 50 MX 3 A | WWW 60 MX 1 b | www 70 MX 2 C.a => ok",
		"look 120 www MX => set 4: wWw.ex. 30 MX 3 A.ex. | WWW.ex. 30 MX 1 b.ex. | www.ex. 30 MX 2 C.a.ex.",
		"put 4 120 www 70 MX 2 c.A => ok",
		"look 120 WWW MX => set 4: www.ex. 70 MX 2 c.A.ex.",
		"put 4 120 . 70 NS a. | . 60 NS b. => ok",
		"look 121 . NS => set 4: . 59 NS a. | . 59 NS b.")
}

// TestLookWrong: of what can't be asked nothing is known.
func TestLookWrong(t *testing.T) {
	c := newCache(10)
	run(t, "P12.5", c, "put 4 100 www A 10.0.0.1 => ok", "put 4 100 www CNAME x => ok", "prove 100 . . NSEC . NS SOA => ok",
		"deny 100 ex. A 60 60 ex. => ok", "deny 100 org. - 60 60 . => ok")
	www := n("www")
	for _, l := range []struct {
		n      string
		t, now int
	}{
		{"", 1, 100}, {"www.ex.", 1, 100}, {www + "\x00", 1, 100}, {www[:7], 1, 100}, {"\x04www\x02ex\x00", 1, 100}, {strings.Repeat("\x01a", 127) + "\x01\x00", 1, 100},
		{www, 0, 100}, {www, -1, 100}, {www, 65536, 100}, {www, 65537, 100}, {www, math.MaxInt, 100}, {www, math.MinInt, 100}, {n("x.org."), 0, 100}, {n("x.org."), 65536, 100},
		{www, 1, -1}, {www, 1, api.MaxTime + 1}, {www, 1, math.MinInt}, {www, 1, math.MaxInt}, {n("x.org."), 1, -1}, {n("x."), 1, -1}, {n("ex."), 1, -1}, {"", -1, -1},
	} {
		if got := c.Look(l.n, l.t, l.now); got.Kind != 0 || got.Rank != 0 || len(got.Records) != 0 {
			t.Errorf("P12.5 Look(%q, %d, %d): %s", l.n, l.t, l.now, tellKnown(got))
		}
	}
	late := newCache(10)
	late.Put(list("www A 10.0.0.1"), 4, api.MaxTime)
	if late.Look(www, 1, api.MaxTime).Kind != api.KnowSet || late.Look(www, 1, api.MaxTime+1).Kind != api.KnowNothing || late.Look(www, 1, 0).Kind != api.KnowSet {
		t.Error("P12.5: the last time")
	}
	run(t, "P12.6", late, "size 4294967296 => 1", "size 4294967354 => 1", "size 4294967355 => 0", "size -1 => 1")
}

// TestLabels: the longest names, and those with the most labels.
func TestLabels(t *testing.T) {
	most := strings.Repeat("\x01a", 127) + "\x00"
	long := strings.Repeat("\x3f"+strings.Repeat("b", 63), 3) + "\x3d" + strings.Repeat("c", 61) + "\x00"
	for _, owner := range []string{most, long, api.Root} {
		c := newCache(10)
		soa := soaOf(".", 60, 60)
		set := list("www A 10.0.0.1")
		set[0].Owner = owner
		if c.Deny(owner, 0, soa, 100) != api.OK || c.Look(owner, 1, 100).Kind != api.KnowNoName {
			t.Errorf("P12.3 of %q", owner)
		}
		if c.Deny(api.Root, 0, soa, 100) != api.OK || c.Put(set, 1, 100) != api.OK || c.Size(100) != 1 || c.Look(owner, 1, 100).Kind != api.KnowSet {
			t.Errorf("P12.2 of %q", owner)
		}
		if c.Deny(api.Root, 0, soa, 100) != api.OK || c.Size(100) != 1 || c.Look(owner, 1, 100).Kind != api.KnowNoName {
			t.Errorf("P12.3 of %q below the root", owner)
		}
		apart := newCache(10)
		run(t, "P12.4", apart, "prove 100 . . NSEC . NS SOA => ok")
		want := api.KnowNoName
		if owner == api.Root {
			want = api.KnowNoData
		}
		if got := apart.Look(owner, 1, 100); got.Kind != want {
			t.Errorf("P12.5 of %q: %s", owner, tellKnown(got))
		}
	}
}

// TestNone: a cache that New didn't give.
func TestNone(t *testing.T) {
	for _, c := range []*cache.Cache{nil, {}} {
		for _, e := range []api.Errno{
			c.Put(list("www A 10.0.0.1"), 3, 100), c.Deny(n("www"), 0, soaOf("ex.", 60, 60), 100), c.Prove(n("ex."), list("b NSEC d A"), 100),
		} {
			if e != api.ErrNone {
				t.Errorf("none: %s", said(e))
			}
		}
		if c.Size(0) != 0 || c.Look(n("www"), api.A, 100).Kind != api.KnowNothing {
			t.Error("none knows something")
		}
	}
}
