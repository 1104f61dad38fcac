package cache_test

import (
	"math"
	"strconv"
	"strings"
	"testing"

	"gazetteer/api"
)

func TestLack(t *testing.T) {
	run(t, "P12.3", newCache(10),
		"deny 100 www A 300 5 ex. => ok",
		"look 100 www A => no data",
		"look 104 WWW A => no data",
		"look 0 www A => no data",
		"look 105 www A => nothing",
		"look 100 www MX => nothing",
		"look 100 a.www A => nothing",
		"look 100 @ A => nothing",
		"deny 100 www ANY 300 5 ex. => ok",
		"look 100 www ANY => no data",
		"deny 100 www TYPE65535 300 5 ex. => ok",
		"look 100 www TYPE65535 => no data",
		"size 104 => 3",
		"size 105 => 0")
}

func TestVoid(t *testing.T) {
	run(t, "P12.3", newCache(10),
		"deny 100 x.y - 300 5 ex. => ok",
		"look 100 x.y A => no name",
		"look 104 X.Y MX => no name",
		"look 104 c.b.a.x.y MX => no name",
		"look 0 a.x.y A => no name",
		"look 105 x.y A => nothing",
		"look 100 y A => nothing",
		"look 100 xx.y A => nothing",
		"look 100 x.z A => nothing",
		"look 100 y.x A => nothing",
		"look 100 . A => nothing",
		"size 104 => 1",
		"size 105 => 0")
	c := newCache(10)
	run(t, "P12.3", c, "deny 100 x - 300 5 ex. => ok")
	// It ends with the same bytes, and not with the same labels.
	if got := c.Look("\x03a\x01x\x02ex\x00", api.A, 100); got.Kind != api.KnowNothing {
		t.Errorf("P12.5 of a name that isn't below x.ex.: %s", tellKnown(got))
	}
	run(t, "P12.3", c,
		"deny 100 . - 300 5 . => ok",
		"look 100 . A => no name",
		"look 100 a.b.c.org. A => no name")
}

// TestDenyAges: the smallest of three, of lacks and of voids.
func TestDenyAges(t *testing.T) {
	for _, c := range []struct{ age, minimum, want int }{
		{300, 5, 5}, {5, 300, 5}, {1, 1, 1}, {0, 5, 0}, {5, 0, 0}, {0, 0, 0}, {10800, 10800, 10800}, {10799, 10801, 10799}, {10801, 10799, 10799},
		{10801, 10801, 10800}, {604800, 604800, 10800}, {api.MaxTTL, 4294967295, 10800}, {api.MaxTTL, 7, 7}, {0, 4294967295, 0}, {60, 4294967295, 60},
	} {
		for _, typ := range []string{"A", "-"} {
			for _, now := range []int{0, 100, api.MaxTime} {
				one := newCache(10)
				run(t, "P12.3", one, strings.Join([]string{"deny", strconv.Itoa(now), "www", typ, strconv.Itoa(c.age), strconv.Itoa(c.minimum), "ex. => ok"}, " "))
				if one.Size(now+c.want) != 0 || c.want > 0 && one.Size(now+c.want-1) != 1 {
					t.Errorf("P12.3: %s denied at %d with the age %d and the minimum %d doesn't end behind %d", typ, now, c.age, c.minimum, c.want)
				}
			}
		}
	}
}

// TestDenyNoAge: nothing happens.
func TestDenyNoAge(t *testing.T) {
	for _, ages := range []string{"0 60", "60 0"} {
		run(t, "P12.3", newCache(10),
			"put 1 100 www A 10.0.0.1 => ok",
			"deny 100 www MX 60 60 ex. => ok",
			"deny 100 www A "+ages+" ex. => ok",
			"deny 100 www MX "+ages+" ex. => ok",
			"deny 100 www - "+ages+" ex. => ok",
			"deny 100 ex. - "+ages+" ex. => ok",
			"look 100 www A => set 1: www.ex. 60 A 10.0.0.1",
			"look 100 www MX => no data",
			"size 100 => 2",
			"deny 100 www - 60 60 ex. => ok",
			"deny 100 www - "+ages+" ex. => ok",
			"look 100 www A => no name",
			"size 100 => 1")
	}
}

// TestLackGoes: the set and the lack of this name and type, and nothing else.
func TestLackGoes(t *testing.T) {
	for _, rank := range []string{"1", "2", "3", "4"} {
		run(t, "P12.3", newCache(20),
			"deny 100 www - 60 60 . => ok",
			"deny 100 a.www - 60 60 . => ok",
			"deny 100 www TXT 60 60 . => ok",
			"put "+rank+" 100 x.www A 10.0.0.9 => ok",
			"deny 100 www - 60 60 . => ok",
			"put "+rank+" 100 ex. A 10.0.0.1 => ok",
			"deny 100 a.www A 60 60 . => ok",
			"deny 100 b.www A 60 60 . => ok",
			"look 100 www A => no name",
			"deny 100 WWW A 50 60 ex. => ok",
			"look 100 www A => no data",
			"look 100 www MX => no name",
			"look 100 c.www A => no name",
			"look 100 a.www A => no data",
			"look 100 a.www MX => no name",
			"look 100 b.www A => no data",
			"look 100 ex. A => set "+rank+": ex. 60 A 10.0.0.1",
			"size 149 => 6",
			"size 150 => 5")
		run(t, "P12.3", newCache(20),
			"put "+rank+" 100 www A 10.0.0.1 => ok",
			"put "+rank+" 100 www MX 1 m => ok",
			"put "+rank+" 100 a.www A 10.0.0.2 => ok",
			"put "+rank+" 100 ex. A 10.0.0.3 => ok",
			"deny 100 wWw A 60 60 ex. => ok",
			"look 100 www A => no data",
			"look 100 www MX => set "+rank+": www.ex. 60 MX 1 m.ex.",
			"look 100 a.www A => set "+rank+": a.www.ex. 60 A 10.0.0.2",
			"look 100 ex. A => set "+rank+": ex. 60 A 10.0.0.3",
			"size 100 => 4",
			// What was denied has no rank that others would have to reach.
			"put 1 100 www A 10.0.0.4 => ok",
			"look 100 www A => set 1: www.ex. 60 A 10.0.0.4",
			"size 100 => 4")
	}
}

// TestVoidGoes: all sets and lacks at the name and below it, and the void of
// the name itself.
func TestVoidGoes(t *testing.T) {
	for _, rank := range []string{"1", "4"} {
		c := newCache(20)
		run(t, "P12.3", c,
			"deny 100 b.a - 50 50 . => ok",
			"deny 100 d.c.b.a - 60 60 . => ok",
			"deny 100 b.a A 60 60 . => ok",
			"deny 100 d.c.b.a MX 60 60 . => ok",
			"deny 100 c.b.a MX 60 60 . => ok",
			"deny 100 a MX 60 60 . => ok",
			"deny 100 bb.a MX 60 60 . => ok",
			"prove 100 . e.b.a NSEC z A => ok",
			"put "+rank+" 100 @ A 10.0.0.1 => ok",
			"put "+rank+" 100 a A 10.0.0.2 => ok",
			"put "+rank+" 100 x.a A 10.0.0.3 => ok",
			"put "+rank+" 100 b.x A 10.0.0.4 => ok",
			"size 149 => 12",
			"deny 120 B.A - 60 60 ex. => ok",
			"look 120 b.a A => no name",
			"look 120 d.c.b.a MX => no name",
			"look 120 c.b.a MX => no name",
			"look 120 a MX => no data",
			"look 120 bb.a MX => no data",
			"look 120 @ A => set "+rank+": ex. 40 A 10.0.0.1",
			"look 120 a A => set "+rank+": a.ex. 40 A 10.0.0.2",
			"look 120 x.a A => set "+rank+": x.a.ex. 40 A 10.0.0.3",
			"look 120 b.x A => set "+rank+": b.x.ex. 40 A 10.0.0.4",
			// The void of d.c.b.a and the proof are there still.
			"size 149 => 9",
			"size 160 => 1",
			"look 160 d.c.b.a MX => no name",
			"size 180 => 0")
		c = newCache(20)
		run(t, "P12.3", c,
			"put "+rank+" 100 b.a A 10.0.0.1 => ok",
			"put "+rank+" 100 b.a MX 1 m => ok",
			"put "+rank+" 100 C.B.A TXT x => ok",
			"put "+rank+" 100 d.c.b.a CNAME x => ok")
		beside := list("x A 10.0.0.7")
		beside[0].Owner = "\x03x\x01b\x01a\x02ex\x00"
		c.Put(beside, 1, 100)
		run(t, "P12.3", c, "size 100 => 5", "deny 100 b.a - 60 60 b.a => ok", "size 100 => 2",
			"look 100 b.a A => no name", "look 100 b.a MX => no name", "look 100 c.b.a TXT => no name", "look 100 d.c.b.a CNAME => no name")
		if got := c.Look(beside[0].Owner, api.A, 100); got.Kind != api.KnowSet {
			t.Errorf("P12.3: what isn't below the name is gone: %s", tellKnown(got))
		}
	}
}

// TestVoidOfRoot: everything is below it.
func TestVoidOfRoot(t *testing.T) {
	run(t, "P12.3", newCache(10),
		"put 4 100 . NS ns => ok",
		"put 4 100 a.b A 10.0.0.1 => ok",
		"deny 100 org. A 60 60 . => ok",
		"deny 100 a.org. - 50 50 . => ok",
		"deny 100 . - 60 60 . => ok",
		"size 100 => 2",
		"size 150 => 1",
		"look 100 . NS => no name")
}

// TestEndedGoes: what isn't alive goes too, so that no time that goes back
// brings it again.
func TestEndedGoes(t *testing.T) {
	run(t, "P12.2, P12.3", newCache(10),
		"put 4 100 www 10 A 10.0.0.1 => ok",
		"deny 110 www A 60 60 ex. => ok",
		"look 100 www A => no data",
		"size 0 => 1",
		"put 1 170 www 10 A 10.0.0.2 => ok",
		"look 110 www A => set 1: www.ex. 10 A 10.0.0.2",
		"deny 180 ex. - 5 5 ex. => ok",
		"look 170 www A => no name",
		"size 0 => 1",
		"put 1 185 www 10 A 10.0.0.2 => ok",
		"look 180 a A => nothing",
		"size 0 => 1")
}

func TestDenyErrors(t *testing.T) {
	for _, c := range []struct {
		what string
		n    string
		t    int
		now  int
		do   func(r *api.Record)
		want api.Errno
	}{
		{what: "time 0", now: 0},
		{what: "the last time", now: api.MaxTime},
		{what: "time -1", now: -1, want: api.ErrArg},
		{what: "a later time", now: api.MaxTime + 1, want: api.ErrArg},
		{what: "the least time", now: math.MinInt, want: api.ErrArg},
		{what: "the greatest time", now: math.MaxInt, want: api.ErrArg},
		{what: "no name", n: "ex.", want: api.ErrName},
		{what: "a name and more", n: n("www") + "\x00", want: api.ErrName},
		{what: "a name cut short", n: "\x03www\x02ex", want: api.ErrName},
		{what: "type -1", t: -1, want: api.ErrType},
		{what: "type 65535", t: 65535},
		{what: "type 65536", t: 65536, want: api.ErrType},
		{what: "the greatest number", t: math.MaxInt, want: api.ErrType},
		{what: "no type", do: func(r *api.Record) { r.Type = 0 }, want: api.ErrSoa},
		{what: "type 700", do: func(r *api.Record) { r.Type = 700 }, want: api.ErrSoa},
		{what: "NS", do: func(r *api.Record) { *r = list("@ NS ns")[0] }, want: api.ErrSoa},
		{what: "class 3", do: func(r *api.Record) { r.Class = 3 }, want: api.ErrSoa},
		{what: "class 0", do: func(r *api.Record) { r.Class = 0 }, want: api.ErrSoa},
		{what: "age -1", do: func(r *api.Record) { r.TTL = -1 }, want: api.ErrSoa},
		{what: "the greatest age", do: func(r *api.Record) { r.TTL = api.MaxTTL }},
		{what: "a greater age", do: func(r *api.Record) { r.TTL = api.MaxTTL + 1 }, want: api.ErrSoa},
		{what: "no data", do: func(r *api.Record) { r.Data = "" }, want: api.ErrSoa},
		{what: "data cut short", do: func(r *api.Record) { r.Data = r.Data[1:] }, want: api.ErrSoa},
		{what: "more data", do: func(r *api.Record) { r.Data += "\x00" }, want: api.ErrSoa},
		{what: "an owner that is no name", do: func(r *api.Record) { r.Owner = "ex." }, want: api.ErrSoa},
		{what: "no owner", do: func(r *api.Record) { r.Owner = "" }, want: api.ErrSoa},
		{what: "an owner below", do: func(r *api.Record) { r.Owner = n("a.www") }, want: api.ErrSoa},
		{what: "an owner beside", do: func(r *api.Record) { r.Owner = n("org.") }, want: api.ErrSoa},
		{what: "the name itself", do: func(r *api.Record) { r.Owner = n("WWW") }},
		{what: "the root", do: func(r *api.Record) { r.Owner = api.Root }},
		{what: "other letters", do: func(r *api.Record) { r.Owner = n("EX.") }},
		{what: "nothing", do: func(r *api.Record) { *r = api.Record{} }, want: api.ErrSoa},
	} {
		owner, soa := n("www"), soaOf("ex.", 60, 60)
		if c.n != "" {
			owner = c.n
		}
		if c.do != nil {
			c.do(&soa)
		}
		one := newCache(10)
		run(t, "P12.3", one, "put 4 0 www 30 A 10.0.0.1 => ok")
		if e := one.Deny(owner, c.t, soa, c.now); e != c.want {
			t.Errorf("P12.3, %s: %s; wanted %s", c.what, said(e), said(c.want))
		}
		if c.want != api.OK {
			run(t, "P12.3, "+c.what, one, "look 0 www A => set 4: www.ex. 30 A 10.0.0.1", "size 0 => 1")
		}
	}
	if e := newCache(10).Deny("", 0, soaOf("ex.", 60, 60), 100); e != api.ErrName {
		t.Errorf("P12.3, no name: %s", said(e))
	}
}

// TestFirstDenyError: where several hold, in all ways.
func TestFirstDenyError(t *testing.T) {
	for some := range 1 << 5 {
		owner, typ, soa, now, want := n("www"), 1, soaOf("ex.", 60, 60), 100, api.OK
		if some&16 != 0 {
			soa.TTL, want = 0, api.OK
		}
		if some&8 != 0 {
			soa.Class, want = 3, api.ErrSoa
		}
		if some&4 != 0 {
			typ, want = -1, api.ErrType
		}
		if some&2 != 0 {
			owner, want = "www", api.ErrName
		}
		if some&1 != 0 {
			now, want = -1, api.ErrArg
		}
		c := newCache(10)
		if e := c.Deny(owner, typ, soa, now); e != want {
			t.Errorf("P12.3: faults %b: %s; wanted %s", some, said(e), said(want))
		}
		if size := c.Size(0); size == 1 != (some == 0) {
			t.Errorf("P12.3: faults %b: size %d", some, size)
		}
	}
}
