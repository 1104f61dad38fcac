package cache_test

import (
	"math"
	"slices"
	"strconv"
	"strings"
	"testing"

	"gazetteer/api"
	"gazetteer/cache"
)

func TestNew(t *testing.T) {
	for _, most := range []int{math.MinInt, -5000, -1, 0, api.MaxCache + 1, 10000, 1 << 32, math.MaxInt} {
		if c, e := cache.New(most); c != nil || e != api.ErrArg {
			t.Errorf("P12.1 New(%d): %d", most, e)
		}
	}
	for _, most := range []int{1, 2, 4999, 5000} {
		c, e := cache.New(most)
		if c == nil || e != api.OK {
			t.Errorf("P12.1 New(%d): %d", most, e)
			continue
		}
		fill(c, most)
		if c.Size(100) != most {
			t.Errorf("P12.1 New(%d): %d entries of so many stay", most, c.Size(100))
		}
		run(t, "P12.6", c, "put 3 100 one 1001 A 10.0.0.1 => ok", "look 100 h0 A => nothing",
			"look 100 one A => set 3: one.ex. 1001 A 10.0.0.1", "size 100 => "+strconv.Itoa(most))
		if most > 1 {
			run(t, "P12.6", c, "look 100 h1 A => set 3: h1.ex. 1000 A 10.0.0.1")
		}
	}
}

// fill puts so many sets at the time 100, which end at 1100.
func fill(c *cache.Cache, count int) {
	for i := range count {
		r := list("h 1000 A 10.0.0.1")[0]
		r.Owner = n("h" + strconv.Itoa(i))
		c.Put([]api.Record{r}, 3, 100)
	}
}

func TestExamples(t *testing.T) {
	run(t, "the chapter's example", newCache(10),
		"put 3 100 www 60 A 10.0.0.1 => ok",
		"look 130 www A => set 3: www.ex. 30 A 10.0.0.1",
		"look 160 www A => nothing",
		"put 1 130 www 60 A 10.0.0.2 => ErrOld",
		"look 130 www A => set 3: www.ex. 30 A 10.0.0.1",
		"put 4 130 www 60 A 10.0.0.2 | www 60 A 10.0.0.3 => ok",
		"look 130 www A => set 4: www.ex. 60 A 10.0.0.2 | www.ex. 60 A 10.0.0.3",
		"deny 100 x - 300 5 ex. => ok",
		"look 104 a.x A => no name",
		"look 105 a.x A => nothing",
		"prove 100 ex. b 60 NSEC d A | @ 60 NSEC b NS SOA => ok",
		"look 100 c A => no name")
}

// TestSetEnds: at each second, also where time goes back.
func TestSetEnds(t *testing.T) {
	c := newCache(10)
	run(t, "P12.2", c, "put 2 100 www 60 A 10.0.0.1 => ok")
	for _, now := range []int{159, 100, 160, 99, 0, 161, 159, 200, 101, api.MaxTime, 130} {
		want, size := "set 2: www.ex. "+strconv.Itoa(min(160-now, 60))+" A 10.0.0.1", "1"
		if now >= 160 {
			want, size = "nothing", "0"
		}
		at := strconv.Itoa(now)
		run(t, "P12.5, P12.6: a set of 100 to 160", c, "look "+at+" www A => "+want, "size "+at+" => "+size)
	}
}

// TestSetAges: the smallest, and not above the bound.
func TestSetAges(t *testing.T) {
	for _, c := range []struct {
		ages []int
		want int
	}{
		{[]int{0}, 0}, {[]int{1}, 1}, {[]int{60}, 60}, {[]int{60, 59, 61}, 59}, {[]int{1, 2}, 1}, {[]int{2, 1}, 1},
		{[]int{60, 0}, 0}, {[]int{0, 60, 700000}, 0}, {[]int{604799}, 604799}, {[]int{604800}, 604800}, {[]int{604801}, 604800},
		{[]int{700000, 800000}, 604800}, {[]int{700000, 5}, 5}, {[]int{api.MaxTTL}, 604800}, {[]int{api.MaxTTL, 604801}, 604800},
	} {
		for _, now := range []int{0, 100, api.MaxTime - 1, api.MaxTime} {
			var set []api.Record
			for i, age := range c.ages {
				set = append(set, list("www "+strconv.Itoa(age)+" A 10.0.0."+strconv.Itoa(i))...)
			}
			one := newCache(10)
			if e := one.Put(set, 3, now); e != api.OK {
				t.Errorf("P12.2 ages %v: %d", c.ages, e)
			}
			for i := range set {
				set[i].TTL = c.want
			}
			got := one.Look(n("www"), api.A, now)
			if c.want > 0 && (got.Kind != api.KnowSet || !slices.Equal(got.Records, set)) || c.want == 0 && got.Kind != api.KnowNothing {
				t.Errorf("P12.2 ages %v at %d: %s; wanted %d", c.ages, now, tellKnown(got), c.want)
			}
			if earlier := one.Look(n("www"), api.A, 0); c.want > 0 && earlier.Records[0].TTL != c.want {
				t.Errorf("P12.5 ages %v at %d, looked for at 0: %s", c.ages, now, tellKnown(earlier))
			}
			if one.Size(now+c.want) != 0 || c.want > 0 && one.Size(now+c.want-1) != 1 {
				t.Errorf("P12.2 ages %v at %d don't end at %d", c.ages, now, now+c.want)
			}
		}
	}
}

// TestNoAge: a set that is no longer to be remembered takes away what was
// there, and doesn't come.
func TestNoAge(t *testing.T) {
	run(t, "P12.2", newCache(10),
		"put 3 100 www 60 A 10.0.0.1 => ok",
		"put 2 100 www 0 A 10.0.0.2 => ErrOld",
		"size 100 => 1",
		"put 3 100 www 0 A 10.0.0.2 => ok",
		"look 100 www A => nothing",
		"size 0 => 0",
		"deny 100 www MX 60 60 ex. => ok",
		"deny 100 @ - 60 60 ex. => ok",
		"deny 100 www A 60 60 ex. => ok",
		"deny 100 www - 60 60 ex. => ok",
		"deny 100 a.www - 60 60 ex. => ok",
		"deny 100 www MX 60 60 ex. => ok",
		"deny 100 www A 60 60 ex. => ok",
		"size 100 => 5",
		"put 1 100 www 0 A 10.0.0.2 => ok",
		"look 100 www A => nothing",
		"look 100 www MX => no data",
		"look 100 a.www A => no name",
		"look 100 b.www A => nothing",
		"size 100 => 2")
}

// TestRanks: each against each.
func TestRanks(t *testing.T) {
	for first := 1; first <= 4; first++ {
		for second := 1; second <= 4; second++ {
			for _, now := range []int{0, 99, 100, 159, 160, 161} {
				c := newCache(10)
				a, b := list("www A 10.0.0.1"), list("WWW 30 A 10.0.0.2", "www 20 A 10.0.0.3")
				c.Put(a, first, 100)
				e := c.Put(b, second, now)
				rank, set, want := second, b, api.OK
				if first > second && now < 160 {
					rank, set, want = first, a, api.ErrOld
				}
				got := c.Look(n("www"), api.A, now)
				if e != want || got.Rank != rank || len(got.Records) != len(set) || got.Records[0].Data != set[0].Data || c.Size(now) != 1 {
					t.Errorf("P12.2: rank %d at 100, rank %d at %d: %s, %s", first, second, now, said(e), tellKnown(got))
				}
			}
		}
	}
	run(t, "P12.2, of each type by itself", newCache(10),
		"put 4 100 www A 10.0.0.1 => ok",
		"put 1 100 www MX 1 m => ok",
		"put 1 100 a.www A 10.0.0.2 => ok",
		"put 1 100 ex. A 10.0.0.3 => ok",
		"put 3 100 www A 10.0.0.4 => ErrOld",
		"look 100 www A => set 4: www.ex. 60 A 10.0.0.1",
		"look 100 www MX => set 1: www.ex. 60 MX 1 m.ex.",
		"size 100 => 4")
}

// TestRankBack: where time goes back, what has ended lives again.
func TestRankBack(t *testing.T) {
	run(t, "P12.2", newCache(10),
		"put 4 100 www 60 A 10.0.0.1 => ok",
		"look 160 www A => nothing",
		"put 3 159 www 60 A 10.0.0.2 => ErrOld",
		"look 140 www A => set 4: www.ex. 20 A 10.0.0.1",
		"put 3 160 www 10 A 10.0.0.2 => ok",
		"look 140 www A => set 3: www.ex. 10 A 10.0.0.2",
		"put 2 140 www 60 A 10.0.0.3 => ErrOld",
		"put 2 170 www 60 A 10.0.0.3 => ok",
		"look 170 www A => set 2: www.ex. 60 A 10.0.0.3",
		"size 0 => 1")
}

// TestOldDoesNothing: with ErrOld all else stays as well.
func TestOldDoesNothing(t *testing.T) {
	run(t, "P12.2", newCache(10),
		"put 4 100 www A 10.0.0.1 => ok",
		"deny 100 ex. MX 60 60 ex. => ok",
		"put 1 100 www A 10.0.0.2 | www A 10.0.0.3 => ErrOld",
		"look 100 www A => set 4: www.ex. 60 A 10.0.0.1",
		"look 100 @ MX => no data",
		"size 100 => 2")
}

// TestSigs: a set may be of signatures, of several types.
func TestSigs(t *testing.T) {
	sigs := []string{
		"www 60 RRSIG A 253 2 60 200 100 1 ex. AAAAAQ==",
		"www 50 RRSIG MX 253 2 60 200 100 1 ex. AAAAAQ==",
	}
	run(t, "P12.2", newCache(10),
		"put 3 100 "+strings.Join(sigs, " | ")+" => ok",
		"look 110 www RRSIG => set 3: "+strings.NewReplacer("www 60", "www.ex. 40", "www 50", "www.ex. 40").Replace(strings.Join(sigs, " | ")),
		"look 110 www A => nothing",
		"put 2 110 "+sigs[0]+" => ErrOld",
		"put 3 110 "+sigs[0]+" | "+sigs[0]+" => ErrForm",
		"put 3 110 "+sigs[1]+" => ok",
		"look 110 www RRSIG => set 3: "+strings.Replace(sigs[1], "www", "www.ex.", 1))
}

// TestPutGoes: which lacks and voids go when a set comes.
func TestPutGoes(t *testing.T) {
	for _, age := range []string{"60", "0"} {
		c := newCache(20)
		run(t, "P12.2", c,
			"deny 100 b.a A 60 60 ex. => ok",
			"deny 100 b.a MX 60 60 ex. => ok",
			"deny 100 c.b.a A 60 60 ex. => ok",
			"deny 100 a A 60 60 ex. => ok",
			"deny 100 ab.a A 60 60 ex. => ok",
			"put 1 100 B.A "+age+" A 10.0.0.1 => ok",
			"look 100 b.a MX => no data",
			"look 100 c.b.a A => no data",
			"look 100 a A => no data",
			"look 100 ab.a A => no data")
		if age == "0" {
			run(t, "P12.2", c, "look 100 b.a A => nothing", "size 100 => 4")
		} else {
			run(t, "P12.2", c, "look 100 b.a A => set 1: B.A.ex. 60 A 10.0.0.1", "size 100 => 5")
		}
		c = newCache(20)
		run(t, "P12.2", c,
			"deny 100 . - 60 60 . => ok",
			"deny 100 ex. - 60 60 . => ok",
			"deny 100 A - 60 60 . => ok",
			"deny 100 b.a - 60 60 . => ok",
			"deny 100 c.b.a - 60 60 . => ok",
			"deny 100 c.a - 60 60 . => ok",
			"deny 100 org. - 60 60 . => ok",
			"size 100 => 7",
			"put 1 100 b.a "+age+" MX 1 m => ok",
			"look 100 b.a A => nothing",
			"look 100 c.b.a A => no name",
			"look 100 c.a A => no name",
			"look 100 x.org. A => no name",
			"look 100 x.b.a A => nothing",
			"look 100 x.a A => nothing",
			"look 100 x.ex. A => nothing",
			"look 100 x. A => nothing",
			"look 100 . A => nothing")
	}
}

// TestPutForm: what is no set.
func TestPutForm(t *testing.T) {
	right := list("www A 10.0.0.1", "www A 10.0.0.2", "www A 10.0.0.3")
	for what, spoil := range map[string]func(r *api.Record){
		"another owner": func(r *api.Record) { r.Owner = n("a.www") },
		"no owner":      func(r *api.Record) { r.Owner = "" },
		"no name":       func(r *api.Record) { r.Owner = "www.ex." },
		"another type":  func(r *api.Record) { r.Type = 700 },
		"type 0":        func(r *api.Record) { r.Type = 0 },
		"type -1":       func(r *api.Record) { r.Type = -1 },
		"type ANY":      func(r *api.Record) { r.Type = api.ANY },
		"type OPT":      func(r *api.Record) { r.Type = api.OPT },
		"type 65537":    func(r *api.Record) { r.Type = 65537 },
		"class 0":       func(r *api.Record) { r.Class = 0 },
		"class 255":     func(r *api.Record) { r.Class = api.ClsAny },
		"age -1":        func(r *api.Record) { r.TTL = -1 },
		"age 2 to 31":   func(r *api.Record) { r.TTL = api.MaxTTL + 1 },
		"no data":       func(r *api.Record) { r.Data = "" },
		"wrong data":    func(r *api.Record) { r.Data = "\x0a\x00\x00" },
		"more data":     func(r *api.Record) { r.Data += "\x00" },
		"twice":         func(r *api.Record) { r.Data, r.TTL = "\x0a\x00\x00\x02", 7 },
	} {
		for _, at := range []int{0, 2} {
			c := newCache(10)
			run(t, "P12.2", c, "deny 100 www A 60 60 ex. => ok")
			set := slices.Clone(right)
			spoil(&set[at])
			if e := c.Put(set, 3, 100); e != api.ErrForm {
				t.Errorf("P12.2, %s: %s", what, said(e))
			}
			run(t, "P12.2, "+what, c, "look 100 www A => no data", "size 0 => 1")
		}
	}
	c := newCache(10)
	if c.Put(nil, 3, 100) != api.ErrForm || c.Put([]api.Record{}, 3, 100) != api.ErrForm || c.Put(make([]api.Record, 2), 3, 100) != api.ErrForm {
		t.Error("P12.2: no records are a set")
	}
	run(t, "P12.2", c, "put 3 100 www MX 1 m | WWW MX 1 M => ErrForm", "size 100 => 0",
		"put 3 100 www MX 1 m | WWW MX 2 M => ok", "look 100 www MX => set 3: www.ex. 60 MX 1 m.ex. | WWW.ex. 60 MX 2 M.ex.")
}

// TestPutErrors: each alone, and which is told where several hold.
func TestPutErrors(t *testing.T) {
	for _, c := range []struct {
		rank, now int
		want      api.Errno
	}{
		{1, 0, api.OK}, {4, api.MaxTime, api.OK}, {0, 100, api.ErrArg}, {5, 100, api.ErrArg}, {-1, 100, api.ErrArg}, {math.MaxInt, 100, api.ErrArg},
		{math.MinInt, 100, api.ErrArg}, {1, -1, api.ErrArg}, {1, api.MaxTime + 1, api.ErrArg}, {1, math.MaxInt, api.ErrArg}, {1, math.MinInt, api.ErrArg},
	} {
		one := newCache(10)
		if e := one.Put(list("www A 10.0.0.1"), c.rank, c.now); e != c.want {
			t.Errorf("P12.2: rank %d at %d: %s", c.rank, c.now, said(e))
		}
		if size := one.Size(0); (size == 1) != (c.want == api.OK) {
			t.Errorf("P12.2: rank %d at %d: size %d", c.rank, c.now, size)
		}
	}
	for some := range 1 << 4 {
		set, rank, now, want := list("www A 10.0.0.2"), 4, 100, api.OK
		if some&8 != 0 {
			rank, want = 3, api.ErrOld
		}
		if some&4 != 0 {
			set[0].TTL, want = -1, api.ErrForm
		}
		if some&2 != 0 {
			now, want = -1, api.ErrArg
		}
		if some&1 != 0 {
			rank, want = 0, api.ErrArg
		}
		one := newCache(10)
		run(t, "P12.2", one, "put 4 100 www A 10.0.0.1 => ok")
		if e := one.Put(set, rank, now); e != want {
			t.Errorf("P12.2: faults %b: %s; wanted %s", some, said(e), said(want))
		}
		if want != api.OK {
			run(t, "P12.2", one, "look 100 www A => set 4: www.ex. 60 A 10.0.0.1", "size 0 => 1")
		}
	}
}
