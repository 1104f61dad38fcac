package cache_test

import (
	"math"
	"slices"
	"strconv"
	"testing"

	"gazetteer/api"
	"gazetteer/proof"
)

func TestProved(t *testing.T) {
	run(t, "P12.4, P12.5", newCache(10),
		"prove 100 ex. b 50 NSEC d A => ok",
		"look 100 b MX => no data",
		"look 149 B MX => no data",
		"look 0 b MX => no data",
		"look 150 b MX => nothing",
		"look 100 b A => nothing",
		// Without one that tells of the star nothing is told of c.
		"look 100 c A => nothing",
		"prove 100 ex. @ 40 NSEC b NS SOA => ok",
		"look 100 c A => no name",
		"look 139 x.C MX => no name",
		"look 140 c A => nothing",
		"look 140 b MX => no data",
		"look 100 d A => nothing",
		"look 100 @ MX => no data",
		"look 100 . MX => nothing",
		"look 100 c.org. MX => nothing",
		"size 139 => 2",
		"size 140 => 1",
		"size 150 => 0")
}

// TestProofAges: at most so great.
func TestProofAges(t *testing.T) {
	for _, c := range [][2]int{{0, 0}, {1, 1}, {60, 60}, {10799, 10799}, {10800, 10800}, {10801, 10800}, {604801, 10800}, {api.MaxTTL, 10800}} {
		for _, now := range []int{0, 100, api.MaxTime} {
			one := newCache(10)
			r := list("b NSEC d A")[0]
			r.TTL = c[0]
			if e := one.Prove(n("ex."), []api.Record{r}, now); e != api.OK {
				t.Errorf("P12.4: %s", said(e))
			}
			if one.Size(now+c[1]) != 0 || c[1] > 0 && one.Size(now+c[1]-1) != 1 {
				t.Errorf("P12.4: a proof of the age %d, proved at %d, doesn't end behind %d", c[0], now, c[1])
			}
		}
	}
}

// TestProofNoAge: it takes away the one that was there.
func TestProofNoAge(t *testing.T) {
	run(t, "P12.4", newCache(10),
		"prove 100 ex. b NSEC d A | e NSEC f A => ok",
		"prove 100 ex. B 0 NSEC x A => ok",
		"look 100 b MX => nothing",
		"look 100 e MX => no data",
		"size 0 => 1",
		"prove 100 ex. b 0 NSEC x A => ok",
		"prove 100 ex. e 0 NSEC x A => ok",
		"size 0 => 0",
		"look 100 e MX => nothing")
}

// TestProofPlace: one of an apex and an owner, in whatever letters.
func TestProofPlace(t *testing.T) {
	run(t, "P12.4", newCache(10),
		"prove 100 ex. b.a NSEC d.a A => ok",
		"look 100 b.a A => nothing",
		"prove 100 EX. B.a 50 NSEC d.a MX => ok",
		"look 100 b.a A => no data",
		"look 100 b.a MX => nothing",
		"size 149 => 1",
		"size 150 => 0",
		// The same owner for another apex.
		"prove 100 a b.a NSEC d.a TXT => ok",
		"prove 100 . b.a NSEC d.a TXT => ok",
		"size 149 => 3",
		"prove 100 A b.a 40 NSEC d.a TXT => ok",
		"size 139 => 3",
		"size 140 => 2",
		"size 150 => 1")
}

// TestProofsInOrder: in which they came; one that comes anew comes last.
func TestProofsInOrder(t *testing.T) {
	run(t, "P12.4, P12.5", newCache(10),
		"prove 100 ex. @ NSEC z A | a NSEC c.b A => ok",
		"look 100 b A => no name",
		"prove 100 ex. @ NSEC z A => ok",
		"look 100 b A => no data",
		"prove 100 ex. a NSEC c.b A => ok",
		"look 100 b A => no name",
		"prove 100 ex. EX. 50 NSEC z A | A NSEC c.b A => ok",
		"look 100 b A => no name",
		"prove 100 ex. a NSEC c.b A | ex. 50 NSEC z A => ok",
		"look 100 b A => no data",
		"look 149 b A => no data",
		"look 150 b A => no data",
		"size 150 => 1",
		"prove 100 ex. a NSEC c.b A | ex. NSEC z A | A NSEC c.b A => ok",
		"look 100 b A => no name",
		"size 100 => 2")
	// What ends leaves the order of the others as it is.
	run(t, "P12.5", newCache(10),
		"prove 100 ex. @ 20 NSEC z A | a 50 NSEC c.b A | !a 60 NSEC z A | * NSEC @ A => ok",
		"look 119 b A => no name",
		"look 120 b A => no data",
		"look 150 b A => no name",
		"look 119 b A => no name")
}

// TestApexes: of two above a name the one furthest down tells, if one of its
// proofs is alive, and no other.
func TestApexes(t *testing.T) {
	run(t, "P12.5", newCache(10),
		"prove 100 ex. @ NSEC @ NS SOA => ok",
		"look 100 x.a A => no name",
		"prove 100 a a 50 NSEC x.a NS SOA => ok",
		"look 100 w.a A => no name",
		"look 100 x.a A => nothing",
		"look 100 a A => no data",
		"look 100 A SOA => nothing",
		"look 100 x.b A => no name",
		"look 149 x.a A => nothing",
		"look 150 x.a A => no name",
		// Time goes back, and the lower one lives again.
		"look 100 X.A A => nothing",
		"prove 100 . . NSEC . NS SOA => ok",
		"look 100 x.org. A => no name",
		"look 100 x.a A => nothing",
		"look 100 org. SOA => no name",
		"prove 100 a a 0 NSEC x.a NS SOA => ok",
		"look 100 x.a A => no name",
		"size 100 => 2")
	// Proofs of several apexes are not put together.
	run(t, "P12.5", newCache(10),
		"prove 100 ex. b NSEC d A => ok",
		"prove 100 . ex. NSEC b NS SOA => ok",
		"look 100 c A => nothing",
		"prove 100 ex. ex. NSEC b NS SOA => ok",
		"look 100 c A => no name",
		"size 100 => 3")
}

// TestPassedOver: what is no NSEC that may be used.
func TestPassedOver(t *testing.T) {
	right := list("b NSEC d A", "@ NSEC b NS SOA")
	wrong := []api.Record{
		{},
		list("b A 10.0.0.1")[0],
		list("c.org. NSEC d A")[0],
		list("c NSEC d.org. A")[0],
		list("org. NSEC d A")[0],
		list("c NSEC . A")[0],
		list("0p9mhaveqvm6t7vb NSEC3 1 0 3 abcd 2t7b4g4vsa5smi47 A")[0],
	}
	for what, spoil := range map[string]func(r *api.Record){
		"class 0":     func(r *api.Record) { r.Class = 0 },
		"class 3":     func(r *api.Record) { r.Class = 3 },
		"age -1":      func(r *api.Record) { r.TTL = -1 },
		"age 2 to 31": func(r *api.Record) { r.TTL = api.MaxTTL + 1 },
		"no owner":    func(r *api.Record) { r.Owner = "" },
		"no name":     func(r *api.Record) { r.Owner = "b.ex." },
		"no data":     func(r *api.Record) { r.Data = "" },
		"more data":   func(r *api.Record) { r.Data += "\x00" },
		"another":     func(r *api.Record) { r.Type = 700 },
		"NSEC3":       func(r *api.Record) { r.Type = api.NSEC3 },
	} {
		r := right[0]
		spoil(&r)
		wrong = append(wrong, r)
		c := newCache(10)
		if e := c.Prove(n("ex."), []api.Record{r}, 100); e != api.OK || c.Size(0) != 0 {
			t.Errorf("P12.4, %s: %s, size %d", what, said(e), c.Size(0))
		}
	}
	c := newCache(10)
	if e := c.Prove(n("ex."), slices.Concat(wrong, right[:1], wrong, right[1:], wrong), 100); e != api.OK || c.Size(100) != 2 {
		t.Errorf("P12.4: %s, size %d of two that may be used", said(e), c.Size(100))
	}
	run(t, "P12.4", c, "look 100 c A => no name")
	// One that may not be used doesn't take away what was there.
	for _, r := range wrong {
		c.Prove(n("ex."), []api.Record{r}, 100)
	}
	run(t, "P12.4", c, "look 100 c A => no name", "size 100 => 2")
	if e := c.Prove(n("ex."), nil, 100); e != api.OK || c.Size(100) != 2 {
		t.Errorf("P12.4: no proofs: %s, size %d", said(e), c.Size(100))
	}
	if e := c.Prove(n("a"), right, 100); e != api.OK || c.Size(100) != 2 {
		t.Errorf("P12.4: proofs from above: %s, size %d", said(e), c.Size(100))
	}
}

// TestHashed: NSEC3 that may be used are not kept.
func TestHashed(t *testing.T) {
	c := newCache(10)
	r := list("00000000000000g0 NSEC3 1 0 3 abcd 00000000000000g0 NS SOA")[0]
	if !proof.MayUse(n("ex."), r) {
		t.Fatal("P8.3: an NSEC3 may not be used")
	}
	if e := c.Prove(n("ex."), []api.Record{r}, 100); e != api.OK || c.Size(0) != 0 {
		t.Errorf("P12.4: an NSEC3: %s, size %d", said(e), c.Size(0))
	}
	run(t, "P12.5", c, "look 100 c A => nothing")
}

func TestProveErrors(t *testing.T) {
	right := list("b NSEC d A")
	for _, c := range []struct {
		apex string
		now  int
		want api.Errno
	}{
		{n("ex."), 0, api.OK}, {n("ex."), api.MaxTime, api.OK}, {n("."), 100, api.OK},
		{n("ex."), -1, api.ErrArg}, {n("ex."), api.MaxTime + 1, api.ErrArg}, {n("ex."), math.MaxInt, api.ErrArg}, {n("ex."), math.MinInt, api.ErrArg},
		{"", 100, api.ErrName}, {"ex.", 100, api.ErrName}, {"\x02ex", 100, api.ErrName}, {"\x02ex\x00\x00", 100, api.ErrName},
		{"", -1, api.ErrArg}, {"ex.", api.MaxTime + 1, api.ErrArg},
	} {
		for _, proofs := range [][]api.Record{right, nil, {{}}} {
			one := newCache(10)
			if e := one.Prove(c.apex, proofs, c.now); e != c.want {
				t.Errorf("P12.4: %q at %d: %s; wanted %s", c.apex, c.now, said(e), said(c.want))
			}
			if size := one.Size(0); size == 1 != (c.want == api.OK && len(proofs) > 0 && proofs[0] == right[0]) {
				t.Errorf("P12.4: %q at %d: size %d", c.apex, c.now, size)
			}
		}
	}
}

// TestProofsStay: what sets and absences take away are no proofs.
func TestProofsStay(t *testing.T) {
	run(t, "P12.2, P12.3", newCache(10),
		"prove 100 ex. b NSEC d A | @ NSEC b NS SOA => ok",
		"put 1 100 c 30 A 10.0.0.1 => ok",
		"look 100 c A => set 1: c.ex. 30 A 10.0.0.1",
		"look 100 c MX => no name",
		"look 130 c A => no name",
		"deny 100 c A 20 20 ex. => ok",
		"look 100 c A => no data",
		"look 120 c A => no name",
		"deny 100 ex. - 20 20 ex. => ok",
		"look 100 b MX => no name",
		"look 120 b MX => no data",
		"size 100 => 3",
		"size 120 => 2")
}

// TestManyProofs: a great zone's, of which each part is found.
func TestManyProofs(t *testing.T) {
	c := newCache(1000)
	for i := range 1000 {
		at := func(i int) string { return "h" + strconv.Itoa(1000+i%1000) }
		c.Prove(n("ex."), list(at(i)+" NSEC "+at(i+1)+" A"), 100)
	}
	run(t, "P12.5", c, "size 100 => 1000", "look 100 h1000 MX => no data", "look 100 h1999 MX => no data", "look 100 h1999x A => no name",
		"look 100 h1500x A => no name", "look 100 h1500 A => nothing")
}
