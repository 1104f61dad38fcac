package cache_test

import (
	"math"
	"math/rand"
	"slices"
	"testing"

	"gazetteer/api"
)

// putting: a set that was put, and when.
type putting struct {
	set []api.Record
	now int
}

// tells: may it be this set that is told at a time?
func (p putting) tells(k api.Known, now int) bool {
	if len(k.Records) != len(p.set) {
		return false
	}
	for i, r := range k.Records {
		if r.TTL < 1 || r.TTL+max(0, now-p.now) > p.set[i].TTL {
			return false
		}
		r.TTL = p.set[i].TTL
		if r != p.set[i] {
			return false
		}
	}
	return true
}

// TestTold: what is told of a set was put, and is no older than was said; and
// a lesser rank turns nothing.
func TestTold(t *testing.T) {
	t.Parallel()
	d := dice{rand.New(rand.NewSource(127))}
	told, old := 0, 0
	for range 60 {
		c, now := newCache(d.number(3, 20, 5000)), 1000
		var puts []putting
		for range 80 {
			now += d.Intn(10) - 3
			set, rank := d.set(), 1+d.Intn(4)
			before := c.Look(set[0].Owner, set[0].Type, now)
			e := c.Put(set, rank, now)
			if before.Kind == api.KnowSet && e == api.OK && before.Rank > rank || e == api.ErrOld && (before.Kind != api.KnowSet || before.Rank <= rank) {
				t.Fatalf("P12.7: %s known, rank %d comes: %s", tellKnown(before), rank, said(e))
			}
			if e == api.ErrOld {
				old++
				if after := c.Look(set[0].Owner, set[0].Type, now); tellKnown(after) != tellKnown(before) {
					t.Fatalf("P12.7: %s was turned to %s", tellKnown(before), tellKnown(after))
				}
			}
			if e == api.OK {
				puts = append(puts, putting{slices.Clone(set), now})
			}
			if d.Intn(4) == 0 {
				c.Deny(d.name(), d.number(0, 1, 15), soaOf(".", d.age(), d.age()), now)
			}
			for _, text := range names() {
				for _, typ := range []int{api.A, api.MX, api.CNAME} {
					at := now + d.Intn(40) - 10
					k := c.Look(n(text), typ, at)
					if k.Kind != api.KnowSet && k.Kind != api.KnowAlias {
						continue
					}
					told++
					if !slices.ContainsFunc(puts, func(p putting) bool { return p.tells(k, at) }) {
						t.Fatalf("P12.7: at %d %s is told, and wasn't put so", at, tellKnown(k))
					}
				}
			}
		}
	}
	if told < 2000 || old < 100 {
		t.Errorf("too few: %d told, %d ErrOld", told, old)
	}
}

// TestNothingShared: what is done later with what was handed in, or came out,
// isn't seen.
func TestNothingShared(t *testing.T) {
	c := newCache(10)
	room := append(list("www A 10.0.0.1", "www A 10.0.0.2"), api.Record{Owner: "behind"})
	set := room[:2]
	given := slices.Clone(room)
	proofs := append(list("b NSEC d A", "@ NSEC b NS SOA"), api.Record{Owner: "behind"})
	proved := slices.Clone(proofs)
	if c.Put(set, 3, 100) != api.OK || c.Prove(n("ex."), proofs[:2], 100) != api.OK {
		t.Fatal("P12.2, P12.4")
	}
	if !slices.Equal(room, given) || !slices.Equal(proofs, proved) {
		t.Error("P2: what was handed in was changed")
	}
	clear(room)
	clear(proofs)
	want := list("www 50 A 10.0.0.1", "www 50 A 10.0.0.2")
	for range 3 {
		k := c.Look(n("www"), api.A, 110)
		if !slices.Equal(k.Records, want) {
			t.Fatalf("P2: %s", tellKnown(k))
		}
		other := c.Look(n("www"), api.A, 120)
		if k.Records[0].TTL != 50 || other.Records[0].TTL != 40 {
			t.Errorf("P2: two answers share memory: %s, %s", tellKnown(k), tellKnown(other))
		}
		clear(k.Records[:cap(k.Records)])
	}
	run(t, "P2", c, "look 110 c A => no name", "look 110 b MX => no data")
	if alone := newCache(10); alone.Size(0) != 0 || alone.Look(n("www"), api.A, 100).Kind != api.KnowNothing {
		t.Error("P2: two caches share what they know")
	}
}

// TestAnything: no call panics, whatever it is given.
func TestAnything(t *testing.T) {
	t.Parallel()
	d := dice{rand.New(rand.NewSource(121))}
	number := func() int {
		return d.number(math.MinInt, -1, 0, 1, 2, 3, 4, 5, 6, 47, 60, 100, 65535, 65536, api.MaxTTL, api.MaxTTL+1, api.MaxTime, api.MaxTime+1, math.MaxInt)
	}
	text := func() string {
		switch d.Intn(3) {
		case 0:
			return d.name()
		case 1:
			b := make([]byte, d.Intn(30))
			d.Read(b)
			return string(b)
		}
		return d.oneOf("", "\x00", "\x01a", "\x3f", "\xc0\x0c", "ex.", "\x01a\x00\x00")
	}
	record := func() api.Record {
		r := api.Record{Owner: text(), Type: number(), Class: d.number(1, 1, number()), TTL: number(), Data: text()}
		if d.Intn(2) == 0 {
			r = d.nsec()
		}
		return r
	}
	for range 300 {
		c := newCache(d.number(1, 2, 5))
		for range 60 {
			records := []api.Record{record(), record()}[:d.Intn(3)]
			switch d.Intn(5) {
			case 0:
				c.Put(records, number(), number())
			case 1:
				c.Deny(text(), number(), record(), number())
			case 2:
				c.Prove(text(), records, number())
			case 3:
				c.Look(text(), number(), number())
			case 4:
				if size := c.Size(number()); size > 5 {
					t.Errorf("P12.6: size %d", size)
				}
			}
		}
	}
}
