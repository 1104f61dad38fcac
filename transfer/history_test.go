package transfer_test

import (
	"math"
	"math/rand"
	"strconv"
	"testing"

	"gazetteer/api"
	"gazetteer/transfer"
	"gazetteer/zone"
)

const (
	half = 1 << 31
	last = 1<<32 - 1
)

func TestNewer(t *testing.T) {
	for _, c := range []struct {
		a, b int
		want bool
	}{
		{1, 0, true}, {0, 0, false}, {0, 1, false}, {8, 7, true}, {7, 8, false},
		{half - 1, 0, true}, {half, 0, false}, {half + 1, 0, false}, {0, half, false}, {0, half + 1, true}, {0, half - 1, false},
		{0, last, true}, {last, 0, false}, {last, last, false}, {1, last, true},
		{last, half, true}, {last, half - 1, false}, {half - 2, last, true}, {half - 1, last, false},
		// No serials.
		{0, -1, false}, {-1, 0, false}, {-1, -2, false}, {1, -1, false},
		{last + 1, last, false}, {last + 2, 0, false}, {last + 2, last + 1, false}, {0, last + 1, false}, {1, last + 1, false},
		{math.MaxInt, 0, false}, {0, math.MinInt, false}, {math.MinInt, math.MaxInt, false}, {1, math.MinInt, false}, {math.MinInt + 1, 0, false},
	} {
		if got := transfer.Newer(c.a, c.b); got != c.want {
			t.Errorf("P11.1 Newer(%d, %d) = %v", c.a, c.b, got)
		}
	}
}

func TestNewerAnySerials(t *testing.T) {
	d := rand.New(rand.NewSource(111))
	for range 20000 {
		a, b := d.Intn(last+1), d.Intn(last+1)
		if d.Intn(2) == 0 {
			b = (a + half - 2 + d.Intn(5)) % (last + 1)
		}
		way := (a - b + last + 1) % (last + 1)
		if got := transfer.Newer(a, b); got != (1 <= way && way <= 2147483647) {
			t.Fatalf("P11.1 Newer(%d, %d) = %v", a, b, got)
		}
	}
}

func TestNewHistory(t *testing.T) {
	h := transfer.NewHistory(nil)
	if h != nil || h.Zone() != nil || h.Add(zoneOf(7)) != api.ErrNone || len(h.Answer(whole())) != 0 {
		t.Error("P11.2: a history of nothing")
	}
	z := zoneOf(7)
	if h := transfer.NewHistory(z); h == nil || h.Zone() != z {
		t.Error("P11.2: a history of one zone doesn't have it")
	}
}

func TestAdd(t *testing.T) {
	apexed := func(apex, serial string) *zone.Zone {
		return newZone(apex, list(apex+" SOA ns h "+serial+" 2 3 4 5", apex+" NS ns.org."))
	}
	for _, c := range []struct {
		what   string
		serial int
		next   *zone.Zone
		want   api.Errno
	}{
		{"newer", 7, zoneOf(8), api.OK},
		{"much newer", 7, zoneOf(7 + half - 1), api.OK},
		{"newer, as serials go round", last, zoneOf(0), api.OK},
		{"newer, in other letters", 7, apexed("EX.", "8"), api.OK},
		{"nil", 7, nil, api.ErrNone},
		{"the same serial", 7, zoneOf(7, "a A 10.0.0.1"), api.ErrOld},
		{"an older serial", 7, zoneOf(6), api.ErrOld},
		{"half way round", 7, zoneOf(7 + half), api.ErrOld},
		{"older, as serials go round", 0, zoneOf(last), api.ErrOld},
		{"another apex", 7, apexed("org.", "8"), api.ErrOutside},
		{"an apex below", 7, apexed("a.ex.", "8"), api.ErrOutside},
		{"an apex above", 7, apexed(".", "8"), api.ErrOutside},
		{"another apex, and old", 7, apexed("org.", "7"), api.ErrOutside},
	} {
		z := zoneOf(c.serial)
		h := transfer.NewHistory(z)
		if e := h.Add(c.next); e != c.want {
			t.Errorf("P11.2 Add, %s: %d, wanted %d", c.what, e, c.want)
		}
		newest := z
		if c.want == api.OK {
			newest = c.next
		}
		if h.Zone() != newest {
			t.Errorf("P11.2 Add, %s: the newest is\n%s", c.what, tellZone(h.Zone()))
		}
	}
}

// TestAddAnew: it is the newest one that counts, not those ahead of it.
func TestAddAnew(t *testing.T) {
	h := historyOf(zoneOf(1), zoneOf(half), zoneOf(last))
	if e := h.Add(zoneOf(half)); e != api.ErrOld {
		t.Errorf("P11.2: %d, wanted ErrOld", e)
	}
	// Newer than the newest, but not than the first.
	if e := h.Add(zoneOf(1, "a A 10.0.0.1")); e != api.OK || h.Zone().Serial() != 1 {
		t.Errorf("P11.2: %d, wanted OK", e)
	}
}

// TestFullHistory: a step for who has one of the last eight zones, all for
// others.
func TestFullHistory(t *testing.T) {
	var zones []*zone.Zone
	h := (*transfer.History)(nil)
	for serial := 1; serial <= 30; serial++ {
		z := zoneOf(serial, append(hosts(40), "t TXT "+strconv.Itoa(serial))...)
		zones = append(zones, z)
		if h == nil {
			h = transfer.NewHistory(z)
		} else if e := h.Add(z); e != api.OK {
			t.Fatalf("P11.2: %d", e)
		}
		h.Add(nil)
		h.Add(zones[0])
		if h.Zone() != z {
			t.Fatal("P11.2: not the newest")
		}
		all := len(joined(h.Answer(whole())))
		for i, old := range zones[:len(zones)-1] {
			steps := len(zones) - 1 - i
			size := all
			if steps < 8 {
				size = 2 + 4*steps
			}
			if row := joined(h.Answer(since(old.Serial()))); len(row) != size {
				t.Fatalf("P11.2: of %d zones, from the one of serial %d on: %d records, wanted %d", len(zones), old.Serial(), len(row), size)
			}
		}
	}
}
