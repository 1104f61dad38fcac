package signer_test

import (
	"math/rand"
	"reflect"
	"slices"
	"testing"

	"gazetteer/api"
	"gazetteer/seal"
	"gazetteer/signer"
)

// timed gives one of the keys with its times.
func timed(number, publish, active, retire, remove int) api.Timed {
	return api.Timed{Key: key(number, 257), Publish: publish, Active: active, Retire: retire, Remove: remove}
}

// begin: a line of one key from a time on.
func begin(at int) []api.Timed { return []api.Timed{timed(0, at, at, api.Never, api.Never)} }

func TestPlanAt(t *testing.T) {
	line := []api.Timed{timed(2, 10, 20, 30, 40), timed(0, 0, 0, 25, 30), timed(1, 20, 20, 20, 21), timed(3, 30, 40, api.Never, api.Never)}
	base := hashedPlan()
	for now, want := range map[int][]api.PlanKey{
		-1: nil, 0: {active(0, 257)}, 9: {active(0, 257)}, 10: {idle(2, 257), active(0, 257)}, 19: {idle(2, 257), active(0, 257)},
		20: {active(2, 257), active(0, 257), idle(1, 257)}, 21: {active(2, 257), active(0, 257)}, 24: {active(2, 257), active(0, 257)},
		25: {active(2, 257), idle(0, 257)}, 29: {active(2, 257), idle(0, 257)}, 30: {idle(2, 257), idle(3, 257)}, 39: {idle(2, 257), idle(3, 257)},
		40: {active(3, 257)}, 4294967295: {active(3, 257)}, 4294967296: nil,
	} {
		got := signer.PlanAt(line, base, now)
		if !slices.Equal(got.Keys, want) {
			t.Errorf("P7.3 PlanAt(.., %d).Keys = %+v; wanted %+v", now, got.Keys, want)
		}
		got.Keys = base.Keys
		if !reflect.DeepEqual(got, base) {
			t.Errorf("P7.3 PlanAt(.., %d) changed %+v to %+v", now, base, got)
		}
	}
	if got := signer.PlanAt(nil, base, 7); len(got.Keys) != 0 {
		t.Errorf("P7.3 PlanAt without a line: %+v", got)
	}
	// It asks nothing but the two rules, of a line that isn't right either.
	odd := []api.Timed{{Publish: 5, Remove: 9, Active: 7, Retire: 100}, {Publish: 9, Remove: 5, Active: 0, Retire: 100}, {Publish: -9, Remove: 9, Active: 9, Retire: 0}}
	if got := signer.PlanAt(odd, api.Plan{}, 7).Keys; !slices.Equal(got, []api.PlanKey{{Active: true}, {}}) {
		t.Errorf("P7.3 PlanAt of a line that isn't right: %+v", got)
	}
}

// TestPlanAtSigns: the plan of a time signs a zone that fits the keys of all times near it.
func TestPlanAtSigns(t *testing.T) {
	line, e := signer.Roll(begin(100), key(1, 257), 1000, 60, 300)
	if e != api.OK {
		t.Fatalf("P7.5 Roll = %d", e)
	}
	for now, want := range map[int][]int{999: {0}, 1000: {0}, 1059: {0}, 1060: {1}, 1359: {1}, 1360: {1}} {
		p := signer.PlanAt(line, plan(), now)
		signed := sign(t, n("ex."), zoneLines(), p)
		var expected []api.Record
		for _, number := range want {
			sig, _ := seal.Sign(key(number, 257), n("ex."), of(api.SOA, signed), 100, 200)
			expected = append(expected, sig)
		}
		got := slices.DeleteFunc(of(api.RRSIG, signed), func(r api.Record) bool { return r.Data[1] != api.SOA })
		if !slices.Equal(got, expected) {
			t.Errorf("P7.3 the plan of %d signs the SOA by %q; wanted %q", now, toldAll(got), toldAll(expected))
		}
	}
}

// wrongLines: lines that aren't right.
func wrongLines() map[string][]api.Timed {
	many := slices.Repeat([]api.Timed{timed(0, 1, 2, 3, 4)}, 50)
	return map[string][]api.Timed{
		"too many":           append(many, timed(1, 0, 0, api.Never, api.Never)),
		"before all times":   {timed(0, -1, 0, api.Never, api.Never)},
		"signs ahead":        {timed(0, 2, 1, api.Never, api.Never)},
		"retires ahead":      {timed(1, 0, 0, api.Never, api.Never), timed(0, 1, 3, 2, 4)},
		"is removed ahead":   {timed(0, 1, 2, 4, 3), timed(1, 0, 0, api.Never, api.Never)},
		"is removed early":   {timed(0, 1, 2, api.Never, 3)},
		"behind all times":   {timed(0, 0, 0, api.Never, api.Never+1)},
		"behind, both times": {timed(1, 0, 0, api.Never, api.Never), timed(0, 0, 0, api.Never+1, api.Never+1)},
		"no key":             {timed(1, 0, 0, api.Never, api.Never), {}},
		"a wrong key":        {{Key: api.Key{Flags: 256, Modulus: 5, Exponent: 1, Secret: 1}, Retire: api.Never, Remove: api.Never}},
		"wrong flags":        {{Key: api.Key{Flags: 1, Modulus: 6, Exponent: 1, Secret: 1}, Retire: api.Never, Remove: api.Never}},
	}
}

func TestSafeWrong(t *testing.T) {
	for _, c := range [][4]int{
		{-1, 0, 0, 9}, {2147483648, 0, 0, 9}, {0, -1, 0, 9}, {0, 2147483648, 0, 9}, {0, 0, -1, 9}, {0, 0, 9, 8}, {0, 0, 0, 4294967296}, {0, 0, 4294967296, 4294967296},
	} {
		for _, line := range [][]api.Timed{begin(0), nil, {{}}} {
			if a, b, e := signer.Safe(line, c[0], c[1], c[2], c[3]); a != 0 || b != 0 || e != api.ErrArg {
				t.Errorf("P7.4 Safe(.., %v) = %d, %d, %d; wanted ErrArg", c, a, b, e)
			}
		}
	}
	for what, line := range wrongLines() {
		if a, b, e := signer.Safe(line, 1, 1, 0, 9); a != 0 || b != 0 || e != api.ErrForm {
			t.Errorf("P7.4 Safe, %s: %d, %d, %d; wanted ErrForm", what, a, b, e)
		}
	}
}

// checkSafe: what Safe says must be true of what it tells.
func checkSafe(t *testing.T, line []api.Timed, keyAge, setAge, from, to int, want api.Errno) {
	t.Helper()
	a, b, e := signer.Safe(line, keyAge, setAge, from, to)
	if e != want {
		t.Fatalf("P7.4 Safe(%+v, %d, %d, %d, %d) = %d, %d, %d; wanted %d", line, keyAge, setAge, from, to, a, b, e, want)
	}
	right := a == 0 && b == 0
	if e == api.ErrTime {
		right = isGap(line, keyAge, setAge, a, b) && from <= min(a, b) && max(a, b) <= to
	}
	if !right {
		t.Fatalf("P7.4 Safe(%+v, %d, %d, %d, %d) tells %d, %d with %d", line, keyAge, setAge, from, to, a, b, e)
	}
}

// isGap: do keys of a and a set of b meet, and no key will do?
func isGap(line []api.Timed, keyAge, setAge, a, b int) bool {
	if b-a > keyAge || a-b > setAge {
		return false
	}
	for _, k := range line {
		if k.Publish <= a && a < k.Remove && k.Active <= b && b < k.Retire {
			return false
		}
	}
	return true
}

func TestSafe(t *testing.T) {
	rolled := []api.Timed{timed(0, 100, 100, 1060, 1360), timed(1, 1000, 1060, api.Never, api.Never)}
	early := []api.Timed{timed(0, 100, 100, 1059, 1360), timed(1, 1000, 1059, api.Never, api.Never)}
	removed := []api.Timed{timed(0, 100, 100, 1060, 1359), timed(1, 1000, 1060, api.Never, api.Never)}
	late := []api.Timed{timed(0, 100, 100, 1060, 1360), timed(1, 1001, 1060, api.Never, api.Never)}
	for _, c := range []struct {
		line                     []api.Timed
		keyAge, setAge, from, to int
		want                     api.Errno
	}{
		{rolled, 60, 300, 100, 4294967295, api.OK},
		{rolled, 60, 300, 99, 4294967295, api.ErrTime},
		{rolled, 61, 300, 100, 4294967295, api.ErrTime},
		{rolled, 60, 301, 100, 4294967295, api.ErrTime},
		{early, 60, 300, 100, 4294967295, api.ErrTime},
		{early, 60, 300, 100, 1058, api.OK},
		{early, 60, 300, 1000, 4294967295, api.OK},
		{early, 60, 300, 999, 1059, api.ErrTime},
		{removed, 60, 300, 100, 4294967295, api.ErrTime},
		{removed, 60, 300, 1060, 4294967295, api.OK},
		{removed, 60, 300, 1059, 1359, api.ErrTime},
		{removed, 60, 300, 1059, 1358, api.OK},
		{late, 60, 300, 100, 4294967295, api.ErrTime},
		{begin(0), 2147483647, 2147483647, 0, 4294967295, api.OK},
		{begin(7), 2147483647, 2147483647, 7, 4294967295, api.OK},
		{begin(7), 0, 0, 6, 6, api.ErrTime},
		{begin(4294967295), 0, 0, 4294967295, 4294967295, api.OK},
		{begin(4294967295), 1, 0, 4294967294, 4294967295, api.ErrTime},
		{nil, 0, 0, 5, 5, api.ErrTime},
		{nil, 2147483647, 2147483647, 0, 4294967295, api.ErrTime},
		// Of two that sign at a time each will do where it is told.
		{[]api.Timed{timed(0, 0, 0, 50, 60), timed(1, 40, 40, 100, 100)}, 10, 20, 0, 99, api.OK},
		{[]api.Timed{timed(0, 0, 0, 50, 60), timed(1, 40, 40, 100, 100)}, 11, 20, 0, 99, api.ErrTime},
		{[]api.Timed{timed(0, 0, 0, 50, 60), timed(1, 40, 40, 100, 100)}, 10, 21, 0, 99, api.ErrTime},
		{[]api.Timed{timed(0, 0, 0, 50, 60), timed(1, 40, 40, 100, 100)}, 10, 10, 0, 100, api.ErrTime},
	} {
		checkSafe(t, c.line, c.keyAge, c.setAge, c.from, c.to, c.want)
	}
	// Keys of 999 and a set of 1059.
	if a, b, e := signer.Safe(early, 60, 300, 999, 1059); a != 999 || b != 1059 || e != api.ErrTime {
		t.Errorf("P7.4 Safe of the example = %d, %d, %d", a, b, e)
	}
}

// chanceLine: a right line; its times are some from a time on.
func chanceLine(r *rand.Rand, from int) []api.Timed {
	var line []api.Timed
	for i := range r.Intn(5) {
		times := []int{0, 0, 0, 0}
		for j := range times {
			times[j] = min(from+r.Intn(30), api.Never)
		}
		slices.Sort(times)
		if r.Intn(3) == 0 {
			times[2], times[3] = api.Never, api.Never
		}
		if r.Intn(3) == 0 {
			times[0], times[1] = from, from
		}
		line = append(line, timed(i, times[0], times[1], times[2], times[3]))
	}
	return line
}

func TestSafeByChance(t *testing.T) {
	r := rand.New(rand.NewSource(74))
	safe, unsafe := 0, 0
	for range 20000 {
		base := []int{0, 1000, 4294967270}[r.Intn(3)]
		line := chanceLine(r, base)
		keyAge, setAge := r.Intn(12), r.Intn(12)
		from := base + r.Intn(26)
		to := min(from+r.Intn(26), api.MaxTime)
		want := api.OK
		for a := from; a <= to; a++ {
			for b := from; b <= to; b++ {
				if isGap(line, keyAge, setAge, a, b) {
					want = api.ErrTime
				}
			}
		}
		checkSafe(t, line, keyAge, setAge, from, to, want)
		if want == api.OK {
			safe++
		} else {
			unsafe++
		}
	}
	if min(safe, unsafe) < 1000 {
		t.Errorf("seen: %d safe, %d not", safe, unsafe)
	}
}

func TestRollExample(t *testing.T) {
	want := []api.Timed{timed(0, 100, 100, 1060, 1360), timed(1, 1000, 1060, api.Never, api.Never)}
	if got, e := signer.Roll(begin(100), key(1, 257), 1000, 60, 300); e != api.OK || !slices.Equal(got, want) {
		t.Errorf("P7.5 Roll = %+v, %d; wanted %+v", got, e, want)
	}
	// The key that signs without an end need not be the last one.
	line := []api.Timed{timed(0, 1, 2, 3, 4), timed(1, 2, 5, api.Never, api.Never), timed(2, 3, 3, 3, api.Never)}
	want = []api.Timed{timed(0, 1, 2, 3, 4), timed(1, 2, 5, 5, 5), timed(2, 3, 3, 3, api.Never), timed(3, 5, 5, api.Never, api.Never)}
	if got, e := signer.Roll(line, key(3, 257), 5, 0, 0); e != api.OK || !slices.Equal(got, want) {
		t.Errorf("P7.5 Roll = %+v, %d; wanted %+v", got, e, want)
	}
}

// The faults of Roll, as they are told one ahead of the other.
const (
	rollArg = iota
	rollForm
	rollKey
	rollTwice
	rollBusy
	rollTime
	rollMany
	rollFaults
)

// roll gives what Roll answers to something with faults.
func roll(wrong func(fault int) bool) ([]api.Timed, api.Errno) {
	line, next, now, keyAge, setAge := begin(50), key(1, 256), 50, 60, 300
	if wrong(rollMany) {
		line = append(line, slices.Repeat([]api.Timed{timed(2, 1, 2, 3, 4)}, 49)...)
	}
	if wrong(rollTime) {
		now = 4294967295
	}
	if wrong(rollBusy) {
		line[0].Publish, line[0].Active = 4294967296, 4294967296
	}
	if wrong(rollTwice) {
		line[0].Key = next
	}
	if wrong(rollKey) {
		next.Secret = 0
	}
	if wrong(rollForm) {
		line[0].Publish = -1
	}
	if wrong(rollArg) {
		keyAge = -1
	}
	return signer.Roll(line, next, now, keyAge, setAge)
}

func TestRollFaultsInOrder(t *testing.T) {
	codes := [rollFaults]api.Errno{api.ErrArg, api.ErrForm, api.ErrKey, api.ErrTwice, api.ErrBusy, api.ErrTime, api.ErrMany}
	for fault, want := range codes {
		if got, e := roll(func(f int) bool { return f == fault }); e != want || len(got) != 0 {
			t.Errorf("P7.5 Roll with the fault %d alone: %d; wanted %d", fault, e, want)
		}
		if got, e := roll(func(f int) bool { return f >= fault }); e != want || len(got) != 0 {
			t.Errorf("P7.5 Roll with the fault %d and all behind it: %d; wanted %d", fault, e, want)
		}
	}
	if got, e := roll(func(int) bool { return false }); e != api.OK || len(got) != 2 {
		t.Errorf("P7.5 Roll = %+v, %d", got, e)
	}
}

func TestRollEdges(t *testing.T) {
	twin := key(0, 257)
	twin.Secret++
	two := append(begin(5), timed(1, 0, 0, api.Never, api.Never))
	for _, c := range []struct {
		what                string
		line                []api.Timed
		next                api.Key
		now, keyAge, setAge int
		want                api.Errno
	}{
		{"ages", begin(5), key(1, 257), 5, 2147483648, 0, api.ErrArg},
		{"ages", begin(5), key(1, 257), 5, 0, 2147483648, api.ErrArg},
		{"ages", begin(5), key(1, 257), 5, 0, -1, api.ErrArg},
		{"the greatest ages", begin(5), key(1, 257), 5, 2147483647, 2147483643, api.OK},
		{"a second more", begin(5), key(1, 257), 5, 2147483647, 2147483644, api.ErrTime},
		{"a second more", begin(5), key(1, 257), 6, 2147483647, 2147483643, api.ErrTime},
		{"the last time", begin(5), key(1, 257), 4294967295, 0, 0, api.OK},
		{"behind it", begin(5), key(1, 257), 4294967296, 0, 0, api.ErrTime},
		{"far behind it", begin(5), key(1, 257), 9223372036854775807, 2147483647, 2147483647, api.ErrTime},
		{"before it signs", begin(5), key(1, 257), 4, 0, 0, api.ErrBusy},
		{"long before it signs", begin(0), key(1, 257), -9223372036854775808, 0, 0, api.ErrBusy},
		{"before another signs", append(begin(5), timed(2, 90, 91, 92, 93)), key(1, 257), 5, 0, 0, api.OK},
		{"no line", nil, key(1, 257), 5, 0, 0, api.ErrForm},
		{"none without an end", []api.Timed{timed(0, 0, 0, 4294967295, api.Never)}, key(1, 257), 5, 0, 0, api.ErrForm},
		{"two without an end", two, key(2, 257), 5, 0, 0, api.ErrForm},
		{"the key itself", begin(5), key(0, 257), 5, 0, 0, api.ErrTwice},
		{"its public", begin(5), twin, 5, 0, 0, api.ErrTwice},
		{"other flags", begin(5), key(0, 256), 5, 0, 0, api.OK},
		{"one that is gone", append(begin(5), timed(1, 0, 0, 1, 1)), key(1, 257), 5, 0, 0, api.ErrTwice},
		{"no key", begin(5), api.Key{}, 5, 0, 0, api.ErrKey},
		{"49 keys", append(slices.Repeat([]api.Timed{timed(2, 1, 2, 3, 4)}, 48), begin(5)...), key(1, 257), 5, 0, 0, api.OK},
		{"50 keys", append(slices.Repeat([]api.Timed{timed(2, 1, 2, 3, 4)}, 49), begin(5)...), key(1, 257), 5, 0, 0, api.ErrMany},
	} {
		if got, e := signer.Roll(c.line, c.next, c.now, c.keyAge, c.setAge); e != c.want || (e == api.OK) != (len(got) == len(c.line)+1) {
			t.Errorf("P7.5 Roll, %s: %d keys, %d; wanted %d", c.what, len(got), e, c.want)
		}
	}
	for what, line := range wrongLines() {
		if got, e := signer.Roll(line, key(3, 257), 5, 0, 0); e != api.ErrForm || len(got) != 0 {
			t.Errorf("P7.5 Roll, %s: %d; wanted ErrForm", what, e)
		}
	}
}

// spareKey gives a key that no other number has; it need not fit.
func spareKey(number int) api.Key {
	return api.Key{Flags: 257, Modulus: 1000 + number, Exponent: 3, Secret: 5}
}

// TestRolledIsSafe: a line that Roll alone changes is safe.
func TestRolledIsSafe(t *testing.T) {
	r := rand.New(rand.NewSource(76))
	ages := []int{0, 1, 2, 7, 30, 86400, 2147483647}
	busy, late, full := 0, 0, 0
	for round := range 1500 {
		keyAge, setAge := ages[r.Intn(len(ages))], ages[r.Intn(len(ages))]
		at := []int{0, 5, 1000, 4294967200}[r.Intn(4)]
		line := []api.Timed{{Key: spareKey(0), Publish: at, Active: at, Retire: api.Never, Remove: api.Never}}
		now := at
		for i := range 60 {
			next, e := signer.Roll(line, spareKey(i+1), now, keyAge, setAge)
			switch e {
			case api.OK:
				line = next
			case api.ErrBusy:
				busy++
			case api.ErrTime:
				late++
			case api.ErrMany:
				full++
			default:
				t.Fatalf("P7.5 Roll(%+v, .., %d, %d, %d) = %d", line, now, keyAge, setAge, e)
			}
			now += []int{0, 1, keyAge, keyAge + 1, keyAge + setAge, r.Intn(100)}[r.Intn(6)]
			if round%20 == 0 || i == 59 {
				checkSafe(t, line, keyAge, setAge, at, api.MaxTime, api.OK)
				checkSafe(t, line, keyAge, setAge, at, min(now, api.MaxTime), api.OK)
			}
		}
		if at > 0 {
			checkSafe(t, line, keyAge, setAge, at-1, api.MaxTime, api.ErrTime)
		}
	}
	if min(busy, late, full) < 100 {
		t.Errorf("seen: %d busy, %d late, %d full", busy, late, full)
	}
}

// TestLineMemory: what is handed in stays, spare room included; what comes out is new.
func TestLineMemory(t *testing.T) {
	line := append(begin(5), timed(1, 1, 2, 3, 4), api.Timed{})[:2]
	want := slices.Clone(line)
	base := plan()
	base.Keys = append(base.Keys, api.PlanKey{})[:1]
	p := signer.PlanAt(line, base, 5)
	rolled, e := signer.Roll(line, key(2, 257), 9, 1, 1)
	if e != api.OK || len(p.Keys) != 1 {
		t.Fatalf("Roll = %d, PlanAt = %+v", e, p)
	}
	clear(rolled)
	clear(p.Keys)
	p.Keys = append(p.Keys, idle(3, 257))
	signer.Safe(line, 1, 1, 0, 9)
	if !slices.Equal(line, want) || line[:3][2] != (api.Timed{}) {
		t.Errorf("P2: Roll, PlanAt or Safe changed the line, or share it: %+v", line)
	}
	if !slices.Equal(base.Keys, plan().Keys) || base.Keys[:2][1] != (api.PlanKey{}) {
		t.Errorf("P2: PlanAt changed the plan, or shares its keys: %+v", base)
	}
}
