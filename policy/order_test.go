package policy_test

import (
	"math"
	"slices"
	"strconv"
	"strings"
	"testing"

	"gazetteer/api"
	"gazetteer/data"
	"gazetteer/policy"
)

// servers gives the SRV that texts of a priority and a weight tell, such as
// "10 60": the first one's target is t0.ex., the second one's t1.ex.
func servers(texts ...string) []api.Record {
	var lines []string
	for i, text := range texts {
		lines = append(lines, "_a._b "+strconv.Itoa(60+i)+" SRV "+text+" 80 t"+strconv.Itoa(i))
	}
	return list(lines...)
}

// places tells at which places of a set the records of a list stand.
func places(set, list []api.Record) string {
	text := ""
	for _, r := range list {
		text += " " + strconv.Itoa(slices.Index(set, r))
	}
	return strings.TrimPrefix(text, " ")
}

func TestOrder(t *testing.T) {
	pair := servers("10 60", "10 40")
	three := servers("10 10", "10 20", "10 30")
	bare := servers("10 5", "10 0", "10 7", "10 0")
	mixed := servers("20 5", "10 1", "65535 0", "0 65535", "20 0", "10 3", "0 0", "65535 65535")
	for _, c := range []struct {
		set   []api.Record
		rolls []int
		want  string
	}{
		{pair, []int{50}, "0 1"},
		{pair, []int{70}, "1 0"},
		{pair, []int{0}, "0 1"},
		{pair, []int{60}, "0 1"}, // at least
		{pair, []int{61}, "1 0"},
		{pair, []int{100}, "1 0"},
		{pair, []int{101}, "0 1"}, // mod 101
		{pair, []int{101 + 61}, "1 0"},
		{pair, nil, "0 1"},
		{pair, []int{}, "0 1"},
		{pair, []int{-1}, "0 1"},  // counts as 0
		{pair, []int{-61}, "0 1"}, // as 60
		{pair, []int{-62}, "1 0"}, // as 61
		{pair, []int{-102}, "0 1"},
		{pair, []int{math.MaxInt}, "1 0"}, // 9223372036854775807 mod 101 is 89
		{pair, []int{math.MinInt}, "1 0"}, // counts as the same
		{pair, []int{70, 70, 70, 70}, "1 0"},
		{three, []int{10, 20}, "0 1 2"},
		{three, []int{11, 0}, "1 0 2"},
		{three, []int{30, 10}, "1 0 2"},
		{three, []int{30, 11}, "1 2 0"},
		{three, []int{31, 10}, "2 0 1"},
		{three, []int{31, 11}, "2 1 0"},
		{three, []int{60, 30}, "2 1 0"},
		{three, []int{60, 31}, "2 0 1"}, // of 30 that are left: mod 31
		{three, []int{60}, "2 0 1"},     // 0 when no roll is left
		{three, []int{0, 50}, "0 2 1"},
		{three, []int{0, 51}, "0 1 2"},
		{bare, nil, "1 3 0 2"}, // those of weight 0 first
		{bare, []int{1}, "0 1 3 2"},
		{bare, []int{5, 0, 1}, "0 1 2 3"},
		{bare, []int{6, 1, 0}, "2 0 1 3"},
		{bare, []int{12, 5}, "2 0 1 3"},
		{bare, []int{13, 13, 8}, "1 3 2 0"}, // 0, 0, 8
		{mixed, nil, "6 3 1 5 4 0 2 7"},
		{mixed, []int{1, 9, 2, 0, 5, 0, 65535}, "3 6 5 1 0 4 7 2"}, // a roll for each one, the last ones of a priority too
		{mixed, []int{0, 0, 0, 0, 0, 0, 65536}, "6 3 1 5 4 0 2 7"},
		{servers("5 0", "5 0", "5 0"), []int{7, 8, 9}, "0 1 2"}, // mod 1
		{servers("1 0", "0 0"), nil, "1 0"},
		{servers("65535 0", "0 0"), nil, "1 0"},
		{servers("256 0", "255 0"), nil, "1 0"},
		{servers("0 65535", "0 65535"), []int{65535}, "0 1"},
		{servers("0 65535", "0 65535"), []int{65536}, "1 0"},
		{servers("0 65535", "0 65535"), []int{131070}, "1 0"},
		{servers("0 65535", "0 65535"), []int{131071}, "0 1"},
		{servers("0 0"), []int{3}, "0"},
	} {
		got, e := policy.Order(c.set, c.rolls)
		if places(c.set, got) != c.want || e != api.OK {
			t.Errorf("P15.7 Order(%s, %d) = %s, %d; wanted %s", tell(c.set), c.rolls, places(c.set, got), e, c.want)
		}
	}
}

// TestOrderRoot: one server alone whose name is the root is none; among others
// it is one like others.
func TestOrderRoot(t *testing.T) {
	for _, c := range []struct {
		lines []string
		want  string
	}{
		{[]string{"s SRV 0 0 0 ."}, ""},
		{[]string{"s SRV 10 60 80 ."}, ""},
		{[]string{"s SRV 0 0 0 a"}, "0"},
		{[]string{". SRV 0 0 0 a"}, "0"}, // the owner may be the root
		{[]string{"s SRV 10 0 0 .", "s SRV 5 0 0 ."}, "1 0"},
		{[]string{"s SRV 10 0 0 .", "s SRV 20 0 0 a"}, "0 1"},
	} {
		set := list(c.lines...)
		if got, e := policy.Order(set, nil); places(set, got) != c.want || e != api.OK {
			t.Errorf("P15.7 Order(%s) = %s, %d; wanted %s", tell(set), tell(got), e, c.want)
		}
	}
}

// TestOrderAsIs: records come out as they stand, and others' letters and ages
// don't matter.
func TestOrderAsIs(t *testing.T) {
	set := list("S 0 SRV 2 0 80 A", "s.EX. 2147483647 SRV 1 0 80 b", "s 5 SRV 1 0 80 a")
	if got, e := policy.Order(set, nil); places(set, got) != "1 2 0" || e != api.OK {
		t.Errorf("P15.7 Order(%s) = %s, %d", tell(set), tell(got), e)
	}
}

// noSets gives what is no set of SRV or NAPTR: of a line's data, changed.
func noSets(line string) [][]api.Record {
	with := func(change func(r *api.Record)) []api.Record {
		set := list("s "+line, "s "+strings.Replace(line, "10 ", "11 ", 1))
		change(&set[1])
		return set
	}
	return [][]api.Record{
		nil,
		{},
		{{}},
		list("s A 10.0.0.1"),
		list("s "+line, "s A 10.0.0.1"),
		list("s A 10.0.0.1", "s "+line),
		list("s "+line, "t "+line), // two owners
		list("s "+line, "s "+line), // twice the same
		list("s "+line, "S 70 "+strings.Replace(line, "name", "NAME", 1)),
		with(func(r *api.Record) { r.Class = 3 }),
		with(func(r *api.Record) { r.Class = api.ClsAny }),
		with(func(r *api.Record) { r.TTL = -1 }),
		with(func(r *api.Record) { r.TTL = api.MaxTTL + 1 }),
		with(func(r *api.Record) { r.Owner = "s" }),
		with(func(r *api.Record) { r.Owner += "\x00" }),
		with(func(r *api.Record) { r.Type = 0 }),
		with(func(r *api.Record) { r.Type = api.RRSIG }),
		with(func(r *api.Record) { r.Data = "" }),
		with(func(r *api.Record) { r.Data = r.Data[:1] }),
		with(func(r *api.Record) { r.Data = r.Data[:3] }),
		with(func(r *api.Record) { r.Data = r.Data[:len(r.Data)-1] }),
		with(func(r *api.Record) { r.Data += "\x00" }),
		with(func(r *api.Record) { *r = api.Record{} }),
		with(func(r *api.Record) { r.Data = strings.Repeat("\x00", 65536) }),
	}
}

func TestOrderWrong(t *testing.T) {
	sets := append(noSets("SRV 10 5 80 name"), list("s NAPTR 10 5 s sip \"\" ."), list("s TYPE32 \\# 0"), list("s MX 10 ."))
	for _, set := range sets {
		if got, e := policy.Order(set, []int{1, 2}); got != nil || e != api.ErrForm {
			t.Errorf("P15.7 Order(%+v) = %+v, %d", set, got, e)
		}
	}
}

// drawn: a second reckoning of the order of servers, one priority behind the
// other, each drawing from the words of the records.
func drawn(set []api.Record, rolls []int) []api.Record {
	number := func(r api.Record, word int) int {
		text, _ := data.Show(r.Type, r.Data)
		value, _ := strconv.Atoi(strings.Fields(text)[word])
		return value
	}
	var priorities []int
	for _, r := range set {
		priorities = append(priorities, number(r, 0))
	}
	slices.Sort(priorities)
	var out []api.Record
	for _, priority := range slices.Compact(priorities) {
		var left, weighty []api.Record
		for _, r := range set {
			if number(r, 0) == priority && number(r, 1) == 0 {
				left = append(left, r)
			} else if number(r, 0) == priority {
				weighty = append(weighty, r)
			}
		}
		left = append(left, weighty...)
		for len(left) > 0 {
			roll, sum := 0, 0
			if len(rolls) > 0 {
				roll, rolls = rolls[0], rolls[1:]
			}
			if roll < 0 {
				roll = -(roll + 1)
			}
			for _, r := range left {
				sum += number(r, 1)
			}
			roll %= sum + 1
			for i, r := range left {
				roll -= number(r, 1)
				if roll <= 0 {
					out = append(out, r)
					left = slices.Delete(left, i, i+1)
					break
				}
			}
		}
	}
	return out
}

func TestOrderAgain(t *testing.T) {
	t.Parallel()
	d := newDice(157)
	turned := 0
	for range 3000 {
		var texts []string
		for range 1 + d.Intn(9) {
			texts = append(texts, strconv.Itoa(d.number(0, 10, 10, 20, 65535))+" "+strconv.Itoa(d.number(0, 0, 1, 5, 60, 65535)))
		}
		var rolls []int
		for range d.Intn(10) {
			rolls = append(rolls, d.number(0, 1, d.Intn(140), d.Intn(200000), -d.Intn(140), d.Int(), -d.Int()))
		}
		set := servers(texts...)
		got, e := policy.Order(set, rolls)
		if want := drawn(set, rolls); !slices.Equal(got, want) || e != api.OK {
			t.Fatalf("P15.7 Order(%s, %d) = %s, %d; wanted %s", tell(set), rolls, places(set, got), e, places(set, want))
		}
		if !slices.Equal(got, drawn(set, nil)) {
			turned++
		}
	}
	if turned < 500 {
		t.Errorf("rolls turned %d orders of 3000", turned)
	}
}

// TestOrderMany: a set as great as zones have them.
func TestOrderMany(t *testing.T) {
	var texts []string
	for i := range 2000 {
		texts = append(texts, strconv.Itoa(i%2)+" "+strconv.Itoa(i%7))
	}
	set := servers(texts...)
	got, e := policy.Order(set, []int{5000, 17, -9})
	if e != api.OK || len(got) != len(set) || !slices.Equal(got, drawn(set, []int{5000, 17, -9})) {
		t.Errorf("P15.7: %d of %d, %d", len(got), len(set), e)
	}
}
