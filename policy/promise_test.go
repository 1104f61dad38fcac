package policy_test

import (
	"math"
	"reflect"
	"slices"
	"strings"
	"testing"

	"gazetteer/api"
	"gazetteer/policy"
)

// roomy gives a list with room behind its end, and something in it.
func roomy(records []api.Record) []api.Record {
	room := make([]api.Record, 0, len(records)+3)
	room = append(room, records...)
	behind := room[:cap(room)]
	for i := len(records); i < len(behind); i++ {
		behind[i] = api.Record{Owner: "behind"}
	}
	return room
}

// isUntouched: is the list, with the room behind it, as roomy gave it?
func isUntouched(list, records []api.Record) bool {
	return slices.Equal(list[:cap(list)], roomy(records)[:len(records)+3])
}

// spoil puts something else over a list, and over the room behind it.
func spoil(list []api.Record) {
	for i := range list[:cap(list)] {
		list[:cap(list)][i] = api.Record{Owner: "spoiled"}
	}
}

// TestFilterShared: an answer that is handed in isn't changed, and what is done
// later with it isn't seen in what came out; nor the other way.
func TestFilterShared(t *testing.T) {
	for _, text := range []string{"pass www", "drop www", "noname www", "nodata www", "say www A 10.9.9.9", "pass other"} {
		rule, m, answer := rules(text), question("www", api.A), full()
		ruleBefore, mBefore := slices.Clone(rule), question("www", api.A)
		answer.Answers, answer.Authority, answer.Additional = roomy(answer.Answers), roomy(answer.Authority), roomy(answer.Additional)
		answer.Questions = slices.Grow(answer.Questions, 3)
		given := full()

		got, ok := policy.Filter(rule, m, answer)
		again, _ := policy.Filter(rule, m, answer)
		if !slices.Equal(rule, ruleBefore) || !reflect.DeepEqual(m, mBefore) || !isLike(answer, given) ||
			!isUntouched(answer.Answers, given.Answers) || !isUntouched(answer.Authority, given.Authority) || !isUntouched(answer.Additional, given.Additional) {
			t.Errorf("P2 %s: what was handed in was changed", text)
		}
		for _, list := range [][]api.Record{answer.Answers, answer.Authority, answer.Additional} {
			spoil(list)
		}
		clear(answer.Questions[:cap(answer.Questions)])
		clear(m.Questions)
		clear(rule)
		if want, may := modelFilter(rules(text), question("www", api.A), full()); !isLike(got, want) || ok != may {
			t.Errorf("P2 %s: what was handed in is seen later: %+v", text, got)
		}
		for _, list := range [][]api.Record{got.Answers, got.Authority, got.Additional} {
			spoil(list)
		}
		clear(got.Questions[:cap(got.Questions)])
		if want, _ := modelFilter(rules(text), question("www", api.A), full()); !isLike(again, want) {
			t.Errorf("P2 %s: two answers share memory: %+v", text, again)
		}
	}
}

// TestServicesShared: the same of sets and rolls.
func TestServicesShared(t *testing.T) {
	rolls := []int{99, 5, -7, 0}
	srv, naptr := servers("20 1", "10 60", "10 40", "10 0"), rewritings("20 1 sip", "10 2 SIP", "10 1 sip", "10 1 http")
	for _, c := range []struct {
		given []api.Record
		call  func(set []api.Record) ([]api.Record, api.Errno)
		want  string
	}{
		{srv, func(set []api.Record) ([]api.Record, api.Errno) { return policy.Order(set, rolls) }, "2 1 3 0"},
		{srv[:1], func(set []api.Record) ([]api.Record, api.Errno) { return policy.Order(set, rolls) }, "0"},
		{naptr, func(set []api.Record) ([]api.Record, api.Errno) { return policy.Rewrites(set, "sip") }, "2 1"},
		{naptr, func(set []api.Record) ([]api.Record, api.Errno) { return policy.Rewrites(set, "") }, "2 3 1"},
	} {
		set := roomy(c.given)
		got, _ := c.call(set)
		other, _ := c.call(set)
		if !isUntouched(set, c.given) || !slices.Equal(rolls, []int{99, 5, -7, 0}) {
			t.Error("P2: what was handed in was changed")
		}
		spoil(set)
		if places(c.given, got) != c.want {
			t.Errorf("P2: %s; wanted %s", places(c.given, got), c.want)
		}
		spoil(got)
		if places(c.given, other) != c.want {
			t.Errorf("P2: two answers share memory: %s; wanted %s", places(c.given, other), c.want)
		}
	}
}

// TestAddressesShared: nets and views aren't changed.
func TestAddressesShared(t *testing.T) {
	given := views("10.0.0.0/8 2001:db8::/32", "0.0.0.0/0")
	for _, from := range []string{ip("10.1.1.1"), ip("::"), ip("11.1.1.1"), "x"} {
		policy.Choose(given, from)
	}
	if !reflect.DeepEqual(given, views("10.0.0.0/8 2001:db8::/32", "0.0.0.0/0")) {
		t.Error("P2: views were changed")
	}
}

// TestAnything: no call panics, whatever it is given.
func TestAnything(t *testing.T) {
	t.Parallel()
	d := newDice(159)
	number := func() int {
		return d.number(math.MinInt, math.MinInt+1, -65536, -1, 0, 1, 2, 3, 4, 5, 33, 35, 41, 46, 128, 255, 65535, 65536, api.MaxTTL, api.MaxTTL+1, math.MaxInt)
	}
	text := func() string {
		switch d.Intn(4) {
		case 0:
			return d.name()
		case 1:
			return d.bytes(d.Intn(20))
		case 2:
			return oneRecord(d.oneOf("SRV 1 2 3 a", "SRV 0 65535 3 .", `NAPTR 1 2 a b c .`, "A 10.0.0.1")).Data
		}
		return d.oneOf("", "\x00", "\x01a", "\x3f", "\xc0\x0c", "ex.", "\x01a\x00\x00", strings.Repeat("\x00", 65536))
	}
	records := func() []api.Record {
		list := make([]api.Record, d.Intn(4))
		owner, typ := d.name(), d.number(33, 35, number())
		for i := range list {
			list[i] = api.Record{Owner: owner, Type: typ, Class: d.number(1, 1, 1, number()), TTL: d.number(0, 60, number()), Data: text()}
		}
		return list
	}
	for range 5000 {
		p := api.Prefix{Addr: text(), Bits: number()}
		policy.Inside(p, text())
		policy.Choose([]api.View{{}, {Nets: []api.Prefix{p, {}}}}, text())
		list := []api.Rule{{}, {Name: text(), Below: d.Intn(2) == 0, Kind: number(), Type: number(), TTL: number(), Data: text()}, d.rule()}
		policy.Rule(list, text())
		m := api.Message{Questions: []api.Question{{Name: text(), Type: number(), Class: number()}, {}}[:d.Intn(3)]}
		policy.Filter(list, m, api.Message{Rcode: number(), Answers: records(), Additional: records()})
		policy.Order(records(), []int{number(), number()})
		policy.Rewrites(records(), text())
		if l, e := policy.NewLimiter(number(), number()); e == api.OK {
			for range 5 {
				l.Allow(text(), number())
			}
		}
	}
}
