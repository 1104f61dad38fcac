package trust_test

import (
	"slices"
	"strconv"
	"strings"
	"sync"
	"testing"

	"gazetteer/api"
	"gazetteer/data"
	"gazetteer/master"
	"gazetteer/name"
	"gazetteer/seal"
	"gazetteer/trust"
)

// n gives the name that a text tells.
func n(text string) string {
	wire, _, e := name.Read(text, api.Root)
	if e != api.OK {
		panic(text)
	}
	return wire
}

func number(word string) int {
	value, err := strconv.Atoi(word)
	if err != nil {
		panic(word)
	}
	return value
}

// keyCount: how many keys there are for tests, from 1 on.
const keyCount = 12

// keys: all of them, made once. (The first stands for none.)
var keys = sync.OnceValue(func() []api.Key {
	list := []api.Key{{}}
	for i := 1; i <= keyCount; i++ {
		list = append(list, newKey(i))
	}
	return list
})

// key gives the one with a number.
func key(number int) api.Key { return keys()[number] }

func newKey(number int) api.Key {
	primes := []int{
		0, 0, 10007, 10009, 10037, 10039, 10061, 10067, 10069, 10079, 10091, 10093, 10099, 10103,
		10111, 10133, 10139, 10141, 10151, 10159, 10163, 10169, 10177, 10181, 10193, 10211,
	}
	flags := api.ZoneKey + number%2
	for e := 3; e < 100; e += 2 {
		if k, fault := seal.NewKey(primes[2*number], primes[2*number+1], e, flags); fault == api.OK {
			return k
		}
	}
	panic(number)
}

func public(number int) string { return seal.Public(key(number)) }

// ds gives the data of the DS of a key as one of a zone.
func ds(zone string, number int) string {
	d, e := seal.Ds(n(zone), public(number))
	if e != api.OK {
		panic(zone)
	}
	return d
}

const (
	salt   = "\xab\xcd"
	rounds = 3
)

// hash gives a name's, by the salt and rounds of these tests.
func hash(n string) string {
	h, e := seal.Hash(n, salt, rounds)
	if e != api.OK {
		panic(n)
	}
	return h
}

// near gives the hash that comes right ahead of one (-1) or behind it (1).
func near(hash string, by int) string {
	b := []byte(hash)
	b[len(b)-1] += byte(by)
	if by > 0 && b[len(b)-1] == 0 || by < 0 && b[len(b)-1] == 255 {
		panic("the byte goes round")
	}
	return string(b)
}

// nsec3 gives one of a zone with its own hash and the next, and types.
func nsec3(zone, own, next string, types []string) api.Record {
	var numbers []int
	for _, word := range types {
		numbers = append(numbers, data.TypeOf(word))
	}
	d := "\x01\x00\x00" + string([]byte{rounds, byte(len(salt))}) + salt + string([]byte{byte(len(next))}) + next + data.Set(numbers)
	label := data.To32(own)
	return record(string([]byte{byte(len(label))})+label+zone, api.NSEC3, d)
}

func record(owner string, t int, d string) api.Record {
	return api.Record{Owner: owner, Type: t, Class: api.IN, TTL: 60, Data: d}
}

// set gives the records that words tell: an owner, a type, and data with a
// comma between each two of them. Beside the types of files there are
//
//	keys NUMBER ..           the DNSKEY of these keys
//	ds NUMBER ..             their DS
//	at ZONE TYPE ..          the NSEC3 of a zone that matches the owner
//	over ZONE TYPE ..        the NSEC3 of a zone that covers the owner
func set(text string) []api.Record {
	words := strings.Fields(text)
	owner, rest := n(words[0]), words[2:]
	var list []api.Record
	switch words[1] {
	case "keys":
		for _, word := range rest {
			list = append(list, record(owner, api.DNSKEY, public(number(word))))
		}
	case "ds":
		for _, word := range rest {
			list = append(list, record(owner, api.DS, ds(words[0], number(word))))
		}
	case "at":
		own := hash(owner)
		list = append(list, nsec3(n(rest[0]), own, near(near(own, 1), 1), rest[1:]))
	case "over":
		list = append(list, nsec3(n(rest[0]), near(hash(owner), -1), near(hash(owner), 1), rest[1:]))
	default:
		for _, d := range strings.Split(strings.Join(rest, " "), ",") {
			records, f := master.Parse(words[0]+" 60 "+words[1]+" "+d, api.Root, nil)
			if f.Code != api.OK {
				panic(text)
			}
			list = append(list, records...)
		}
	}
	return list
}

// signature gives the RRSIG of a set as words tell it: a zone and a key, and
//
//	@FROM-UNTIL   other times than 100 to 200
//	~LABELS       that of the star's set that stands for it
func signature(set []api.Record, words []string) api.Record {
	from, until := 100, 200
	owner := set[0].Owner
	signed := slices.Clone(set)
	for _, word := range words[2:] {
		if times, ok := strings.CutPrefix(word, "@"); ok {
			a, b, _ := strings.Cut(times, "-")
			from, until = number(a), number(b)
		} else {
			labels := number(strings.TrimPrefix(word, "~"))
			for i := range signed {
				signed[i].Owner = name.Star(name.Tail(owner, labels))
			}
		}
	}
	sig, e := seal.Sign(key(number(words[1])), n(words[0]), signed, from, until)
	if e != api.OK {
		panic(strings.Join(words, " ") + " doesn't sign " + tell(set))
	}
	sig.Owner = owner
	return sig
}

// bag gives the records of lines: a set, and behind each " / " a signature.
func bag(lines ...string) []api.Record {
	var list []api.Record
	for _, line := range lines {
		parts := strings.Split(line, " / ")
		records := set(parts[0])
		list = append(list, records...)
		for _, part := range parts[1:] {
			list = append(list, signature(records, strings.Fields(part)))
		}
	}
	return list
}

// anchors gives those of a text: zones and keys.
func anchors(text string) []api.Anchor {
	words := strings.Fields(text)
	var list []api.Anchor
	for pair := range slices.Chunk(words, 2) {
		list = append(list, api.Anchor{Zone: n(pair[0]), Ds: ds(pair[0], number(pair[1]))})
	}
	return list
}

// chain: the lines of a bag in which the root leads to ex.
func chain(more ...string) []string {
	return append([]string{
		". keys 1 2 / . 1",
		"ex. ds 3 / . 2",
		"ex. keys 3 4 / ex. 3",
		"www.ex. A 10.0.0.1 / ex. 4",
	}, more...)
}

// without gives the lines but those that begin so.
func without(lines []string, begin string) []string {
	left := slices.DeleteFunc(slices.Clone(lines), func(line string) bool { return strings.HasPrefix(line, begin) })
	if len(left) == len(lines) {
		panic("there is no " + begin)
	}
	return left
}

// instead gives the lines, the one that begins so being another.
func instead(lines []string, begin, other string) []string {
	lines = slices.Clone(lines)
	lines[slices.IndexFunc(lines, func(line string) bool { return strings.HasPrefix(line, begin) })] = other
	return lines
}

func tell(records []api.Record) string {
	var texts []string
	for _, r := range records {
		d, _ := data.Show(r.Type, r.Data)
		texts = append(texts, name.Show(r.Owner)+" "+data.TypeName(r.Type)+" "+d)
	}
	return strings.Join(texts, " | ")
}

func tellStatus(status int) string {
	if status < 0 || status > 3 {
		return strconv.Itoa(status)
	}
	return []string{"none", "secure", "insecure", "bogus"}[status]
}

// tellKey: the number of a key, or its data as they are written.
func tellKey(d string) string {
	for i := 1; i <= keyCount; i++ {
		if public(i) == d {
			return strconv.Itoa(i)
		}
	}
	text, _ := data.Show(api.DNSKEY, d)
	return "(" + text + ")"
}

// tellTrust: "secure ex. 3 4".
func tellTrust(w api.Trust) string {
	text := tellStatus(w.Status)
	if w.Zone != "" {
		text += " " + name.Show(w.Zone)
	}
	for _, d := range w.Keys {
		text += " " + tellKey(d)
	}
	return text
}

func tellProof(proof int) string {
	if proof < 0 || proof > 2 {
		return strconv.Itoa(proof)
	}
	return []string{"nothing", "no name", "no data"}[proof]
}

// do makes a call that is written in a line, and writes what it answers. The
// time is 150, if none is told ahead of it:
//
//	walk NAME TYPE
//	judge SET
//	absent NAME TYPE
func do(anchors []api.Anchor, bag []api.Record, line string) string {
	now := 150
	if ahead, rest, ok := strings.Cut(line, ": "); ok {
		now, line = number(ahead), rest
	}
	call, rest, _ := strings.Cut(line, " ")
	words := strings.Fields(rest)
	switch call {
	case "walk":
		return tellTrust(trust.Walk(anchors, bag, n(words[0]), data.TypeOf(words[1]), now))
	case "judge":
		return tellStatus(trust.Judge(anchors, bag, set(rest), now))
	case "absent":
		status, proof := trust.Absent(anchors, bag, n(words[0]), data.TypeOf(words[1]), now)
		return tellStatus(status) + " " + tellProof(proof)
	}
	panic(line)
}

// check makes calls, each with " => " and what it has to answer behind it.
func check(t *testing.T, anchors []api.Anchor, bag []api.Record, calls ...string) {
	t.Helper()
	given := slices.Clone(bag)
	for _, line := range calls {
		call, want, ok := strings.Cut(line, " => ")
		if !ok {
			panic(line)
		}
		if got := do(anchors, bag, call); got != want {
			t.Errorf("%s => %s; wanted %s\nof %s", call, got, want, tell(bag))
		}
	}
	if !slices.Equal(given, bag) {
		t.Errorf("P2: the bag was changed: %s", tell(given))
	}
}

// run does so with an anchor of the root and a bag of lines.
func run(t *testing.T, lines []string, calls ...string) {
	t.Helper()
	check(t, anchors(". 1"), bag(lines...), calls...)
}
