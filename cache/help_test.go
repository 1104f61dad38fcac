package cache_test

import (
	"strconv"
	"strings"
	"testing"

	"gazetteer/api"
	"gazetteer/cache"
	"gazetteer/data"
	"gazetteer/master"
	"gazetteer/name"
)

// n gives the name that a text tells, within ex. if no dot is at its end.
func n(text string) string {
	wire, _, e := name.Read(text, "\x02ex\x00")
	if e != api.OK {
		panic(text)
	}
	return wire
}

// list gives the records of lines of a file of ex., of age 60 where none is
// told.
func list(lines ...string) []api.Record {
	records, f := master.Parse("$TTL 60\n"+strings.Join(lines, "\n"), n("ex."), nil)
	if f.Code != api.OK {
		panic(lines[f.Line-2])
	}
	return records
}

// soaOf gives that of a zone, with an age and a minimum.
func soaOf(zone string, age, minimum int) api.Record {
	return list(zone + " " + strconv.Itoa(age) + " SOA ns h 1 2 3 4 " + strconv.Itoa(minimum))[0]
}

func newCache(most int) *cache.Cache {
	c, e := cache.New(most)
	if e != api.OK {
		panic("no cache of " + strconv.Itoa(most))
	}
	return c
}

// said: how tests write an error.
func said(e api.Errno) string {
	switch e {
	case api.OK:
		return "ok"
	case api.ErrName:
		return "ErrName"
	case api.ErrType:
		return "ErrType"
	case api.ErrForm:
		return "ErrForm"
	case api.ErrSoa:
		return "ErrSoa"
	case api.ErrArg:
		return "ErrArg"
	case api.ErrNone:
		return "ErrNone"
	case api.ErrOld:
		return "ErrOld"
	}
	return strconv.Itoa(int(e))
}

// told writes a record in one line.
func told(r api.Record) string {
	d, _ := data.Show(r.Type, r.Data)
	return name.Show(r.Owner) + " " + strconv.Itoa(r.TTL) + " " + data.TypeName(r.Type) + " " + d
}

func tell(records []api.Record) string {
	var texts []string
	for _, r := range records {
		texts = append(texts, told(r))
	}
	return strings.Join(texts, " | ")
}

// tellKnown: how tests write what is known: "set 3: www.ex. 60 A 10.0.0.1".
func tellKnown(k api.Known) string {
	word := "kind " + strconv.Itoa(k.Kind)
	if 0 <= k.Kind && k.Kind <= 4 {
		word = []string{"nothing", "set", "alias", "no data", "no name"}[k.Kind]
	}
	if k.Rank != 0 || len(k.Records) > 0 {
		word += " " + strconv.Itoa(k.Rank) + ": " + tell(k.Records)
	}
	return word
}

func number(word string) int {
	value, err := strconv.Atoi(word)
	if err != nil {
		panic(word)
	}
	return value
}

// typ gives a type's number; that of "-" is 0.
func typ(word string) int {
	if word == "-" {
		return 0
	}
	return data.TypeOf(word)
}

// do makes a call that is written in a line, and writes what it answers:
//
//	put RANK NOW LINE | LINE ..
//	deny NOW NAME TYPE AGE MINIMUM ZONE
//	prove NOW APEX LINE | LINE ..
//	look NOW NAME TYPE
//	size NOW
func do(c *cache.Cache, line string) string {
	words := strings.Split(line, " ")
	lines := func(from int) []api.Record { return list(strings.Split(strings.Join(words[from:], " "), " | ")...) }
	switch words[0] {
	case "put":
		return said(c.Put(lines(3), number(words[1]), number(words[2])))
	case "deny":
		soa := soaOf(words[6], number(words[4]), number(words[5]))
		return said(c.Deny(n(words[2]), typ(words[3]), soa, number(words[1])))
	case "prove":
		return said(c.Prove(n(words[2]), lines(3), number(words[1])))
	case "look":
		return tellKnown(c.Look(n(words[2]), typ(words[3]), number(words[1])))
	case "size":
		return strconv.Itoa(c.Size(number(words[1])))
	}
	panic(line)
}

// run makes calls one behind the other, each in a line with what it answers.
func run(t *testing.T, promise string, c *cache.Cache, lines ...string) {
	t.Helper()
	for i, line := range lines {
		call, want, ok := strings.Cut(line, " => ")
		if !ok {
			panic(line)
		}
		if got := do(c, call); got != want {
			t.Errorf("%s: %s\n%s: %s", promise, strings.Join(lines[:i], "\n"), line, got)
			return
		}
	}
}
