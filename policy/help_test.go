package policy_test

import (
	"math/rand"
	"strconv"
	"strings"

	"gazetteer/api"
	"gazetteer/data"
	"gazetteer/master"
	"gazetteer/name"
)

// n gives the name that a text tells, within ex. if no dot is at its end.
func n(text string) string {
	wire, _, e := name.Read(text, "\x02ex\x00")
	if e != api.OK {
		panic(text)
	}
	return wire
}

// list gives the records of lines of a file of ex., of age 60 where none is
// told.
func list(lines ...string) []api.Record {
	records, f := master.Parse("$TTL 60\n"+strings.Join(lines, "\n"), n("ex."), nil)
	if f.Code != api.OK {
		panic(lines[f.Line-2])
	}
	return records
}

// told writes a record in one line.
func told(r api.Record) string {
	d, _ := data.Show(r.Type, r.Data)
	return name.Show(r.Owner) + " " + strconv.Itoa(r.TTL) + " " + data.TypeName(r.Type) + " " + d
}

func tell(records []api.Record) string {
	var texts []string
	for _, r := range records {
		texts = append(texts, told(r))
	}
	return strings.Join(texts, " | ")
}

// ip gives the bytes of an address that is written with dots or colons.
func ip(text string) string {
	typ := api.A
	if strings.Contains(text, ":") {
		typ = api.AAAA
	}
	d, _, e := data.Read(typ, []api.Word{{Text: text}}, api.Root)
	if e != api.OK {
		panic(text)
	}
	return d
}

// net gives the net that a text such as "10.0.0.0/8" tells.
func net(text string) api.Prefix {
	addr, bits, _ := strings.Cut(text, "/")
	return api.Prefix{Addr: ip(addr), Bits: number(bits)}
}

func number(word string) int {
	value, err := strconv.Atoi(word)
	if err != nil {
		panic(word)
	}
	return value
}

// dice: chance that is the same each time.
type dice struct{ *rand.Rand }

func newDice(seed int64) dice { return dice{rand.New(rand.NewSource(seed))} }

func (d dice) number(of ...int) int { return of[d.Intn(len(of))] }

func (d dice) oneOf(texts ...string) string { return texts[d.Intn(len(texts))] }

// bytes gives so many, of few kinds, so that some are the same.
func (d dice) bytes(size int) string {
	b := make([]byte, size)
	for i := range b {
		b[i] = byte(d.number(0, 0, 1, 127, 128, 255))
	}
	return string(b)
}

// name gives one of few labels, in letters of chance.
func (d dice) name() string {
	text := ""
	for range d.Intn(4) {
		text += d.oneOf("a", "A", "b", "B", "ab", "*") + "."
	}
	if text == "" {
		text = "."
	}
	return n(text)
}
