package update

import (
	"strings"

	"gazetteer/api"
	"gazetteer/spell"
)

// How many bytes numbers have in a step. (All records are of class IN.)
const (
	countSize = 4
	typeSize  = 2
	ageSize   = 4
	sizeSize  = 2
)

// text: a step as bytes.
func (s step) text() string {
	var b strings.Builder
	for _, list := range [][]api.Record{s.goes, s.comes} {
		b.WriteString(spell.Bytes(len(list), countSize))
		for _, r := range list {
			writeRecord(&b, r)
		}
	}
	return b.String()
}

func writeRecord(b *strings.Builder, r api.Record) {
	b.WriteString(spell.Bytes(r.Type, typeSize))
	b.WriteString(spell.Bytes(r.TTL, ageSize))
	for _, text := range []string{r.Owner, r.Data} {
		b.WriteString(spell.Bytes(len(text), sizeSize))
		b.WriteString(text)
	}
}

// reader: what is left of a step's text. Where that isn't what it must be, a
// fault is thrown, which Open catches.
type reader struct{ rest []byte }

type fault struct{}

// isFault: was one caught?
func isFault(caught any) bool {
	switch caught.(type) {
	case nil:
		return false
	case fault:
		return true
	}
	// Nothing else is thrown here: to keep it back would hide a mistake.
	panic(caught)
}

func readStep(text []byte) step {
	r := &reader{text}
	s := step{goes: r.records(), comes: r.records()}
	if len(r.rest) > 0 {
		panic(fault{})
	}
	return s
}

func (r *reader) take(size int) string {
	if size > len(r.rest) {
		panic(fault{})
	}
	taken := string(r.rest[:size])
	r.rest = r.rest[size:]
	return taken
}

func (r *reader) number(size int) int { return spell.Value(r.take(size)) }

func (r *reader) text() string { return r.take(r.number(sizeSize)) }

func (r *reader) records() []api.Record {
	var list []api.Record
	for range r.number(countSize) {
		list = append(list, r.record())
	}
	return list
}

func (r *reader) record() api.Record {
	return api.Record{Class: api.IN, Type: r.number(typeSize), TTL: r.number(ageSize), Owner: r.text(), Data: r.text()}
}
