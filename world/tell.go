package world

import (
	"strconv"
	"strings"

	"gazetteer/api"
	"gazetteer/auth"
	"gazetteer/data"
	"gazetteer/master"
	"gazetteer/name"
	"gazetteer/policy"
	"gazetteer/seal"
	"gazetteer/spell"
	"gazetteer/trust"
)

// Commands that tell what servers have, and what is said and believed of it.

func (o *order) show() ([]string, api.Errno) {
	z := o.server.newestOf(o.apex)
	if z == nil {
		return nil, api.ErrNone
	}
	text, e := master.Print(z.Records(), o.apex)
	if e != api.OK {
		return nil, e
	}
	return strings.Split(strings.TrimSuffix(text, "\n"), "\n"), api.OK
}

// The question's ID, and the OPT by which proofs are wanted.
const (
	askID     = 1
	askRoom   = 4096
	askProofs = 32768
)

func (o *order) ask() ([]string, api.Errno) {
	q := api.Message{ID: askID, Questions: []api.Question{{Name: o.name, Type: o.typ, Class: api.IN}}}
	if o.word == "+" {
		q.Additional = []api.Record{{Owner: api.Root, Type: api.OPT, Class: askRoom, TTL: askProofs}}
	}
	answer, ok := auth.Answer(o.server.newest(), q)
	if ok {
		answer, ok = policy.Filter(o.server.rules, q, answer)
	}
	if !ok {
		return []string{"drop"}, api.OK
	}
	return linesOf(answer), api.OK
}

func linesOf(m api.Message) []string {
	head := "rcode " + strconv.Itoa(m.Rcode)
	if m.AA {
		head += " aa"
	}
	lines := []string{head}
	lines = appendRecords(lines, "an", m.Answers)
	lines = appendRecords(lines, "au", m.Authority)
	return appendRecords(lines, "ad", m.Additional)
}

// appendRecords tells the records of a section, but for OPT: that tells of the
// message itself.
func appendRecords(lines []string, section string, records []api.Record) []string {
	for _, r := range records {
		if r.Type == api.OPT {
			continue
		}
		// What stands in zones and in rules are data of their types.
		d, _ := data.Show(r.Type, r.Data)
		words := []string{section, name.Show(r.Owner), strconv.Itoa(r.TTL), data.TypeName(r.Type), d}
		lines = append(lines, strings.Join(words, " "))
	}
	return lines
}

// sayAge: that of what a rule says.
const sayAge = 60

func (o *order) addRule() ([]string, api.Errno) {
	r := api.Rule{Name: o.name, Below: o.below, Kind: o.kind}
	if o.kind == api.RuleSay {
		// No apex is told, so names are read as all others of the line.
		d, e := o.data(api.Root)
		if e != api.OK {
			return nil, e
		}
		r.Type, r.TTL, r.Data = o.typ, sayAge, d
	}
	o.server.rules = append(o.server.rules, r)
	return nil, api.OK
}

func (o *order) addAnchors() ([]string, api.Errno) {
	z := o.server.newestOf(o.apex)
	if z == nil {
		return nil, api.ErrNone
	}
	count := 0
	for _, r := range z.Records() {
		if r.Type != api.DNSKEY || spell.Value(r.Data[:2]) != api.EntryKey {
			continue
		}
		// Of data that aren't a key's there is no Ds.
		if ds, e := seal.Ds(z.Apex(), r.Data); e == api.OK {
			o.anchors = append(o.anchors, api.Anchor{Zone: z.Apex(), Ds: ds})
			count++
		}
	}
	return []string{strconv.Itoa(count)}, api.OK
}

func (o *order) judge() ([]string, api.Errno) {
	z := auth.Has(o.server.newest(), o.name, o.typ)
	if z == nil {
		return nil, api.ErrNone
	}
	f := z.Find(o.name, o.typ)
	if f.Kind != api.FoundAnswer {
		return nil, api.ErrNone
	}
	status := trust.Judge(o.anchors, o.bag(), f.Records, o.now)
	return []string{"trust " + strconv.Itoa(status)}, api.OK
}
