package world

import (
	"strconv"
	"strings"

	"gazetteer/api"
	"gazetteer/data"
	"gazetteer/master"
	"gazetteer/seal"
	"gazetteer/signer"
	"gazetteer/transfer"
	"gazetteer/zone"
)

// Commands that bring servers and their zones, and change them.

func (o *order) setTime() ([]string, api.Errno) {
	now := o.numbers[0]
	if now < o.now || now > api.MaxTime {
		return nil, api.ErrTime
	}
	o.now = now
	return nil, api.OK
}

// maxServers: the most that a world has.
const maxServers = 50

func (o *order) addServer() ([]string, api.Errno) {
	switch {
	case !isServerName(o.word):
		return nil, api.ErrArg
	case o.find(o.word) != nil:
		return nil, api.ErrTwice
	case len(o.servers) == maxServers:
		return nil, api.ErrMany
	}
	o.servers = append(o.servers, &server{name: o.word})
	return []string{"10.0.0." + strconv.Itoa(len(o.servers))}, api.OK
}

// maxServerName: the most bytes that a server's name has. (A word has one at
// least.)
const maxServerName = 20

func isServerName(word string) bool {
	isOther := func(r rune) bool { return (r < 'a' || r > 'z') && (r < '0' || r > '9') }
	return len(word) <= maxServerName && !strings.ContainsFunc(word, isOther)
}

func (o *order) load() ([]string, api.Errno) {
	text := strings.ReplaceAll(strings.Join(o.rest, " "), "|", "\n")
	records, fault := master.Parse(text, o.apex, nil)
	if fault.Code != api.OK {
		return nil, fault.Code
	}
	return nil, getNew(o.server, o.apex, records)
}

// getNew: the server gets the zone of records.
func getNew(s *server, apex string, records []api.Record) api.Errno {
	z, _, e := zone.New(apex, records)
	if e != api.OK {
		return e
	}
	return s.get(z)
}

// keyAge: that of the keys of a zone that is signed.
const keyAge = 60

func (o *order) sign() ([]string, api.Errno) {
	z := o.server.newestOf(o.apex)
	if z == nil {
		return nil, api.ErrNone
	}
	key, e := seal.NewKey(o.numbers[0], o.numbers[1], o.numbers[2], api.EntryKey)
	if e != api.OK {
		return nil, e
	}
	records, e := signer.Sign(z.Apex(), z.Records(), api.Plan{
		Keys:   []api.PlanKey{{Key: key, Active: true}},
		From:   o.numbers[3],
		Until:  o.numbers[4],
		KeyTTL: keyAge,
	})
	if e != api.OK {
		return nil, e
	}
	// Keys that NewKey makes have a Ds, and what Ds gives can be shown.
	ds, _ := seal.Ds(z.Apex(), seal.Public(key))
	text, _ := data.Show(api.DS, ds)
	return []string{text}, getNew(o.server, z.Apex(), records)
}

func (o *order) change() ([]string, api.Errno) {
	r, e := o.changed()
	if e != api.OK {
		return nil, e
	}
	h := o.server.find(o.apex)
	if h == nil {
		return nil, api.ErrNone
	}
	code := h.do(api.Message{
		Opcode:    api.OpUpdate,
		Questions: []api.Question{{Name: o.apex, Type: api.SOA, Class: api.IN}},
		Authority: []api.Record{r},
	})
	return []string{"rcode " + strconv.Itoa(code)}, api.OK
}

// changed: the record that tells a change.
func (o *order) changed() (api.Record, api.Errno) {
	r := api.Record{Owner: o.name, Type: o.typ, Class: api.ClsAny}
	switch o.word {
	case "+":
		r.Class, r.TTL = api.IN, o.numbers[0]
	case "-":
		r.Class = api.ClsNone
	default:
		return r, api.OK
	}
	d, e := o.data(o.apex)
	r.Data = d
	return r, e
}

// copyID: that of the message which asks for a copy.
const copyID = 1

func (o *order) copyZone() ([]string, api.Errno) {
	h := o.server.find(o.apex)
	if h == nil {
		return nil, api.ErrNone
	}
	had := o.other.newestOf(o.apex)
	q, e := transfer.Ask(had, o.apex, copyID)
	if e != api.OK {
		return nil, e
	}
	answers := h.history.Answer(q)
	z, e := transfer.Take(had, q, answers)
	if e != api.OK {
		return nil, e
	}
	// What isn't newer than what it had comes out as just that.
	if z != had {
		e = o.other.get(z)
	}
	return []string{strconv.Itoa(len(answers))}, e
}

func (o *order) crash() ([]string, api.Errno) {
	for _, h := range o.server.zones {
		h.crash()
	}
	return nil, api.OK
}
