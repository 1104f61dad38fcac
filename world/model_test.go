package world_test

import (
	"slices"
	"strconv"
	"strings"
	"testing"

	"gazetteer/api"
	"gazetteer/auth"
	"gazetteer/data"
	"gazetteer/master"
	"gazetteer/name"
	"gazetteer/policy"
	"gazetteer/seal"
	"gazetteer/signer"
	"gazetteer/transfer"
	"gazetteer/trust"
	"gazetteer/update"
	"gazetteer/world"
	"gazetteer/zone"
)

// A second reckoning of what is answered, held against the package by lines of
// chance. It has one list of all zones of all servers, with those that were
// ahead of each, and no keepers and no histories: these are made where they are
// asked.

type model struct {
	now     int
	servers []string
	zones   []modelZone
	rules   map[string][]api.Rule
	anchors []api.Anchor
}

// modelZone: the zones of one apex since its history began, the newest last.
type modelZone struct {
	server string
	row    []*zone.Zone
}

// must stops a line that is wrong; do catches that.
func must(holds bool, e api.Errno) {
	if !holds {
		panic(e)
	}
}

// modelForms: the words of each command.
const modelForms = `
time N
server WORD
load SERVER APEX ..
sign SERVER APEX N N N N N
show SERVER APEX
ask SERVER NAME TYPE SIGN
change SERVER APEX OP NAME N TYPE ..
copy SERVER SERVER APEX
crash SERVER
rule SERVER RULE NAME TYPE ..
anchor SERVER APEX
judge SERVER NAME TYPE
`

func (m *model) do(line string) (answer []string) {
	defer func() {
		if e, ok := recover().(api.Errno); ok {
			answer = []string{"error " + strconv.Itoa(int(e))}
		}
	}()
	var words []string
	for _, word := range strings.Split(line, " ") {
		if word != "" {
			words = append(words, word)
		}
	}
	must(len(words) > 0, api.ErrText)
	var form []string
	for _, f := range strings.Split(strings.TrimSpace(modelForms), "\n") {
		if strings.HasPrefix(f, words[0]+" ") {
			form = strings.Fields(f)
		}
	}
	must(form != nil, api.ErrText)
	if form[len(form)-1] == ".." {
		must(len(words) >= len(form), api.ErrText)
	} else {
		must(len(words) == len(form), api.ErrText)
	}
	for i, f := range form {
		m.look(f, words[i])
	}
	return append(m.say(words), "ok")
}

// look: one word by itself.
func (m *model) look(form, word string) {
	switch form {
	case "SERVER":
		must(slices.Contains(m.servers, word), api.ErrNone)
	case "APEX", "NAME":
		_, _, e := name.Read(word, api.Root)
		must(e == api.OK, e)
	case "TYPE":
		must(data.TypeOf(word) != 0, api.ErrType)
	case "N":
		must(len(word) <= 10 && strings.Trim(word, "0123456789") == "", api.ErrArg)
	case "SIGN":
		must(strings.Contains(" + - ", " "+word+" "), api.ErrArg)
	case "OP":
		must(strings.Contains(" + - = ", " "+word+" "), api.ErrArg)
	case "RULE":
		must(strings.Contains(" pass drop noname nodata say *pass *drop *noname *nodata *say ", " "+word+" "), api.ErrArg)
	}
}

func (m *model) say(words []string) []string {
	switch words[0] {
	case "time":
		now := number(words[1])
		must(m.now <= now && now < 1<<32, api.ErrTime)
		m.now = now
	case "server":
		must(len(words[1]) <= 20 && strings.Trim(words[1], "abcdefghijklmnopqrstuvwxyz0123456789") == "", api.ErrArg)
		must(!slices.Contains(m.servers, words[1]), api.ErrTwice)
		must(len(m.servers) < 50, api.ErrMany)
		m.servers = append(m.servers, words[1])
		return []string{"10.0.0." + strconv.Itoa(len(m.servers))}
	case "load":
		text := strings.Join(strings.Split(strings.Join(words[3:], " "), "|"), "\n")
		records, f := master.Parse(text, wire(words[2]), nil)
		must(f.Code == api.OK, f.Code)
		m.get(words[1], wire(words[2]), records)
	case "sign":
		return m.sign(words)
	case "show":
		row := m.row(words[1], words[2])
		must(row != nil, api.ErrNone)
		text, _ := master.Print((*row)[len(*row)-1].Records(), wire(words[2]))
		lines := strings.SplitAfter(text, "\n")
		for i := range lines {
			lines[i] = strings.TrimSuffix(lines[i], "\n")
		}
		return lines[:len(lines)-1]
	case "ask":
		return m.ask(words)
	case "change":
		return m.change(words)
	case "copy":
		return m.copy(words)
	case "crash":
		for i, z := range m.zones {
			if z.server == words[1] {
				m.zones[i].row = z.row[len(z.row)-1:]
			}
		}
	case "rule":
		m.rule(words)
	case "anchor":
		return m.anchor(words)
	case "judge":
		z := auth.Has(m.newest(words[1]), wire(words[2]), data.TypeOf(words[3]))
		must(z != nil, api.ErrNone)
		f := z.Find(wire(words[2]), data.TypeOf(words[3]))
		must(f.Kind == api.FoundAnswer, api.ErrNone)
		var bag []api.Record
		for _, other := range m.zones {
			bag = append(bag, other.row[len(other.row)-1].Records()...)
		}
		return []string{"trust " + strconv.Itoa(trust.Judge(m.anchors, bag, f.Records, m.now))}
	}
	return nil
}

func wire(word string) string {
	n, _, _ := name.Read(word, api.Root)
	return n
}

func number(word string) int {
	n, _ := strconv.Atoi(word)
	return n
}

// row: the zones of an apex that a server has; nil if it has none.
func (m *model) row(server, apex string) *[]*zone.Zone {
	for i, z := range m.zones {
		if z.server == server && name.Equal(z.row[0].Apex(), wire(apex)) {
			return &m.zones[i].row
		}
	}
	return nil
}

func (m *model) newest(server string) []*zone.Zone {
	var list []*zone.Zone
	for _, z := range m.zones {
		if z.server == server {
			list = append(list, z.row[len(z.row)-1])
		}
	}
	return list
}

func (m *model) get(server, apex string, records []api.Record) {
	z, _, e := zone.New(apex, records)
	must(e == api.OK, e)
	row := m.row(server, name.Show(apex))
	if row == nil {
		must(len(m.newest(server)) < 20, api.ErrMany)
		m.zones = append(m.zones, modelZone{server, []*zone.Zone{z}})
		return
	}
	if transfer.Newer(z.Serial(), (*row)[len(*row)-1].Serial()) {
		*row = append(*row, z)
	} else {
		*row = []*zone.Zone{z}
	}
}

func (m *model) sign(words []string) []string {
	row := m.row(words[1], words[2])
	must(row != nil, api.ErrNone)
	z := (*row)[len(*row)-1]
	key, e := seal.NewKey(number(words[3]), number(words[4]), number(words[5]), 257)
	must(e == api.OK, e)
	plan := api.Plan{Keys: []api.PlanKey{{Key: key, Active: true}}, From: number(words[6]), Until: number(words[7]), KeyTTL: 60}
	records, e := signer.Sign(z.Apex(), z.Records(), plan)
	must(e == api.OK, e)
	m.get(words[1], z.Apex(), records)
	ds, _ := seal.Ds(z.Apex(), seal.Public(key))
	text, _ := data.Show(api.DS, ds)
	return []string{text}
}

func (m *model) ask(words []string) []string {
	q := api.Message{ID: 1, Questions: []api.Question{{Name: wire(words[2]), Type: data.TypeOf(words[3]), Class: 1}}}
	if words[4] == "+" {
		q.Additional = append(q.Additional, api.Record{Owner: "\x00", Type: 41, Class: 4096, TTL: 32768})
	}
	a, _ := auth.Answer(m.newest(words[1]), q)
	a, ok := policy.Filter(m.rules[words[1]], q, a)
	if !ok {
		return []string{"drop"}
	}
	list := []string{"rcode " + strconv.Itoa(a.Rcode) + map[bool]string{true: " aa"}[a.AA]}
	for i, section := range [][]api.Record{a.Answers, a.Authority, a.Additional} {
		for _, r := range section {
			if r.Type != 41 {
				d, _ := data.Show(r.Type, r.Data)
				list = append(list, []string{"an ", "au ", "ad "}[i]+name.Show(r.Owner)+" "+strconv.Itoa(r.TTL)+" "+data.TypeName(r.Type)+" "+d)
			}
		}
	}
	return list
}

func readData(typ string, words []string, origin string) string {
	var list []api.Word
	for _, word := range words {
		list = append(list, api.Word{Text: word})
	}
	d, _, e := data.Read(data.TypeOf(typ), list, origin)
	must(e == api.OK, e)
	return d
}

func (m *model) change(words []string) []string {
	r := api.Record{Owner: wire(words[4]), Type: data.TypeOf(words[6])}
	if words[3] == "=" {
		r.Class = 255
	} else {
		r.Class, r.Data = 254, readData(words[6], words[7:], wire(words[2]))
	}
	if words[3] == "+" {
		r.Class, r.TTL = 1, number(words[5])
	}
	row := m.row(words[1], words[2])
	must(row != nil, api.ErrNone)
	old := (*row)[len(*row)-1]
	z, code := update.Apply(old, api.Message{Opcode: 5, Questions: []api.Question{{Name: wire(words[2]), Type: 6, Class: 1}}, Authority: []api.Record{r}})
	if code == 0 && z.Serial() != old.Serial() {
		*row = append(*row, z)
	}
	return []string{"rcode " + strconv.Itoa(code)}
}

func (m *model) copy(words []string) []string {
	from, to := m.row(words[1], words[3]), m.row(words[2], words[3])
	must(from != nil, api.ErrNone)
	h := transfer.NewHistory((*from)[0])
	for _, z := range (*from)[1:] {
		must(h.Add(z) == api.OK, 99)
	}
	var had *zone.Zone
	if to != nil {
		had = (*to)[len(*to)-1]
	}
	q, _ := transfer.Ask(had, wire(words[3]), 1)
	answers := h.Answer(q)
	z, e := transfer.Take(had, q, answers)
	must(e == api.OK, e)
	if had == nil || z.Serial() != had.Serial() {
		m.get(words[2], z.Apex(), z.Records())
	}
	return []string{strconv.Itoa(len(answers))}
}

func (m *model) rule(words []string) {
	r := api.Rule{Name: wire(words[3]), Below: words[2][0] == '*'}
	r.Kind = slices.Index([]string{"pass", "drop", "noname", "nodata", "say"}, strings.Trim(words[2], "*"))
	if r.Kind == 4 {
		r.Type, r.TTL, r.Data = data.TypeOf(words[4]), 60, readData(words[4], words[5:], api.Root)
	}
	m.rules[words[1]] = append(m.rules[words[1]], r)
}

func (m *model) anchor(words []string) []string {
	row := m.row(words[1], words[2])
	must(row != nil, api.ErrNone)
	count := 0
	for _, r := range (*row)[len(*row)-1].Records() {
		if r.Type != 48 || r.Data[:2] != "\x01\x01" {
			continue
		}
		if ds, e := seal.Ds(wire(words[2]), r.Data); e == api.OK {
			m.anchors = append(m.anchors, api.Anchor{Zone: wire(words[2]), Ds: ds})
			count++
		}
	}
	return []string{strconv.Itoa(count)}
}

// TestModel: lines of chance, one behind the other.
func TestModel(t *testing.T) {
	t.Parallel()
	counts := map[string]int{}
	for seed := range 300 {
		d := newDice(int64(seed))
		w, m := world.New(), &model{rules: map[string][]api.Rule{}}
		var ahead []string
		lines := d.opening()
		for len(lines) < 150 {
			lines = append(lines, d.line())
		}
		for _, line := range lines {
			got, want := w.Do(line), m.do(line)
			if !slices.Equal(got, want) {
				t.Fatalf("P16.1 behind\n%s\n%q tells\n%s\nwanted\n%s", strings.Join(ahead, "\n"), line, strings.Join(got, "\n"), strings.Join(want, "\n"))
			}
			ahead = append(ahead, line)
			word, _, _ := strings.Cut(strings.TrimSpace(line), " ")
			if got[len(got)-1] == "ok" {
				counts[word]++
			}
			if word == "judge" {
				counts[got[0]]++
			}
			if word == "copy" && len(got) > 1 {
				counts["copy "+got[0]]++
			}
		}
	}
	// Chance has brought all that is to be seen.
	for _, what := range []string{
		"time", "server", "load", "sign", "show", "ask", "change", "copy", "crash", "rule", "anchor", "judge",
		"trust 0", "trust 1", "trust 2", "trust 3", "copy 1", "copy 2", "copy 3",
	} {
		if counts[what] < 5 {
			t.Errorf("just %d times %s", counts[what], what)
		}
	}
}
