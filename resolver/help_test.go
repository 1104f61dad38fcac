package resolver_test

import (
	"fmt"
	"slices"
	"strconv"
	"strings"
	"testing"

	"gazetteer/api"
	"gazetteer/auth"
	"gazetteer/data"
	"gazetteer/master"
	"gazetteer/name"
	"gazetteer/resolver"
	"gazetteer/wire"
	"gazetteer/zone"
)

// n gives the name that a text tells.
func n(text string) string {
	wire, _, e := name.Read(text, api.Root)
	if e != api.OK {
		panic(text)
	}
	return wire
}

// at gives the address of a server: 10.0.0.number.
func at(number int) string { return string([]byte{10, 0, byte(number >> 8), byte(number)}) }

// list gives the records of lines of a file, of age 60 where none is told.
func list(apex string, lines ...string) []api.Record {
	records, f := master.Parse("$TTL 60\n"+strings.Join(lines, "\n"), n(apex), nil)
	if f.Code != api.OK {
		panic(lines[f.Line-2])
	}
	return records
}

func newZone(apex string, records []api.Record) *zone.Zone {
	z, at, e := zone.New(n(apex), records)
	if e != api.OK {
		panic("no zone " + apex + ": error " + strconv.Itoa(int(e)) + " of the record " + strconv.Itoa(at))
	}
	return z
}

// plot: a zone of a world: its apex, what stands in it, and its servers, of
// whom each is told by the name of a server, a "=" and the number of its
// address. Their NS and A, with an age of 600, needn't be among the lines.
type plot struct {
	apex    string
	servers string
	lines   []string
}

// lay gives a plot.
func lay(apex, servers string, lines ...string) plot { return plot{apex, servers, lines} }

// world: zones, and servers that have some of them.
type world struct {
	zones   []*zone.Zone
	servers map[string][]*zone.Zone // by their addresses
}

// found gives the world of plots: each zone is told by the one above it.
func found(plots ...plot) *world {
	lines := map[string][]string{}
	add := func(apex, line string) {
		if !slices.Contains(lines[apex], line) {
			lines[apex] = append(lines[apex], line)
		}
	}
	for _, p := range plots {
		if !strings.Contains(strings.Join(p.lines, "\n"), " SOA ") {
			add(p.apex, p.apex+" 300 SOA ns. h. 1 60 60 60 30")
		}
		for _, word := range strings.Fields(p.servers) {
			server, number, _ := strings.Cut(word, "=")
			ns, a := p.apex+" 600 NS "+server, server+" 600 A 10.0.0."+number
			for _, z := range []string{p.apex, parentOf(plots, p.apex)} {
				add(z, ns)
				if name.Within(n(server), n(z)) {
					add(z, a)
				}
			}
			add(holderOf(plots, server), a)
		}
		lines[p.apex] = append(lines[p.apex], p.lines...)
	}
	w := &world{servers: map[string][]*zone.Zone{}}
	for _, p := range plots {
		z := newZone(p.apex, list(p.apex, lines[p.apex]...))
		w.zones = append(w.zones, z)
		for _, word := range strings.Fields(p.servers) {
			_, number, _ := strings.Cut(word, "=")
			k, err := strconv.Atoi(number)
			if err != nil {
				panic(p.servers)
			}
			if !slices.Contains(w.servers[at(k)], z) {
				w.servers[at(k)] = append(w.servers[at(k)], z)
			}
		}
	}
	return w
}

// holderOf gives the apex of the plot that has a name.
func holderOf(plots []plot, text string) string {
	best := "."
	for _, p := range plots {
		if name.Within(n(text), n(p.apex)) && name.Count(n(p.apex)) > name.Count(n(best)) {
			best = p.apex
		}
	}
	return best
}

// parentOf gives the apex of the plot above a plot's apex; that of the root is
// itself.
func parentOf(plots []plot, apex string) string {
	if apex == "." {
		return "."
	}
	return holderOf(plots, name.Show(name.Parent(n(apex))))
}

// sending: what was sent, and where to.
type sending struct{ to, data string }

// net: by it questions come to the servers of a world.
type net struct {
	*world
	sent  []sending
	wrong string // what was sent and may not be
	// If it isn't nil: what comes back in the place of what the server says.
	instead func(to string, m api.Message) ([]api.Datagram, bool)
	// If it isn't nil: what comes back ahead of that.
	ahead func(to string, m api.Message) []api.Datagram
}

func netOf(w *world) *net { return &net{world: w} }

// isRight: may the message be sent?
func isRight(m api.Message) bool {
	return wire.Check(m) == api.OK && !m.Response && m.Opcode == api.OpQuery && len(m.Questions) == 1 &&
		m.Questions[0].Class == api.IN && len(m.Answers) == 0 && len(m.Authority) == 0
}

func (w *net) Send(to string, b []byte) []api.Datagram {
	defer func() {
		// A resolver would hide it.
		if p := recover(); p != nil {
			w.wrong = fmt.Sprint("a panic of the test's own: ", p)
		}
	}()
	w.sent = append(w.sent, sending{to, string(b)})
	m, _, e := wire.Unpack(b)
	if e != api.OK || !isRight(m) || len(to) != 4 && len(to) != 16 {
		w.wrong = strconv.Quote(string(b)) + " to " + strconv.Quote(to)
		return nil
	}
	var back []api.Datagram
	if w.ahead != nil {
		back = w.ahead(to, m)
	}
	if w.instead != nil {
		if list, ok := w.instead(to, m); ok {
			return append(back, list...)
		}
	}
	zones, ok := w.servers[to]
	if !ok {
		return back
	}
	answer := auth.Serve(zones, b, 65535)
	clear(b) // who sends doesn't look at it again
	return append(back, api.Datagram{From: to, Data: answer})
}

// begin gives a resolver that knows the server 10.0.0.1.
func begin(t *testing.T, most int) *resolver.Resolver {
	t.Helper()
	r, e := resolver.New([]string{at(1)}, most)
	if e != api.OK || r == nil {
		t.Fatalf("P14.1: no resolver: %d", e)
	}
	return r
}

// told writes a record in one line.
func told(r api.Record) string {
	d, _ := data.Show(r.Type, r.Data)
	return name.Show(r.Owner) + " " + strconv.Itoa(r.TTL) + " " + data.TypeName(r.Type) + " " + d
}

// tell writes a reply: "NxDomain: c.ex. 60 CNAME x.ex. | ..".
func tell(r api.Reply) string {
	words := []string{"NoError", "FormErr", "ServFail", "NxDomain", "NotImp", "Refused", "YxDomain"}
	text := strconv.Itoa(r.Rcode)
	if 0 <= r.Rcode && r.Rcode < len(words) {
		text = words[r.Rcode]
	}
	var lines []string
	for _, record := range r.Records {
		lines = append(lines, told(record))
	}
	if len(lines) > 0 {
		text += ": " + strings.Join(lines, " | ")
	}
	return text
}

// isSame: is a reply what it has to be, but for the letters of owners and for
// ages that have become less?
func isSame(got, want api.Reply) bool {
	return got.Rcode == want.Rcode && slices.EqualFunc(got.Records, want.Records, func(r, w api.Record) bool {
		return name.Equal(r.Owner, w.Owner) && r.Type == w.Type && r.Class == w.Class && 0 <= r.TTL && r.TTL <= w.TTL && r.Data == w.Data
	})
}

// ask makes a call that is written in a line: "NOW NAME TYPE".
func ask(t *testing.T, r *resolver.Resolver, w *net, line string) api.Reply {
	t.Helper()
	words := strings.Fields(line)
	now, err := strconv.Atoi(words[0])
	typ := data.TypeOf(words[2])
	if err != nil || typ == 0 || len(words) != 3 {
		panic(line)
	}
	before := len(w.sent)
	reply := r.Resolve(w, n(words[1]), typ, now)
	if reply.Work != len(w.sent)-before || reply.Work > api.MaxWork {
		t.Errorf("P14.2 %s: Work %d, and %d were sent", line, reply.Work, len(w.sent)-before)
	}
	if w.wrong != "" {
		t.Errorf("P14.2 %s: sent was %s", line, w.wrong)
	}
	return reply
}

// run makes calls one behind the other, each in a line with what it answers:
// "NOW NAME TYPE => WORK RCODE: RECORD | RECORD ..". If WORK is "?", any does.
func run(t *testing.T, r *resolver.Resolver, w *net, lines ...string) {
	t.Helper()
	for _, line := range lines {
		call, want, ok := strings.Cut(line, " => ")
		if !ok {
			panic(line)
		}
		work, want, _ := strings.Cut(want, " ")
		reply := ask(t, r, w, call)
		if got := tell(reply); got != want || work != "?" && work != strconv.Itoa(reply.Work) {
			t.Errorf("%s\ngot: %d %s", line, reply.Work, got)
		}
	}
}
