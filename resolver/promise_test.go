package resolver_test

import (
	"math"
	"math/rand"
	"slices"
	"strings"
	"testing"

	"gazetteer/api"
	"gazetteer/auth"
	"gazetteer/resolver"
	"gazetteer/wire"
)

// chaos: a net that brings whatever it likes, most of it turned a little.
type chaos struct {
	dice
	*world
	sent  int
	wrong int
}

func (c *chaos) Send(to string, b []byte) []api.Datagram {
	c.sent++
	m, _, e := wire.Unpack(b)
	if e != api.OK || !isRight(m) {
		c.wrong++
		return nil
	}
	var list []api.Datagram
	for range c.Intn(3) {
		z := pick(c.dice, c.zones...)
		back := packed(c.lieOf(c.world, z, []string{at(1), at(2), at(11), at(12)}, m))
		if c.Intn(3) == 0 {
			back = auth.Serve(c.zones[:1+c.Intn(len(c.zones))], b, 65535)
		}
		if len(back) > 0 && c.Intn(4) == 0 {
			back[c.Intn(len(back))] = byte(c.Intn(256))
		}
		if c.Intn(20) == 0 {
			back = back[:c.Intn(len(back)+1)]
		}
		list = append(list, api.Datagram{From: pick(c.dice, to, to, to, at(1), ""), Data: back})
	}
	for i := range b {
		b[i] = byte(c.Intn(256))
	}
	if c.Intn(50) == 0 {
		panic("the net breaks")
	}
	return list
}

// TestAnything: every call answers, whatever comes back, with no more work than
// may be and a code that may be.
func TestAnything(t *testing.T) {
	t.Parallel()
	d := dice{rand.New(rand.NewSource(142))}
	codes := map[int]int{}
	for range 60 {
		w, roots := d.world()
		by := &chaos{dice: d, world: w}
		r, _ := resolver.New(roots, pick(d, 1, 7, 5000))
		for range 60 {
			q, typ := d.question(w)
			now := pick(d, 0, 1, 100, 150, api.MaxTime-1, api.MaxTime)
			if d.Intn(10) == 0 {
				q, typ, now = pick(d, q, "", "\x05"), pick(d, typ, 0, -1, 41, 200, 65536, math.MaxInt), pick(d, now, -1, api.MaxTime+1, math.MinInt)
			}
			before := by.sent
			reply := r.Resolve(by, q, typ, now)
			codes[reply.Rcode]++
			if reply.Work != by.sent-before || reply.Work > api.MaxWork || reply.Rcode == api.FormErr && (reply.Work > 0 || len(reply.Records) > 0) {
				t.Fatalf("P14.2 %q %d %d: %+v, and %d were sent", q, typ, now, reply, by.sent-before)
			}
			if wire.Check(api.Message{Answers: reply.Records}) != api.OK {
				t.Fatalf("P14.2 %q %d %d: %+v", q, typ, now, reply)
			}
		}
		if by.wrong > 0 {
			t.Fatal("P14.2: what was sent isn't right")
		}
	}
	for code := range codes {
		if !slices.Contains([]int{api.NoError, api.FormErr, api.ServFail, api.NxDomain, api.YxDomain}, code) {
			t.Errorf("P14.2: Rcode %d", code)
		}
	}
	for _, code := range []int{api.NoError, api.FormErr, api.ServFail, api.NxDomain} {
		if codes[code] < 100 {
			t.Errorf("too few of Rcode %d: %v", code, codes)
		}
	}
}

// TestNothingShared: what is done later with what came out isn't seen, and what
// a net hands out is neither changed nor kept.
func TestNothingShared(t *testing.T) {
	w := netOf(example("c CNAME www", "d DNAME ex."))
	var handed [][]byte
	var given []string
	w.instead = func(to string, m api.Message) ([]api.Datagram, bool) {
		b := auth.Serve(w.servers[to], packed(m), 65535)
		handed, given = append(handed, b), append(given, string(b))
		return []api.Datagram{{From: to, Data: b}}, true
	}
	r := begin(t, 100)
	for range 3 {
		for _, line := range []string{
			"100 www.ex. A => ? NoError: www.ex. 60 A 10.1.1.1",
			"100 c.ex. A => ? NoError: c.ex. 60 CNAME www.ex. | www.ex. 60 A 10.1.1.1",
			"100 www.d.ex. A => ? NoError: d.ex. 60 DNAME ex. | www.d.ex. 60 CNAME www.ex. | www.ex. 60 A 10.1.1.1",
			"100 c.ex. ANY => ? NoError: c.ex. 60 CNAME www.ex.",
			"100 www.ex. ANY => ? NoError: www.ex. 60 A 10.1.1.1",
		} {
			run(t, r, w, line)
			call, _, _ := strings.Cut(line, " => ")
			reply := ask(t, r, w, call)
			clear(reply.Records[:cap(reply.Records)])
			for i, b := range handed {
				if string(b) != given[i] {
					t.Fatal("P2: what a net handed out was changed")
				}
				clear(b)
			}
			handed, given = nil, nil
		}
	}
	other := begin(t, 100)
	if reply := ask(t, other, w, "100 www.ex. A"); reply.Work != 2 {
		t.Errorf("P2: two resolvers share what they know: %d", reply.Work)
	}
}

// TestSameAgain: the same calls give the same replies, and send the same.
func TestSameAgain(t *testing.T) {
	d := dice{rand.New(rand.NewSource(143))}
	for range 20 {
		w, roots := d.world()
		var questions []api.Question
		for range 40 {
			q, typ := d.question(w)
			questions = append(questions, api.Question{Name: q, Type: typ})
		}
		var replies []string
		var sent []sending
		for round := range 3 {
			by := netOf(w)
			r, _ := resolver.New(roots, 20)
			for i, q := range questions {
				text := tell(r.Resolve(by, q.Name, q.Type, i*5))
				if round == 0 {
					replies = append(replies, text)
				} else if text != replies[i] {
					t.Fatalf("P2: %s, and then %s", replies[i], text)
				}
			}
			if round == 0 {
				sent = by.sent
			} else if !slices.Equal(by.sent, sent) {
				t.Fatal("P2: something else is sent")
			}
		}
	}
}

// TestNoResolver: of one that New didn't give nothing is promised; it doesn't
// panic.
func TestNoResolver(t *testing.T) {
	w := netOf(example())
	var none *resolver.Resolver
	for _, r := range []*resolver.Resolver{none, {}} {
		if reply := r.Resolve(w, n("www.ex."), api.A, 100); reply.Rcode != api.ServFail || reply.Work != 0 {
			t.Errorf("%+v", reply)
		}
		if reply := r.Resolve(nil, n("www.ex."), api.A, 100); reply.Rcode != api.FormErr {
			t.Errorf("%+v", reply)
		}
	}
}
