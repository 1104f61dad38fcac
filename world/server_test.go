package world_test

import (
	"strconv"
	"strings"
	"testing"

	"gazetteer/world"
)

func TestTime(t *testing.T) {
	play(t, world.New(), `
> time 0
ok
> time 5
ok
> time 5
ok
> time 4
error 25
> time 0
error 25
> time 5
ok
> time 6
ok
> time 4294967296
error 25
> time 9999999999
error 25
> time 7
ok
> time 4294967295
ok
> time 4294967295
ok
> time 4294967296
error 25
> time 4294967294
error 25`)
}

func TestServerNames(t *testing.T) {
	for word, want := range map[string]string{
		"a": "ok", "z": "ok", "0": "ok", "9": "ok", "abcdefghij0123456789": "ok", "klmnopqrstuvwxyz": "ok", "00": "ok", "server": "ok",
		"abcdefghij0123456789x":  "error 23",
		strings.Repeat("a", 300): "error 23",
		"A":                      "error 23", "aB": "error 23", "a.": "error 23", "a-b": "error 23", "a_b": "error 23", "*": "error 23", ".": "error 23",
		"`": "error 23", "{": "error 23", "/": "error 23", ":": "error 23", "a\t": "error 23", "\x00": "error 23", "a\x00": "error 23",
		"\xc3\xa4": "error 23", "\xe4": "error 23", "a\xff": "error 23", "a\nb": "error 23", "\u0661": "error 23",
		"": "error 2",
	} {
		w := world.New()
		got := w.Do("server " + word)
		if got[len(got)-1] != want || want == "ok" && got[0] != "10.0.0.1" {
			t.Errorf("P16.1: server %q tells %q; wanted %s", word, got, want)
		}
		if want != "ok" {
			checkDo(t, w, "server a", "10.0.0.1", "ok")
			continue
		}
		checkDo(t, w, "server "+word, "error 19")
		checkDo(t, w, "crash "+word, "ok")
		checkDo(t, w, "crash "+word+"x", "error 28")
	}
	// A name is meant as a whole.
	w := told("server ab")
	checkDo(t, w, "crash a", "error 28")
	checkDo(t, w, "crash b", "error 28")
	checkDo(t, w, "crash AB", "error 28")
	checkDo(t, w, "server a", "10.0.0.2", "ok")
	checkDo(t, w, "server abc", "10.0.0.3", "ok")
}

// TestServers: each has the next address; one that doesn't come takes none.
func TestServers(t *testing.T) {
	w := world.New()
	for i := range 50 {
		checkDo(t, w, "crash s"+strconv.Itoa(i), "error 28")
		checkDo(t, w, "server s"+strconv.Itoa(i), "10.0.0."+strconv.Itoa(i+1), "ok")
		checkDo(t, w, "server s"+strconv.Itoa(i/2), "error 19")
		checkDo(t, w, "server S", "error 23")
	}
	checkDo(t, w, "server s50", "error 20")
	checkDo(t, w, "server s49", "error 19") // told ahead
	checkDo(t, w, "server s0", "error 19")
	checkDo(t, w, "server S", "error 23")
	checkDo(t, w, "server s50", "error 20")
	checkDo(t, w, "crash s50", "error 28")
	checkDo(t, w, "crash s49", "ok")
	checkDo(t, w, "crash s0", "ok")
}

// TestServersApart: each has zones and rules of its own.
func TestServersApart(t *testing.T) {
	play(t, told("server a", "server b", loading("a", "ex.", 1), loading("b", "ex.", 2, "x A 10.0.0.9"), "rule b drop ns.ex. A -"), `
> ask a x.ex. A -
rcode 3 aa
au ex. 5 SOA ns.ex. h.ex. 1 2 3 4 5
ok
> ask b x.ex. A -
rcode 0 aa
an x.ex. 60 A 10.0.0.9
ok
> ask a ns.ex. A -
rcode 0 aa
an ns.ex. 60 A 10.0.0.1
ok
> ask b ns.ex. A -
drop
ok`)
}
