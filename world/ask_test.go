package world_test

import (
	"strings"
	"testing"
)

// asked gives a world with a server that has zones of several kinds.
func asked() []string {
	return []string{
		"server a",
		loading("a", "ex.", 7, "www CNAME Host", "Host A 10.0.0.2", "Host 9 AAAA ::2", "@ MX 10 host", "old DNAME ex.", "sub NS ns.sub", "ns.sub A 10.0.0.3", "*.w TXT a", "b NS ns.b", "b DS 1 253 1 00"),
		loading("a", "b.ex.", 8, "x A 10.0.0.4"),
	}
}

func TestAsk(t *testing.T) {
	play(t, told(asked()...), `
> ask a HOST.ex. a -
rcode 0 aa
an Host.ex. 60 A 10.0.0.2
ok
> ask a host.ex. ANY -
rcode 0 aa
an Host.ex. 60 A 10.0.0.2
an Host.ex. 9 AAAA ::2
ok
> ask a www.ex. A -
rcode 0 aa
an www.ex. 60 CNAME Host.ex.
an Host.ex. 60 A 10.0.0.2
ok
> ask a ex. MX -
rcode 0 aa
an ex. 60 MX 10 host.ex.
ad Host.ex. 60 A 10.0.0.2
ad Host.ex. 9 AAAA ::2
ok
> ask a ex. MX +
rcode 0 aa
an ex. 60 MX 10 host.ex.
ad Host.ex. 60 A 10.0.0.2
ad Host.ex. 9 AAAA ::2
ok
> ask a www.old.ex. AAAA -
rcode 0 aa
an old.ex. 60 DNAME ex.
an www.old.ex. 60 CNAME www.ex.
an www.ex. 60 CNAME Host.ex.
an Host.ex. 9 AAAA ::2
ok
> ask a q.W.ex. TXT -
rcode 0 aa
an q.W.ex. 60 TXT "a"
ok
> ask a x.Sub.ex. A -
rcode 0
au sub.ex. 60 NS ns.sub.ex.
ad ns.sub.ex. 60 A 10.0.0.3
ok
> ask a x.b.ex. A -
rcode 0 aa
an x.b.ex. 60 A 10.0.0.4
ok
> ask a b.ex. DS -
rcode 0 aa
an b.ex. 60 DS 1 253 1 00
ok
> ask a x.b.ex. DS -
rcode 0 aa
au b.ex. 5 SOA ns.b.ex. h.b.ex. 8 2 3 4 5
ok
> ask a w.ex. A -
rcode 0 aa
au ex. 5 SOA ns.ex. h.ex. 7 2 3 4 5
ok
> ask a no.ex. A +
rcode 3 aa
au ex. 5 SOA ns.ex. h.ex. 7 2 3 4 5
ok
> ask a org. A -
rcode 5
ok
> ask a . A +
rcode 5
ok
> ask a host.ex. AXFR -
rcode 5
ok
> ask a host.ex. OPT +
rcode 1
ok
> ask a host.ex. TYPE200 -
rcode 4
ok
> ask a host.ex. TYPE65535 -
rcode 0 aa
au ex. 5 SOA ns.ex. h.ex. 7 2 3 4 5
ok
> ask a host.ex. A *
error 23
> ask a host.ex. A ++
error 23
> ask a host.ex. A +-
error 23
> ask a host.ex. A =
error 23
> ask b host.ex. A -
error 28`)
	checkDo(t, told("server a"), "ask a ex. A -", "rcode 5", "ok")
	checkDo(t, told("server a"), "ask a ex. A +", "rcode 5", "ok")
}

// TestAskTold: how names and data are told.
func TestAskTold(t *testing.T) {
	w := told("server a", loading("a", "ex.", 1, `x\.y\032 TXT "a\"b\\\200"`, `\@ TYPE700 \# 2 0aFF`, `n NAPTR 1 2 "" s "!" .`, "t 0 TYPE700 \\# 0"))
	checkDo(t, w, `ask a x\.y\032.ex. TXT -`, "rcode 0 aa", `an x\.y\032.ex. 60 TXT "a\"b\\\200"`, "ok")
	checkDo(t, w, `ask a \064.ex. TYPE700 -`, "rcode 0 aa", `an \@.ex. 60 TYPE700 \# 2 0aff`, "ok")
	checkDo(t, w, `ask a n.ex NAPTR -`, "rcode 0 aa", `an n.ex. 60 NAPTR 1 2 "" "s" "!" .`, "ok")
	checkDo(t, w, `ask a t.ex type700 -`, "rcode 0 aa", `an t.ex. 0 TYPE700 \# 0`, "ok")
}

func TestRules(t *testing.T) {
	play(t, told(append(asked(), "server b")...), `
> rule a noname host.ex. TXT nothing
ok
> ask a host.ex. A -
rcode 3
ok
> ask a Host.EX. AAAA +
rcode 3
ok
> ask a x.host.ex. A -
rcode 3 aa
au ex. 5 SOA ns.ex. h.ex. 7 2 3 4 5
ok
> ask a www.ex. A -
rcode 0 aa
an www.ex. 60 CNAME Host.ex.
an Host.ex. 60 A 10.0.0.2
ok
> rule a *nodata ex. A -
ok
> ask a www.ex. A -
rcode 0
ok
> ask a ex. NS -
rcode 0 aa
an ex. 60 NS ns.ex.
ad ns.ex. 60 A 10.0.0.1
ok
> ask a host.ex. A -
rcode 3
ok
> ask a x.sub.ex. A -
rcode 0
ok
> rule a *drop sub.ex. A -
ok
> ask a x.sub.ex. A -
drop
ok
> ask a sub.ex. A -
rcode 0
ok
> rule a drop org. A 10.0.0.1
ok
> ask a org. A -
drop
ok
> ask a x.org. A -
rcode 5
ok
> rule a pass www.ex. A -
ok
> ask a WWW.ex. A -
rcode 0 aa
an www.ex. 60 CNAME Host.ex.
an Host.ex. 60 A 10.0.0.2
ok
> rule a *pass b.ex. A -
ok
> ask a x.b.ex. A -
rcode 0 aa
an x.b.ex. 60 A 10.0.0.4
ok
> rule a say new.org. MX 5 mail
ok
> ask a NEW.org. MX -
rcode 0
an NEW.org. 60 MX 5 mail.
ok
> ask a new.org. MX +
rcode 0
an new.org. 60 MX 5 mail.
ok
> ask a new.org. ANY -
rcode 0
an new.org. 60 MX 5 mail.
ok
> ask a new.org. A -
rcode 0
ok
> rule a *say new.org. CNAME Host.Ex.
ok
> ask a x.y.new.org. A -
rcode 0
an x.y.new.org. 60 CNAME Host.Ex.
ok
> ask a new.org. CNAME -
rcode 0
ok
> rule a say new.org. A 10.0.0.9
ok
> ask a new.org. A -
rcode 0
ok
> rule a say t.org. TXT a "b c
ok
> ask a t.org. TXT -
rcode 0
an t.org. 60 TXT "a" "\"b" "c"
ok
> ask b new.org. MX -
rcode 5
ok`)
}

// TestRuleOrder: of several that count alike the first does, and one that isn't
// below goes ahead of those that are.
func TestRuleOrder(t *testing.T) {
	w := told("server a", loading("a", "ex.", 1), "rule a *noname ex. A -", "rule a *drop ex. A -", "rule a nodata ns.ex. A -", "rule a noname NS.ex. A -")
	checkDo(t, w, "ask a x.ex. A -", "rcode 3", "ok")
	checkDo(t, w, "ask a ns.ex. A -", "rcode 0", "ok")
	tell(w, "rule a *pass . A -")
	checkDo(t, w, "ask a x.ex. A -", "rcode 3", "ok")
	tell(w, "rule a *drop x.ex. A -")
	checkDo(t, w, "ask a x.x.ex. A -", "drop", "ok")
}

func TestRuleFaults(t *testing.T) {
	w := told("server a", loading("a", "ex.", 1))
	for _, c := range [][2]string{
		{"rule a Drop ns.ex. A -", "error 23"},
		{"rule a refuse ns.ex. A -", "error 23"},
		{"rule a * ns.ex. A -", "error 23"},
		{"rule a **drop ns.ex. A -", "error 23"},
		{"rule a drop* ns.ex. A -", "error 23"},
		{"rule a +drop ns.ex. A -", "error 23"},
		{"rule a .drop ns.ex. A -", "error 23"},
		{"rule a 1 ns.ex. A -", "error 23"},
		{"rule a drop n..ex. A -", "error 2"},
		{"rule a drop ns.ex. B -", "error 6"},
		{"rule a say ns.ex. A -", "error 2"},
		{"rule a *say ns.ex. A 10.0.0.1 10.0.0.2", "error 2"},
		{"rule a say ns.ex. ANY x", "error 6"},
		{"rule a say ns.ex. NS " + strings.Repeat("x", 64), "error 3"},
		{"rule a say ns.ex. A \\# 1 00", "error 7"},
		{"rule b drop ns.ex. A -", "error 28"},
	} {
		checkDo(t, w, c[0], c[1])
		checkDo(t, w, "ask a ns.ex. A -", "rcode 0 aa", "an ns.ex. 60 A 10.0.0.1", "ok")
	}
	// What rules other than say are told of data says nothing.
	for _, word := range []string{"pass", "*pass", "*drop", "*noname", "*nodata"} {
		tell(w, "rule a "+word+" ns.ex. ANY 10.0.0.1 \" ( \\")
		checkDo(t, w, "ask a ns.ex. A -", "rcode 0 aa", "an ns.ex. 60 A 10.0.0.1", "ok")
	}
}
