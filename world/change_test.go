package world_test

import (
	"slices"
	"strconv"
	"strings"
	"testing"
)

func TestChange(t *testing.T) {
	w := told("server a", loading("a", "ex.", 7))
	play(t, w, `
> change a ex. + x.ex. 60 TXT hi there "you
rcode 0
ok
> show a ex.
$ORIGIN ex.
@	60	IN	NS	ns.ex.
	60	IN	SOA	ns.ex. h.ex. 8 2 3 4 5
ns	60	IN	A	10.0.0.1
x	60	IN	TXT	"hi" "there" "\"you"
ok
> change a eX. + X.EX 61 MX 10 mail
rcode 0
ok
> change a ex. + x.ex. 5 MX 20 mail.org.
rcode 0
ok
> show a ex.
$ORIGIN ex.
@	60	IN	NS	ns.ex.
	60	IN	SOA	ns.ex. h.ex. 10 2 3 4 5
ns	60	IN	A	10.0.0.1
X.EX.	5	IN	MX	10 mail.eX.
x	5	IN	MX	20 mail.org.
	60	IN	TXT	"hi" "there" "\"you"
ok
> change a ex. - x.ex. 999 MX 10 MAIL
rcode 0
ok
> change a ex. - x.ex. 0 MX 20 mail
rcode 0
ok
> show a ex.
$ORIGIN ex.
@	60	IN	NS	ns.ex.
	60	IN	SOA	ns.ex. h.ex. 11 2 3 4 5
ns	60	IN	A	10.0.0.1
x	5	IN	MX	20 mail.org.
	60	IN	TXT	"hi" "there" "\"you"
ok
> change a ex. = x.ex. 999 ANY 10 words ( " \
rcode 0
ok
> change a ex. = x.ex. 0 ANY -
rcode 0
ok
> change a ex. = ex. 0 NS -
rcode 0
ok
> change a ex. + ex. 60 TYPE700 \# 2 0a 0b
rcode 0
ok
> show a ex.
$ORIGIN ex.
@	60	IN	NS	ns.ex.
	60	IN	SOA	ns.ex. h.ex. 13 2 3 4 5
	60	IN	TYPE700	\# 2 0a0b
ns	60	IN	A	10.0.0.1
ok
> change a ex. + y.ex. 60 TXT \# 2 01 61
rcode 0
ok
> ask a y.ex. TXT -
rcode 0 aa
an y.ex. 60 TXT "a"
ok
> change a ex. - y.ex. 60 TXT a
rcode 0
ok
> ask a y.ex. TXT -
rcode 3 aa
au ex. 5 SOA ns.ex. h.ex. 15 2 3 4 5
ok
> change a ex. + ex. 30 SOA ns h 12 1 1 1 1
rcode 0
ok
> change a ex. + ex. 30 SOA ns h 99 1 1 1 1
rcode 0
ok
> ask a ex. SOA -
rcode 0 aa
an ex. 30 SOA ns.ex. h.ex. 99 1 1 1 1
ok`)
}

// TestChangeRefused: with a code other than 0 nothing has changed.
func TestChangeRefused(t *testing.T) {
	w := told("server a", "server b", loading("a", "ex.", 7, "d DNAME org."))
	before := show(w, "a", "ex.")
	for _, c := range [][2]string{
		{"+ x.org. 60 A 10.0.0.1", "rcode 10"},
		{"- x.org. 60 A 10.0.0.1", "rcode 10"},
		{"= . 60 ANY -", "rcode 10"},
		{"+ x.ex. 2147483648 A 10.0.0.1", "rcode 1"},
		{"+ x.ex. 4294967296 A 10.0.0.1", "rcode 1"},
		{"+ x.ex. 9999999999 A 10.0.0.1", "rcode 1"},
		{"+ *.ex. 60 NS ns", "rcode 5"},
		{"+ x.d.ex. 60 A 10.0.0.1", "rcode 5"},
		{"= ns.ex. 60 OPT -", "rcode 1"},
		{"= ns.ex. 60 AXFR -", "rcode 1"},
		// Nothing to be done.
		{"- x.ex. 60 A 10.0.0.1", "rcode 0"},
		{"- ns.ex. 60 A 10.0.0.9", "rcode 0"},
		{"+ ns.ex. 60 A 10.0.0.1", "rcode 0"},
		{"+ ns.ex. 60 CNAME x", "rcode 0"},
		{"= x.ex. 60 ANY -", "rcode 0"},
		{"= ex. 60 ANY -", "rcode 0"},
		{"- ex. 60 NS ns", "rcode 0"},
		{"+ ex. 60 SOA ns h 7 9 9 9 9", "rcode 0"},
	} {
		checkDo(t, w, "change a ex. "+c[0], c[1], "ok")
		if got := show(w, "a", "ex."); !slices.Equal(got, before) {
			t.Errorf("P16.1: behind %s a has %q; wanted %q", c[0], got, before)
		}
	}
	checkDo(t, w, "change a ex. + x.ex. 2147483647 A 10.0.0.1", "rcode 0", "ok")
	checkLast(t, w, "ask a x.ex. A -", "an x.ex. 2147483647 A 10.0.0.1")
}

func TestChangeFaults(t *testing.T) {
	w := told("server a", "server b", loading("a", "ex.", 7))
	before := show(w, "a", "ex.")
	for _, c := range [][2]string{
		{"a ex. % x.ex. 60 A 10.0.0.1", "error 23"},
		{"a ex. ++ x.ex. 60 A 10.0.0.1", "error 23"},
		{"a ex. add x.ex. 60 A 10.0.0.1", "error 23"},
		{"a ex. == x.ex. 60 A 10.0.0.1", "error 23"},
		{"a ex. + x.ex. 60 A 10.0.0", "error 2"},
		{"a ex. - x.ex. 60 A 10.0.0", "error 2"},
		{"a ex. + x.ex. 60 A 10.0.0.1 10.0.0.2", "error 2"},
		{"a ex. - x.ex. 60 MX 10", "error 2"},
		{"a ex. + x.ex. 60 MX \"10\" a", "error 2"},
		{"a ex. + x.ex. 60 NS " + strings.Repeat("x", 64), "error 3"},
		{"a ex. + x.ex. 60 NS " + strings.Repeat("123456789.", 25) + "x", "error 4"}, // too long with the apex
		{"a ex. - x.ex. 60 A \\# 1 00", "error 7"},
		{"a ex. + x.ex. 60 ANY 10.0.0.1", "error 6"},
		{"a ex. + x.ex. 60 TYPE700 10.0.0.1", "error 2"},
		{"a org. + x.org. 60 A 10.0.0.1", "error 28"},
		{"a . + x.ex. 60 A 10.0.0.1", "error 28"},
		{"a x.ex. + x.ex. 60 A 10.0.0.1", "error 28"},
		{"b ex. + x.ex. 60 A 10.0.0.1", "error 28"},
		{"c ex. + x.ex. 60 A 10.0.0.1", "error 28"},
	} {
		checkDo(t, w, "change "+c[0], c[1])
	}
	if got := show(w, "a", "ex."); !slices.Equal(got, before) {
		t.Errorf("P16.1: behind errors a has %q; wanted %q", got, before)
	}
	// As long as it may be, by the apex.
	checkDo(t, w, "change a ex. + x.ex. 60 NS "+strings.Repeat("123456789.", 24)+"12345678", "rcode 0", "ok")
	checkDo(t, w, "change a ex. + x.ex. 60 TXT "+strings.Repeat("t", 255), "rcode 0", "ok")
	checkDo(t, w, "change a ex. + x.ex. 60 TXT \""+strings.Repeat("t", 255)+"\"", "error 2") // quotes are bytes here
}

// TestChangeHistory: each change that is one goes into the history, and eight
// zones are kept.
func TestChangeHistory(t *testing.T) {
	for count, want := range map[int]string{0: "1", 1: "1", 2: "1", 7: "2", 8: "4", 9: "4"} {
		w := told("server a", "server b", loading("a", "ex.", 7, many, "$GENERATE 41-50 h$ A 10.0.1.$"), "copy a b ex.")
		for i := range count {
			tell(w, "change a ex. + x.ex. 60 A 10.0.0."+strconv.Itoa(i))
			// None of these is one.
			tell(w, "change a ex. + x.ex. 60 A 10.0.0."+strconv.Itoa(i), "change a ex. + x.org. 60 A 10.0.0.1", "change a ex. = y.ex. 0 ANY -")
		}
		checkDo(t, w, "copy a b ex.", want, "ok")
		if !slices.Equal(show(w, "a", "ex."), show(w, "b", "ex.")) {
			t.Errorf("P16.1: behind %d changes the copy is %q", count, show(w, "b", "ex."))
		}
	}
}
