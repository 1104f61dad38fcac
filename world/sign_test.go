package world_test

import (
	"slices"
	"strings"
	"testing"
)

func TestSign(t *testing.T) {
	w := told("server a", "load a ex. @ 60 IN SOA ns h 1 2 3 4 5|@ 60 IN NS ns|ns 60 IN A 10.0.0.1")
	play(t, w, `
> sign a ex. 251 263 3 5 100
1759 253 1 3d1b89816d5ca3df5f50
ok
> show a ex.
$ORIGIN ex.
@	60	IN	NS	ns.ex.
	60	IN	SOA	ns.ex. h.ex. 1 2 3 4 5
	60	IN	RRSIG	NS 253 1 60 100 5 1759 ex. AAAPGQ==
	60	IN	RRSIG	SOA 253 1 60 100 5 1759 ex. AAC/nQ==
	5	IN	RRSIG	NSEC 253 1 5 100 5 1759 ex. AABaiA==
	60	IN	RRSIG	DNSKEY 253 1 60 100 5 1759 ex. AAAckQ==
	5	IN	NSEC	ns.ex. NS SOA RRSIG NSEC DNSKEY
	60	IN	DNSKEY	257 3 253 AAEB3QAAAAM=
ns	60	IN	A	10.0.0.1
	60	IN	RRSIG	A 253 2 60 100 5 1759 ex. AAAP0w==
	5	IN	RRSIG	NSEC 253 2 5 100 5 1759 ex. AAAyrg==
	5	IN	NSEC	ex. A RRSIG NSEC
ok
> ask a ns.ex. A -
rcode 0 aa
an ns.ex. 60 A 10.0.0.1
ok
> ask a ns.ex. A +
rcode 0 aa
an ns.ex. 60 A 10.0.0.1
an ns.ex. 60 RRSIG A 253 2 60 100 5 1759 ex. AAAP0w==
ok
> ask a x.ex. A +
rcode 3 aa
au ex. 5 SOA ns.ex. h.ex. 1 2 3 4 5
au ex. 60 RRSIG SOA 253 1 60 100 5 1759 ex. AAC/nQ==
au ex. 5 NSEC ns.ex. NS SOA RRSIG NSEC DNSKEY
au ex. 5 RRSIG NSEC 253 1 5 100 5 1759 ex. AABaiA==
au ns.ex. 5 NSEC ex. A RRSIG NSEC
au ns.ex. 5 RRSIG NSEC 253 2 5 100 5 1759 ex. AAAyrg==
ok`)
}

// TestSignKeys: another key, another digest; that of a name and a key, whatever
// its letters.
func TestSignKeys(t *testing.T) {
	w := told("server a", loading("a", "b.ex.", 1))
	checkDo(t, w, "sign a b.ex. 257 263 3 0 4294967295", "3337 253 1 4dae634a2336dfd55265", "ok")
	checkDo(t, w, "sign a B.eX 0257 0000000263 3 0 0", "3337 253 1 4dae634a2336dfd55265", "ok")
	checkDo(t, w, "sign a b.ex. 263 257 3 0 0", "3337 253 1 4dae634a2336dfd55265", "ok")
}

func TestSignFaults(t *testing.T) {
	w := told("server a", "server b", loading("a", "ex.", 1))
	before := show(w, "a", "ex.")
	for _, c := range [][2]string{
		{"a ex. 7 13 5 0 9", "error 24"},        // too small
		{"a ex. 251 263 5 0 9", "error 24"},     // a divisor
		{"a ex. 251 251 3 0 9", "error 24"},     // the same
		{"a ex. 251 264 3 0 9", "error 24"},     // no prime
		{"a ex. 251 263 4 0 9", "error 24"},     // even
		{"a ex. 251 263 1 0 9", "error 24"},     // too small
		{"a ex. 251 263 65537 0 9", "error 24"}, // too great
		{"a ex. 46337 46349 3 0 9", "error 24"}, // too great a product
		{"a ex. 0 0 0 0 9", "error 24"},
		{"a ex. 9999999999 9999999999 9999999999 0 9", "error 24"},
		{"a ex. 251 263 3 10 9", "error 25"},
		{"a ex. 251 263 3 0 4294967296", "error 25"},
		{"a ex. 251 263 3 4294967296 9999999999", "error 25"},
		{"a ex. 7 13 5 10 9", "error 24"},
		{"a x.ex. 251 263 3 0 9", "error 28"},
		{"a . 251 263 3 0 9", "error 28"},
		{"b ex. 251 263 3 0 9", "error 28"},
		{"b ex. 7 13 5 10 9", "error 28"},
		{"c ex. 251 263 3 0 9", "error 28"},
	} {
		checkDo(t, w, "sign "+c[0], c[1])
	}
	if got := show(w, "a", "ex."); !slices.Equal(got, before) {
		t.Errorf("P16.1: behind errors a has %q; wanted %q", got, before)
	}
	checkDo(t, w, "show b ex.", "error 28")
	// A zone that grows too large.
	tell(w, loading("a", "ex.", 1, "$GENERATE 1-1000 h$ A 10.0.0.1"))
	checkDo(t, w, "sign a ex. 251 263 3 0 9", "error 20")
	checkDo(t, w, "anchor a ex.", "0", "ok")
}

// TestSignAgain: what signing made earlier goes; the zone's letters stay.
func TestSignAgain(t *testing.T) {
	w := told("server a", loading("a", "Ex.", 7, "*.W TXT a b", "b NS ns.b", "ns.b A 10.0.0.2"), "sign a eX. 257 263 3 5 100")
	once := show(w, "a", "Ex.")
	tell(w, "sign a ex. 251 263 3 0 9", "sign a EX. 257 263 3 5 100")
	if got := show(w, "a", "Ex."); !slices.Equal(got, once) {
		t.Errorf("P16.1: signed again %q; wanted %q", got, once)
	}
	if n := strings.Count(strings.Join(once, "\n"), "DNSKEY\t257"); n != 1 {
		t.Errorf("P16.1: %d keys in %q", n, once)
	}
	if !slices.Contains(once, "@\t60\tIN\tDNSKEY\t257 3 253 AAEIBwAAAAM=") || !slices.Contains(once, "*.W\t60\tIN\tTXT\t\"a\" \"b\"") {
		t.Errorf("P16.1: signed %q", once)
	}
}

// TestSignHistory: a signed zone has the serial that it had, so a history
// begins with it.
func TestSignHistory(t *testing.T) {
	w := told("server a", "server b", loading("a", "ex.", 1, many), "copy a b ex.", "change a ex. + x.ex. 60 A 10.0.0.9", "sign a ex. 251 263 3 0 9", "change a ex. + y.ex. 60 A 10.0.0.9")
	// b asks since serial 1, which isn't kept: 48 sets that are signed, and more.
	got := tell(w, "copy a b ex.")
	if got[0] == "1" || got[0] == "2" || got[0] == "3" {
		t.Errorf("P16.1: a copy of a signed zone took %q", got)
	}
	if !slices.Equal(show(w, "a", "ex."), show(w, "b", "ex.")) {
		t.Errorf("P16.1: the copy is %q", show(w, "b", "ex."))
	}
	tell(w, "change a ex. + z.ex. 60 A 10.0.0.9")
	checkDo(t, w, "copy a b ex.", "1", "ok")
}
