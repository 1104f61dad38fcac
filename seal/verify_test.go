package seal_test

import (
	"math"
	"testing"

	"gazetteer/api"
	"gazetteer/data"
	"gazetteer/seal"
)

// try: what Verify is given.
type try struct {
	set      []api.Record
	sig      api.Record
	owner, d string
	now      int
}

func (c try) verify() api.Errno { return seal.Verify(c.set, c.sig, c.owner, c.d, c.now) }

// right gives what fits.
func right(t *testing.T) try {
	t.Helper()
	set := list("a.b MX 10 m", "a.b MX 20 o.org.")
	return try{set, signed(t, set), n("ex."), seal.Public(entry()), 150}
}

// Places in the data of signatures.
const (
	algorithmAt = 2
	labelsAt    = 3
	ageAt       = 4
	tagAt       = 16
	signerAt    = 18
)

// spoilers: for each error of Verify, in their order, what makes it hold and
// leaves those told ahead of it as they are.
func spoilers() []struct {
	e     api.Errno
	spoil func(*try)
} {
	return []struct {
		e     api.Errno
		spoil func(*try)
	}{
		{api.ErrForm, func(c *try) { c.sig.Class = 3 }},
		{api.ErrType, func(c *try) { c.sig.Data = put(c.sig.Data, 0, "\x00\x10") }},
		{api.ErrOutside, func(c *try) { c.sig.Owner = n("a.c.ex.") }},
		{api.ErrName, func(c *try) { c.owner = n("b.ex.") }},
		{api.ErrKey, func(c *try) { c.d = "" }},
		{api.ErrLabel, func(c *try) { c.sig.Data = put(c.sig.Data, labelsAt, "\x04") }},
		{api.ErrTime, func(c *try) { c.now = 201 }},
		{api.ErrSig, func(c *try) { c.sig.Data += "\x00" }},
	}
}

// TestVerifyOrder: each error by itself, and with all those that are told later.
func TestVerifyOrder(t *testing.T) {
	if e := right(t).verify(); e != api.OK {
		t.Errorf("P6.6 Verify = %d", e)
	}
	for i, s := range spoilers() {
		alone := right(t)
		s.spoil(&alone)
		if e := alone.verify(); e != s.e {
			t.Errorf("P6.6 Verify = %d; wanted %d", e, s.e)
		}
		many := right(t)
		for _, later := range spoilers()[i:] {
			later.spoil(&many)
		}
		if e := many.verify(); e != s.e {
			t.Errorf("P6.6 Verify = %d; wanted %d, ahead of the errors behind it", e, s.e)
		}
	}
}

func TestVerifyForm(t *testing.T) {
	for why, set := range wrongSets() {
		c := right(t)
		c.set = set
		if e := c.verify(); e != api.ErrForm {
			t.Errorf("P6.6 Verify(%+v) = %d; wanted %d: %s", set, e, api.ErrForm, why)
		}
	}
	for why, change := range map[string]func(*api.Record){
		"no owner":              func(r *api.Record) { r.Owner = "" },
		"another type":          func(r *api.Record) { r.Type = api.MX },
		"a type without a form": func(r *api.Record) { r.Type = 65280 },
		"class 255":             func(r *api.Record) { r.Class = api.ClsAny },
		"an age below 0":        func(r *api.Record) { r.TTL = -1 },
		"an age of 2 to 31":     func(r *api.Record) { r.TTL = 2147483648 },
		"no data":               func(r *api.Record) { r.Data = "" },
		"no signature":          func(r *api.Record) { r.Data = r.Data[:len(r.Data)-4] },
		"it covers 0":           func(r *api.Record) { r.Data = put(r.Data, 0, "\x00\x00") },
		"no signer":             func(r *api.Record) { r.Data = put(r.Data, signerAt, "\x40") },
	} {
		c := right(t)
		change(&c.sig)
		if e := c.verify(); e != api.ErrForm {
			t.Errorf("P6.6 Verify with %+v = %d; wanted %d: %s", c.sig, e, api.ErrForm, why)
		}
	}
}

// TestVerifyOne: one thing that is other than what was signed.
func TestVerifyOne(t *testing.T) {
	other, _ := seal.NewKey(257, 263, 3, 257)
	for _, c := range []struct {
		why    string
		change func(*try)
		e      api.Errno
	}{
		{"it covers signatures", func(c *try) { c.sig.Data = put(c.sig.Data, 0, "\x00\x2e") }, api.ErrType},
		{"it covers ANY", func(c *try) { c.sig.Data = put(c.sig.Data, 0, "\x00\xff") }, api.ErrType},
		{"its owner is one above", func(c *try) { c.sig.Owner = n("b.ex.") }, api.ErrOutside},
		{"its owner is the star", func(c *try) { c.sig.Owner = n("*.b.ex.") }, api.ErrOutside},
		{"its owner in other letters", func(c *try) { c.sig.Owner = n("A.b.EX.") }, api.OK},
		{"its signer is elsewhere", func(c *try) { c.sig.Data = put(c.sig.Data, signerAt, "\x02ey\x00") }, api.ErrOutside},
		{"its signer is elsewhere, and so is the zone", func(c *try) { c.sig.Data, c.owner = put(c.sig.Data, signerAt, "\x02ey\x00"), n("ey.") }, api.ErrOutside},
		{"its signer in other letters", func(c *try) { c.sig.Data = put(c.sig.Data, signerAt, "\x02eX\x00") }, api.OK},
		{"the zone in other letters", func(c *try) { c.owner = n("Ex.") }, api.OK},
		{"the zone is below", func(c *try) { c.owner = n("a.b.ex.") }, api.ErrName},
		{"the zone is above", func(c *try) { c.owner = api.Root }, api.ErrName},
		{"the zone is no name", func(c *try) { c.owner = "" }, api.ErrName},
		{"the zone is a name without its end", func(c *try) { c.owner = "\x02ex" }, api.ErrName},
		{"another algorithm", func(c *try) { c.sig.Data = put(c.sig.Data, algorithmAt, "\xfc") }, api.ErrKey},
		{"another tag", func(c *try) { c.sig.Data = put(c.sig.Data, tagAt, "\x06\xde") }, api.ErrKey},
		{"another key", func(c *try) { c.d = seal.Public(other) }, api.ErrKey},
		{"another key of that tag", func(c *try) { c.d = put(put(c.d, 4, "\x00\x00"), 8, "\x00\x01") }, api.ErrSig},
		{"a key for zones", func(c *try) { c.d = put(c.d, 1, "\x00") }, api.ErrKey},
		{"fewer labels", func(c *try) { c.sig.Data = put(c.sig.Data, labelsAt, "\x02") }, api.ErrSig},
		{"no labels", func(c *try) { c.sig.Data = put(c.sig.Data, labelsAt, "\x00") }, api.ErrSig},
		{"255 labels", func(c *try) { c.sig.Data = put(c.sig.Data, labelsAt, "\xff") }, api.ErrLabel},
		{"another age is told", func(c *try) { c.sig.Data = put(c.sig.Data, ageAt, "\x00\x00\x00\x3d") }, api.ErrSig},
		{"from on", func(c *try) { c.now = 100 }, api.OK},
		{"before from", func(c *try) { c.now = 99 }, api.ErrTime},
		{"until then", func(c *try) { c.now = 200 }, api.OK},
		{"behind until", func(c *try) { c.now = 201 }, api.ErrTime},
		{"long ago", func(c *try) { c.now = math.MinInt }, api.ErrTime},
		{"long behind", func(c *try) { c.now = math.MaxInt }, api.ErrTime},
		{"a later time is told", func(c *try) { c.sig.Data = put(c.sig.Data, 8, "\x00\x00\x00\xc9") }, api.ErrSig},
		{"an earlier time is told", func(c *try) { c.sig.Data = put(c.sig.Data, 12, "\x00\x00\x00\x63") }, api.ErrSig},
		{"another age of the signature", func(c *try) { c.sig.TTL = 0 }, api.OK},
		{"other ages", func(c *try) { c.set[0].TTL, c.set[1].TTL = 0, 2147483647 }, api.OK},
		{"another order", func(c *try) { c.set[0], c.set[1] = c.set[1], c.set[0] }, api.OK},
		{"other letters", func(c *try) { c.set[0].Owner, c.set[1].Data = n("a.B.ex."), "\x00\x14\x01O\x03oRG\x00" }, api.OK},
		{"other data", func(c *try) { c.set[0].Data = put(c.set[0].Data, 1, "\x0b") }, api.ErrSig},
		{"a record less", func(c *try) { c.set = c.set[:1] }, api.ErrSig},
		{"a record more", func(c *try) { c.set = append(c.set, list("a.b MX 30 m")...) }, api.ErrSig},
		{"another owner", func(c *try) {
			c.set = list("a.c MX 10 m", "a.c MX 20 o.org.")
			c.sig.Owner = n("a.c.ex.")
		}, api.ErrSig},
		{"another type", func(c *try) {
			c.set[0].Type, c.set[1].Type = 65280, 65280
			c.sig.Data = put(c.sig.Data, 0, "\xff\x00")
		}, api.ErrSig},
	} {
		try := right(t)
		c.change(&try)
		if e := try.verify(); e != c.e {
			t.Errorf("P6.6 Verify = %d; wanted %d: %s", e, c.e, c.why)
		}
	}
	for why, d := range noKeys() {
		try := right(t)
		try.d = d
		if e := try.verify(); e != api.ErrKey {
			t.Errorf("P6.6 Verify with the key %x = %d; wanted %d: %s", d, e, api.ErrKey, why)
		}
		// The tag fits: it is no key's all the same.
		tag := seal.Tag(d)
		try.sig.Data = put(try.sig.Data, tagAt, string([]byte{byte(tag >> 8), byte(tag)}))
		if e := try.verify(); e != api.ErrKey {
			t.Errorf("P6.6 Verify with the key %x, by its tag = %d; wanted %d: %s", d, e, api.ErrKey, why)
		}
	}
}

// TestVerifyNumber: the signature as a number.
func TestVerifyNumber(t *testing.T) {
	fit := right(t)
	bare, value := fit.sig.Data[:len(fit.sig.Data)-4], uint32(0)
	for _, b := range []byte(fit.sig.Data[len(bare):]) {
		value = value<<8 | uint32(b)
	}
	told := func(v uint32) string { return string([]byte{byte(v >> 24), byte(v >> 16), byte(v >> 8), byte(v)}) }
	for _, c := range []struct {
		signature string
		e         api.Errno
	}{
		{told(value), api.OK},
		{told(value + 1), api.ErrSig},
		{told(value ^ 1), api.ErrSig},
		{told(value + 66013), api.ErrSig}, // the same mod the modulus, and not below it
		{told(value + 66013*65000), api.ErrSig},
		{told(0), api.ErrSig},
		{told(66013), api.ErrSig},
		{told(math.MaxUint32), api.ErrSig},
		{told(value)[1:], api.ErrSig},      // the same number in three bytes
		{"\x00" + told(value), api.ErrSig}, // and in five
		{told(value) + "\x00", api.ErrSig},
		{"\x00", api.ErrSig},
	} {
		fit.sig.Data = bare + c.signature
		if e := fit.verify(); e != c.e {
			t.Errorf("P6.6 Verify with the signature %x = %d; wanted %d", c.signature, e, c.e)
		}
	}
}

// TestVerifyNought: a signature that is 0 fits, the modulus in its place doesn't.
func TestVerifyNought(t *testing.T) {
	least := api.Key{Flags: 256, Modulus: 6, Exponent: 1, Secret: 1}
	found := 0
	for age := range 100 {
		set := []api.Record{{Owner: n("a.ex."), Type: api.A, Class: api.IN, TTL: age, Data: "\x0a\x00\x00\x01"}}
		sig, e := seal.Sign(least, n("ex."), set, 5, 9)
		c := try{set, sig, n("ex."), seal.Public(least), 7}
		if e != api.OK || c.verify() != api.OK {
			t.Fatalf("P6.5, P6.6 Sign, Verify of age %d = %d, %d", age, e, c.verify())
		}
		at := len(sig.Data) - 4
		if sig.Data[at:] == "\x00\x00\x00\x00" {
			found++
			c.sig.Data = sig.Data[:at] + "\x00\x00\x00\x06"
			if e := c.verify(); e != api.ErrSig {
				t.Errorf("P6.6 Verify of the modulus = %d; wanted %d", e, api.ErrSig)
			}
		}
	}
	if found == 0 {
		t.Error("no signature is 0")
	}
}

// TestVerifyGreat: the greatest numbers that a key may have.
func TestVerifyGreat(t *testing.T) {
	set := list("a TXT x")
	for _, p := range [][2]int{{3, 715827881}, {2699, 795659}, {2, 32771}} {
		k, e := seal.NewKey(p[0], p[1], 3, 256)
		if e != api.OK {
			t.Fatalf("P6.3 NewKey(%v, 3) = %d", p, e)
		}
		sig, e := seal.Sign(k, n("ex."), set, 0, 9)
		if c := (try{set, sig, n("ex."), seal.Public(k), 9}); e != api.OK || c.verify() != api.OK {
			t.Errorf("P6.5, P6.6 Sign, Verify by %+v = %d, %d", k, e, c.verify())
		}
	}
	// A prime modulus is right, though NewKey makes none: e times d is 1 mod 2147483646.
	k := api.Key{Flags: 256, Modulus: 2147483647, Exponent: 2147483645, Secret: 2147483645}
	sig, e := seal.Sign(k, n("ex."), set, 0, 9)
	if c := (try{set, sig, n("ex."), seal.Public(k), 9}); e != api.OK || c.verify() != api.OK {
		t.Errorf("P6.5, P6.6 Sign, Verify by %+v = %d, %d", k, e, c.verify())
	}
	// A right key whose secret is another's signs too: it fits nothing.
	odd := entry()
	odd.Secret = 2147483647
	sig, e = seal.Sign(odd, n("ex."), set, 0, 9)
	if c := (try{set, sig, n("ex."), seal.Public(odd), 9}); e != api.OK || c.verify() != api.ErrSig {
		t.Errorf("P6.5, P6.6 Sign, Verify by %+v = %d, %d", odd, e, c.verify())
	}
}

// TestVerifyStar: a star's signature, for the names that it stands for and for others.
func TestVerifyStar(t *testing.T) {
	star := list("*.w TXT hello", "*.w TXT more")
	sig := signed(t, star)
	for _, c := range []struct {
		owner string
		e     api.Errno
	}{
		{"*.w.ex.", api.OK},
		{"*.W.ex.", api.OK},
		{"q.w.ex.", api.OK},
		{"q.P.W.ex.", api.OK},
		{"*.q.w.ex.", api.OK},
		{"*.*.w.ex.", api.OK},
		{"w.ex.", api.ErrSig},   // as many labels as the star without its own
		{"q.v.ex.", api.ErrSig}, // another star's
		{"*.v.ex.", api.ErrSig},
		{"ex.", api.ErrLabel},   // more labels than it has
		{"*.ex.", api.ErrLabel}, // a star isn't counted
	} {
		set := list("*.w TXT more", "*.w TXT hello")
		set[0].Owner, set[1].Owner = n(c.owner), n(c.owner)
		here := sig
		here.Owner = n(c.owner)
		if e := (try{set, here, n("ex."), seal.Public(entry()), 150}).verify(); e != c.e {
			t.Errorf("P6.6 Verify for %s = %d; wanted %d", c.owner, e, c.e)
		}
	}
	deepest := try{star, sig, n("ex."), seal.Public(entry()), 150}
	name := long(251)
	name = name[:len(name)-4] + "\x01w\x02ex\x00"
	deepest.set = with(with(star, 0, func(r *api.Record) { r.Owner = name }), 1, func(r *api.Record) { r.Owner = name })
	deepest.sig.Owner = name
	if e := deepest.verify(); e != api.OK || len(name) != 253 {
		t.Errorf("P6.6 Verify for a name of %d bytes = %d", len(name), e)
	}
}

// TestVerifyTypes: sets of all kinds of data.
func TestVerifyTypes(t *testing.T) {
	for _, line := range []string{
		"a A 10.0.0.1", "@ NS Ns", "a CNAME b", "@ SOA Ns H 1 2 3 4 5", "a PTR b", "a HINFO x y", "a MX 1 b", "a TXT x", "a AAAA ::1",
		"a SRV 1 2 3 b", "a NAPTR 1 2 x y z b", "a DNAME b", "a DS 1 253 1 00", "a NSEC B A", "@ DNSKEY 257 3 253 AAAA",
		"a NSEC3 1 0 0 - 00 A", "@ NSEC3PARAM 1 0 0 -", "a CAA 0 x y", `a TYPE731 \# 0`, `a TYPE65535 \# 1 00`, "a TXT x y z",
	} {
		set := list(line)
		c := try{set, signed(t, set), n("ex."), seal.Public(entry()), 150}
		if e := c.verify(); e != api.OK {
			t.Errorf("P6.6 Verify of %s = %d", line, e)
		}
		c.set[0].Data = data.Fold(set[0].Type, set[0].Data)
		if e := c.verify(); e != api.OK {
			t.Errorf("P6.6 Verify of %s, folded = %d", line, e)
		}
	}
	great := []api.Record{{Owner: n("a.ex."), Type: 731, Class: api.IN, Data: string(make([]byte, 65535))}}
	if e := (try{great, signed(t, great), n("ex."), seal.Public(entry()), 150}).verify(); e != api.OK {
		t.Errorf("P6.6 Verify of the longest data = %d", e)
	}
}

// TestMissing: which name must not be there, if a signature is a star's.
func TestMissing(t *testing.T) {
	for _, c := range []struct{ signed, stands, want string }{
		{"a.ex.", "a.ex.", ""},
		{"a.ex.", "A.EX.", ""},
		{"*.ex.", "*.ex.", ""},
		{"*.a.ex.", "*.a.ex.", ""},
		{"*.ex.", "a.ex.", "a.ex."},
		{"*.ex.", "c.b.A.ex.", "A.ex."},
		{"*.a.ex.", "c.b.a.ex.", "b.a.ex."},
		{"*.ex.", "*.a.ex.", "a.ex."},
		{"*.ex.", "*.b.a.ex.", "a.ex."},
		{"*.ex.", "*.*.ex.", "*.ex."},
	} {
		sig := signed(t, list(c.signed+" A 10.0.0.1"))
		sig.Owner = n(c.stands)
		set := list(c.stands + " A 10.0.0.1")
		if e := seal.Verify(set, sig, n("ex."), seal.Public(entry()), 150); e != api.OK {
			t.Fatalf("P6.6 Verify of %s by %s = %d", c.stands, c.signed, e)
		}
		want := ""
		if c.want != "" {
			want = n(c.want)
		}
		if got := seal.Missing(n(c.stands), sig); got != want {
			t.Errorf("Missing(%s) of the signature of %s = %q; wanted %q", c.stands, c.signed, got, want)
		}
	}
}
