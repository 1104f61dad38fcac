package seal_test

import (
	"math"
	"strings"
	"testing"

	"gazetteer/api"
	"gazetteer/seal"
)

func TestNewKey(t *testing.T) {
	for _, c := range []struct {
		p, q, e, flags  int
		modulus, secret int
	}{
		{251, 263, 3, 257, 66013, 43667},
		{263, 251, 3, 256, 66013, 43667},
		{257, 263, 3, 257, 67591, 44715},
		{2, 32771, 3, 257, 65542, 21847},                   // the smallest product of two primes that is enough; a prime that isn't odd
		{3, 715827881, 3, 256, 2147483643, 477218587},      // the greatest
		{2699, 795659, 65535, 256, 2147483641, 2049267995}, // the greatest e
	} {
		k, e := seal.NewKey(c.p, c.q, c.e, c.flags)
		if want := (api.Key{Flags: c.flags, Modulus: c.modulus, Exponent: c.e, Secret: c.secret}); k != want || e != api.OK {
			t.Errorf("P6.3 NewKey(%d, %d, %d, %d) = %+v, %d; wanted %+v", c.p, c.q, c.e, c.flags, k, e, want)
		}
	}
}

func TestNewKeyWrong(t *testing.T) {
	for _, c := range [][4]int{
		{7, 13, 5, 257},
		{251, 263, 5, 257},      // 5 is a divisor of 250
		{251, 263, 131, 257},    // and 131 of 262
		{257, 263, 393, 257},    // 3 * 131 and 262
		{263, 263, 3, 257},      // not two
		{19, 3449, 5, 257},      // 65531
		{3, 715827883, 5, 257},  // 2147483649
		{2, 1073741827, 5, 257}, // 2147483654
		{1, 65537, 3, 257},      // 1 is no prime
		{65537, 1, 3, 257},
		{0, 65537, 3, 257},
		{253, 263, 5, 257}, // 11 * 23
		{263, 253, 5, 257},
		{4, 30011, 7, 257},
		{30011, 9, 7, 257},
		{-251, -263, 3, 257},
		{-251, 263, 3, 257},
		{251, -263, 3, 257},
		{math.MinInt, -1, 3, 257},
		{math.MaxInt, 3, 3, 257},
		{3, math.MaxInt, 3, 257},
		{1 << 32, 1 << 32, 3, 257},                // their product has no place in 64 bits
		{1393752745661296367, 4294967311, 3, 257}, // two primes; what has place of their product is 65537
		{1393752745661296367, 4294967311, 5, 257},
		{1393752745661296367, 4294967311, 13, 257},
		{4294967311, 1393752745661296367, 13, 257},
		{251, 263, 4, 257},
		{251, 263, 2, 257},
		{251, 263, 1, 257},
		{251, 263, -1, 257},
		{251, 263, -3, 257},
		{251, 263, 0, 257},
		{257, 263, 65537, 257},
		{257, 263, 65539, 257},
		{257, 263, math.MinInt, 257},
		{257, 263, math.MaxInt, 257},
		{251, 263, 3, 255},
		{251, 263, 3, 258},
		{251, 263, 3, 0},
		{251, 263, 3, -257},
		{251, 263, 3, 257 + 65536},
	} {
		if k, e := seal.NewKey(c[0], c[1], c[2], c[3]); k != (api.Key{}) || e != api.ErrKey {
			t.Errorf("P6.3 NewKey(%v) = %+v, %d; wanted nothing and %d", c, k, e, api.ErrKey)
		}
	}
}

// primes gives those from one number up to another, by a sieve.
func primes(from, to int) []int {
	crossed := make([]bool, to+1)
	var found []int
	for i := 2; i <= to; i++ {
		if crossed[i] {
			continue
		}
		if i >= from {
			found = append(found, i)
		}
		for j := 2 * i; j <= to; j += i {
			crossed[j] = true
		}
	}
	return found
}

// TestNewKeyAll: all that P6.3 says of a key, for all p and q of a row.
func TestNewKeyAll(t *testing.T) {
	isPrime := make(map[int]bool)
	for _, p := range primes(2, 300) {
		isPrime[p] = true
	}
	keys := 0
	for p := 230; p < 300; p++ {
		for q := 230; q < 300; q++ {
			for e := 1; e < 24; e++ {
				phi, secret := (p-1)*(q-1), 0
				if p != q && isPrime[p] && isPrime[q] && p*q >= 65537 && e%2 == 1 && e >= 3 {
					secret = modelInverse(e, phi)
				}
				var want api.Key
				code := api.ErrKey
				if secret > 0 {
					want, code = api.Key{Flags: 256, Modulus: p * q, Exponent: e, Secret: secret}, api.OK
					keys++
				}
				if k, c := seal.NewKey(p, q, e, 256); k != want || c != code {
					t.Fatalf("P6.3 NewKey(%d, %d, %d, 256) = %+v, %d; wanted %+v, %d", p, q, e, k, c, want, code)
				}
			}
		}
	}
	if keys < 500 {
		t.Errorf("%d keys", keys)
	}
}

// modelInverse: of the numbers that are 1 mod m the one that e divides; 0 if
// none up to e times m is.
func modelInverse(e, m int) int {
	for k := range e {
		if (k*m+1)%e == 0 {
			return (k*m + 1) / e
		}
	}
	return 0
}

func TestPublic(t *testing.T) {
	for _, c := range []struct {
		k    api.Key
		want string
	}{
		{entry(), "\x01\x01\x03\xfd\x00\x01\x01\xdd\x00\x00\x00\x03"},
		{api.Key{Flags: 256, Modulus: 6, Exponent: 1, Secret: 1}, "\x01\x00\x03\xfd\x00\x00\x00\x06\x00\x00\x00\x01"},
		{api.Key{Flags: 256, Modulus: 2147483647, Exponent: 2147483647, Secret: 2147483647}, "\x01\x00\x03\xfd\x7f\xff\xff\xff\x7f\xff\xff\xff"},
		{api.Key{}, ""},
		{api.Key{Flags: 255, Modulus: 6, Exponent: 1, Secret: 1}, ""},
		{api.Key{Flags: 258, Modulus: 6, Exponent: 1, Secret: 1}, ""},
		{api.Key{Flags: 256 + 65536, Modulus: 6, Exponent: 1, Secret: 1}, ""},
		{api.Key{Flags: 256, Modulus: 5, Exponent: 1, Secret: 1}, ""},
		{api.Key{Flags: 256, Modulus: -6, Exponent: 1, Secret: 1}, ""},
		{api.Key{Flags: 256, Modulus: 2147483648, Exponent: 1, Secret: 1}, ""},
		{api.Key{Flags: 256, Modulus: 6 + 1<<32, Exponent: 1, Secret: 1}, ""},
		{api.Key{Flags: 256, Modulus: 6, Exponent: 0, Secret: 1}, ""},
		{api.Key{Flags: 256, Modulus: 6, Exponent: -1, Secret: 1}, ""},
		{api.Key{Flags: 256, Modulus: 6, Exponent: 2147483648, Secret: 1}, ""},
		{api.Key{Flags: 256, Modulus: 6, Exponent: 1, Secret: 0}, ""},
		{api.Key{Flags: 256, Modulus: 6, Exponent: 1, Secret: -1}, ""},
		{api.Key{Flags: 256, Modulus: 6, Exponent: 1, Secret: 2147483648}, ""},
	} {
		if got := seal.Public(c.k); got != c.want {
			t.Errorf("P6.4 Public(%+v) = %x; wanted %x", c.k, got, c.want)
		}
	}
}

func TestTag(t *testing.T) {
	for _, c := range []struct {
		d    string
		want int
	}{
		{"", 0},
		{"\x01", 256},
		{"\x00\x01", 1},
		{"\xff\xff", 65535},
		{"\xff\xff\x00\x01", 1},                    // 65536 and 1
		{"\xff\xff\x00\x02", 2},                    // 65537 and 1
		{"\xff\xff\xff", 65280},                    // 65535 + 65280 is 130815, 65279 mod 65536; and 1
		{"\x00\x00\x01\x02\x03", 1026},             // 256 + 2 + 768
		{strings.Repeat("\xff\xff", 65538), 65534}, // 65536 * 65536 + 65534: what is added has no place in two bytes, either
		{seal.Public(entry()), 1759},
	} {
		if got := seal.Tag(c.d); got != c.want {
			t.Errorf("P6.4 Tag(%.20q) = %d; wanted %d", c.d, got, c.want)
		}
	}
}

func TestDs(t *testing.T) {
	d := seal.Public(entry())
	for _, c := range []struct{ owner, want string }{
		{n("ex."), "\x06\xdf\xfd\x01\x3d\x1b\x89\x81\x6d\x5c\xa3\xdf\x5f\x50"},
		{n("eX."), "\x06\xdf\xfd\x01\x3d\x1b\x89\x81\x6d\x5c\xa3\xdf\x5f\x50"},
		{api.Root, "\x06\xdf\xfd\x01\xa6\xe3\x0b\xc8\x46\x24\xaa\xab\xec\x9d"},
	} {
		if got, e := seal.Ds(c.owner, d); got != c.want || e != api.OK {
			t.Errorf("P6.4 Ds(%q) = %x, %d; wanted %x", c.owner, got, e, c.want)
		}
	}
	least := seal.Public(api.Key{Flags: 256, Modulus: 6, Exponent: 1, Secret: 1})
	most := seal.Public(api.Key{Flags: 256, Modulus: 2147483647, Exponent: 2147483647, Secret: 1})
	for _, d := range []string{least, most} {
		want := string([]byte{byte(seal.Tag(d) >> 8), byte(seal.Tag(d)), 253, 1}) + seal.Digest("\x02ex\x00"+d)
		if got, e := seal.Ds(n("ex."), d); got != want || e != api.OK {
			t.Errorf("P6.4 Ds(ex., %x) = %x, %d; wanted %x", d, got, e, want)
		}
	}
}

// noKeys: data that aren't a key's, by what spoils them.
func noKeys() map[string]string {
	d := seal.Public(entry())
	return map[string]string{
		"nothing":          "",
		"too short":        d[:11],
		"too long":         d + "\x00",
		"flags 255":        put(d, 0, "\x00\xff"),
		"flags 258":        put(d, 0, "\x01\x02"),
		"protocol 2":       put(d, 2, "\x02"),
		"algorithm 252":    put(d, 3, "\xfc"),
		"modulus 0":        put(d, 4, "\x00\x00\x00\x00"),
		"modulus 5":        put(d, 4, "\x00\x00\x00\x05"),
		"modulus 2 to 31":  put(d, 4, "\x80\x00\x00\x00"),
		"exponent 0":       put(d, 8, "\x00\x00\x00\x00"),
		"exponent 2 to 31": put(d, 8, "\x80\x00\x00\x00"),
	}
}

func TestDsWrong(t *testing.T) {
	for why, d := range noKeys() {
		if got, e := seal.Ds(n("ex."), d); got != "" || e != api.ErrKey {
			t.Errorf("P6.4 Ds(ex., %x) = %x, %d; wanted %d: %s", d, got, e, api.ErrKey, why)
		}
		if got, e := seal.Ds("ex", d); got != "" || e != api.ErrName {
			t.Errorf("P6.4 Ds of no name = %x, %d; wanted %d: %s", got, e, api.ErrName, why)
		}
	}
	if got, e := seal.Ds("", seal.Public(entry())); got != "" || e != api.ErrName {
		t.Errorf("P6.4 Ds of no name = %x, %d; wanted %d", got, e, api.ErrName)
	}
}
