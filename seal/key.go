package seal

import (
	"gazetteer/api"
	"gazetteer/name"
	"gazetteer/spell"
)

// Limits of keys. Those that are made have to keep to more than others that
// are right.
const (
	maxNumber      = 2147483647 // of each number of a key
	minModulus     = 6
	minMadeModulus = 65537
	minMadePower   = 3
	maxMadePower   = 65535
)

// NewKey: a key.
func NewKey(p, q, e, flags int) (api.Key, api.Errno) {
	if !isFlags(flags) || e%2 == 0 || e < minMadePower || e > maxMadePower || !isPair(p, q) {
		return api.Key{}, api.ErrKey
	}
	secret := inverse(e, (p-1)*(q-1))
	if secret == 0 {
		return api.Key{}, api.ErrKey
	}
	return api.Key{Flags: flags, Modulus: p * q, Exponent: e, Secret: secret}, api.OK
}

func isFlags(flags int) bool { return flags == api.ZoneKey || flags == api.EntryKey }

// isPair: may p and q make a key's modulus?
func isPair(p, q int) bool {
	if p == q || !isNumber(p) || !isNumber(q) {
		return false
	}
	// Both being numbers of 31 bits, their product is one of an int.
	return p*q >= minMadeModulus && p*q <= maxNumber && isPrime(p) && isPrime(q)
}

// isNumber: may it be a number of a key?
func isNumber(n int) bool { return 1 <= n && n <= maxNumber }

func isPrime(n int) bool {
	for d := 2; d*d <= n; d++ {
		if n%d == 0 {
			return false
		}
	}
	return n > 1
}

// inverse: the number from 1 to m-1 that is 1, mod m, when taken e times; 0 if
// there is none. (m is at least 2.)
func inverse(e, m int) int {
	// All along, x times e is a, and y times e is b, mod m.
	a, x := m, 0
	b, y := e, 1
	for b != 0 {
		k := a / b
		a, b = b, a-k*b
		x, y = y, x-k*y
	}
	if a != 1 {
		return 0
	}
	return (x%m + m) % m
}

func isRight(k api.Key) bool {
	return isFlags(k.Flags) && k.Modulus >= minModulus &&
		isNumber(k.Modulus) && isNumber(k.Exponent) && isNumber(k.Secret)
}

// keyProtocol: what all DNSKEY tell behind their flags.
const keyProtocol = 3

// Public: what is told of a key.
func Public(k api.Key) string {
	if !isRight(k) {
		return ""
	}
	return spell.Bytes(k.Flags, 2) + spell.Bytes(keyProtocol, 1) + spell.Bytes(api.SealAlg, 1) +
		spell.Bytes(k.Modulus, 4) + spell.Bytes(k.Exponent, 4)
}

// publicSize: how many bytes Public gives.
const publicSize = 12

// keyOf: a key that data tell, if they are a key's.
func keyOf(d string) (api.Key, bool) {
	if len(d) != publicSize {
		return api.Key{}, false
	}
	// Nothing is told of the secret: any will do.
	k := api.Key{Flags: spell.Value(d[:2]), Modulus: spell.Value(d[4:8]), Exponent: spell.Value(d[8:]), Secret: 1}
	return k, Public(k) == d
}

// Tag: a small number of a key's data.
func Tag(d string) int {
	total := 0
	for i := range len(d) {
		total += int(d[i]) << (8 * (1 - i%2))
	}
	return (total + total/65536) % 65536
}

// Ds: what a zone above tells of a key.
func Ds(owner, d string) (string, api.Errno) {
	if name.Check(owner) != api.OK {
		return "", api.ErrName
	}
	if _, ok := keyOf(d); !ok {
		return "", api.ErrKey
	}
	digest := Digest(name.Fold(owner) + d)
	return spell.Bytes(Tag(d), 2) + spell.Bytes(api.SealAlg, 1) + spell.Bytes(api.SealSum, 1) + digest, api.OK
}
