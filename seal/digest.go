package seal

import (
	"gazetteer/api"
	"gazetteer/name"
	"gazetteer/spell"
)

// sum: one number of a digest, as far as it is reckoned. It stays below its
// prime, so that no step leaves 64 bits.
type sum struct{ value, times, prime uint64 }

// sumSize: how many bytes tell a sum.
const sumSize = 5

func (s *sum) add(b byte) { s.value = (s.value*s.times + uint64(b) + 1) % s.prime }

func (s *sum) bytes() string { return spell.Bytes(int(s.value), sumSize) }

// Digest: ten bytes.
func Digest(text string) string {
	first := sum{1, 1000003, 1099511627689}
	second := sum{1, 999983, 1099511627563}
	feed(text, first.add, second.add)
	return first.bytes() + second.bytes()
}

// feed hands each byte of a text to all who add.
func feed(text string, adders ...func(byte)) {
	for i := range len(text) {
		for _, add := range adders {
			add(text[i])
		}
	}
}

// maxSalt: the most bytes of a salt. Records tell their number in one byte.
const maxSalt = 255

// Hash: of a name.
func Hash(n, salt string, rounds int) (string, api.Errno) {
	if name.Check(n) != api.OK {
		return "", api.ErrName
	}
	if len(salt) > maxSalt || rounds < 0 || rounds > api.MaxRounds {
		return "", api.ErrArg
	}
	hash := Digest(name.Fold(n) + salt)
	for range rounds {
		hash = Digest(hash + salt)
	}
	return hash, api.OK
}
