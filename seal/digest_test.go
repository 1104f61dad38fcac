package seal_test

import (
	"math/big"
	"strings"
	"testing"

	"gazetteer/api"
	"gazetteer/seal"
)

// allBytes: each byte once, by rising numbers.
func allBytes() string {
	b := make([]byte, 256)
	for i := range b {
		b[i] = byte(i)
	}
	return string(b)
}

func TestDigest(t *testing.T) {
	for _, c := range [][2]string{
		{"", "\x00\x00\x00\x00\x01\x00\x00\x00\x00\x01"},
		{"a", "\x00\x00\x0f\x42\xa5\x00\x00\x0f\x42\x91"},
		{"example", "\x90\x16\x68\x4b\x69\x5f\x5f\xfd\xfe\x2e"},
		{"\xff\xff\xff", "\xb8\x37\x65\x09\x9c\x24\x37\x42\x7f\x94"},
		{strings.Repeat("a", 1000), "\xdf\x91\x50\x21\x4d\xcd\x20\x1d\xda\x66"},
		{allBytes(), "\x02\xc3\x61\xec\xf8\x6e\xa3\x91\x93\xe0"},
	} {
		if got := seal.Digest(c[0]); got != c[1] {
			t.Errorf("P6.1 Digest(%.20q) = %x; wanted %x", c[0], got, c[1])
		}
	}
}

// modelDigest reckons without any bound of numbers, and takes what is left of
// a division but once, at the end.
func modelDigest(text string) string {
	digest := ""
	for _, row := range [][2]int64{{1000003, 1<<40 - 87}, {999983, 1099511627563}} {
		h := big.NewInt(1)
		for _, b := range []byte(text) {
			h.Mul(h, big.NewInt(row[0]))
			h.Add(h, big.NewInt(int64(b)+1))
		}
		h.Mod(h, big.NewInt(row[1]))
		digest += string(h.FillBytes(make([]byte, 5)))
	}
	return digest
}

func TestDigestAgain(t *testing.T) {
	for size := range 300 {
		for _, text := range []string{strings.Repeat("\xff", size), strings.Repeat("\x00", size), strings.Repeat("Az\x80", size)} {
			if got, want := seal.Digest(text), modelDigest(text); got != want {
				t.Fatalf("P6.1 Digest(%q) = %x; wanted %x", text, got, want)
			}
		}
	}
}

func TestHash(t *testing.T) {
	for _, c := range []struct {
		n, salt string
		rounds  int
		want    string
	}{
		{n("www.ex."), "", 0, "\x72\x77\x07\xc6\x9b\xc0\x01\x99\xa8\xf8"},
		{n("WwW.eX."), "", 0, "\x72\x77\x07\xc6\x9b\xc0\x01\x99\xa8\xf8"},
		{n("WwW.eX."), "AB", 2, "\x52\xcc\xb6\x19\xc2\xc8\x5a\x26\xaf\x54"},
		{api.Root, strings.Repeat("\xaa", 255), 50, "\x7a\xfb\x9a\x87\x1f\x77\x20\x1f\x5f\x4a"},
		{api.Root, "", 0, seal.Digest(api.Root)},
		{n("A."), "A", 1, seal.Digest(seal.Digest("\x01a\x00A") + "A")}, // the salt isn't folded
		{long(255), "x", 0, seal.Digest(long(255) + "x")},
	} {
		if got, e := seal.Hash(c.n, c.salt, c.rounds); got != c.want || e != api.OK {
			t.Errorf("P6.2 Hash(%q, %q, %d) = %x, %d; wanted %x", c.n, c.salt, c.rounds, got, e, c.want)
		}
	}
}

func TestHashWrong(t *testing.T) {
	much := strings.Repeat("s", 256)
	for _, c := range []struct {
		n, salt string
		rounds  int
		e       api.Errno
	}{
		{"", "", 0, api.ErrName},
		{"\x03www", "", 0, api.ErrName},
		{long(255) + "\x00", "", 0, api.ErrName},
		{"", much, 51, api.ErrName}, // told ahead of the others
		{n("ex."), much, 0, api.ErrArg},
		{n("ex."), "", 51, api.ErrArg},
		{n("ex."), "", -1, api.ErrArg},
		{n("ex."), "", 1 << 40, api.ErrArg},
		{n("ex."), much, -1 << 40, api.ErrArg},
	} {
		if got, e := seal.Hash(c.n, c.salt, c.rounds); got != "" || e != c.e {
			t.Errorf("P6.2 Hash(%q, %d bytes, %d) = %x, %d; wanted %d", c.n, len(c.salt), c.rounds, got, e, c.e)
		}
	}
}
