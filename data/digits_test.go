package data_test

import (
	"bytes"
	"encoding/base32"
	"math/rand"
	"strings"
	"testing"

	"gazetteer/data"
)

func randomBytes(r *rand.Rand, size int) string {
	b := make([]byte, size)
	r.Read(b)
	return string(b)
}

func TestTo32AndFrom32(t *testing.T) {
	for _, c := range [][2]string{
		{"", ""},
		{"f", "co"},
		{"fo", "cpng"},
		{"foo", "cpnmu"},
		{"foob", "cpnmuog"},
		{"fooba", "cpnmuoj1"},
		{"foobar", "cpnmuoj1e8"},
		{"\x00", "00"},
		{"\xff", "vs"},
		{"\xff\xff\xff\xff\xff", "vvvvvvvv"},
	} {
		if got := data.To32(c[0]); got != c[1] {
			t.Errorf("P2.2 To32(%q) = %q; wanted %q", c[0], got, c[1])
		}
	}
	plain := base32.HexEncoding.WithPadding(base32.NoPadding)
	r := rand.New(rand.NewSource(2))
	for i := range 500 {
		b := randomBytes(r, i%60)
		text := data.To32(b)
		if want := strings.ToLower(plain.EncodeToString([]byte(b))); text != want {
			t.Errorf("P2.2 To32(%q) = %q; wanted %q", b, text, want)
		}
		for _, s := range []string{text, strings.ToUpper(text)} {
			if got, ok := data.From32(s); got != b || !ok {
				t.Errorf("P2.2 From32(%q) = %q, %v; wanted %q", s, got, ok, b)
			}
		}
	}
}

// Of all short texts just those are read that some row of bytes has.
func TestFrom32ReadsNothingElse(t *testing.T) {
	texts := map[string]string{"": ""}
	for i := range 1 << 8 {
		texts[data.To32(string([]byte{byte(i)}))] = string([]byte{byte(i)})
	}
	var tryAll func(ahead string, more int)
	tryAll = func(ahead string, more int) {
		want, wanted := texts[ahead]
		if got, ok := data.From32(ahead); ok != wanted || got != want {
			t.Errorf("P2.2 From32(%q) = %q, %v; wanted %q, %v", ahead, got, ok, want, wanted)
		}
		for _, b := range []byte("0123456789abcdefghijklmnopqrstuv/:`w{-= \x00\xff") {
			if more > 0 {
				tryAll(ahead+string([]byte{b}), more-1)
			}
		}
	}
	tryAll("", 3)
	for _, text := range []string{
		"W0", "z0", "co======", "cp======", "cpnmuoj1e9", "cpnmuoj1e", "cpnmuo", "cpn", "cpnh", "cpnmv0", "cpnmuoh",
		"c o", "\u212a0", "cpnmuoj10", "cpnmuoj1000", "cpnmuoj1000000",
	} {
		if got, ok := data.From32(text); got != "" || ok {
			t.Errorf("P2.2 From32(%q) = %q, %v; wanted false", text, got, ok)
		}
	}
}

func TestTo32KeepsTheOrder(t *testing.T) {
	r := rand.New(rand.NewSource(3))
	for i := range 500 {
		size := 1 + i%20
		a, b := randomBytes(r, size), randomBytes(r, size)
		if i%2 == 0 { // and with a beginning that they share
			b = a[:size-1] + b[size-1:]
		}
		if bytes.Compare([]byte(a), []byte(b)) != strings.Compare(data.To32(a), data.To32(b)) {
			t.Errorf("P2.2 To32 turns the order of %q and %q", a, b)
		}
	}
}
