package seal_test

import (
	"slices"
	"strings"
	"testing"

	"gazetteer/api"
	"gazetteer/master"
	"gazetteer/name"
	"gazetteer/seal"
)

// n gives the name that a text tells.
func n(text string) string {
	wire, _, e := name.Read(text, api.Root)
	if e != api.OK {
		panic(text)
	}
	return wire
}

// list gives the records of lines of a file of ex., of age 60 where none is told.
func list(lines ...string) []api.Record {
	records, f := master.Parse("$TTL 60\n"+strings.Join(lines, "\n"), n("ex."), nil)
	if f.Code != api.OK {
		panic(lines[f.Line-2])
	}
	return records
}

// entry: the key of the chapter's examples.
func entry() api.Key { return api.Key{Flags: 257, Modulus: 66013, Exponent: 3, Secret: 43667} }

// signed gives the signature of a set by entry for ex., from 100 until 200.
func signed(t *testing.T, set []api.Record) api.Record {
	t.Helper()
	sig, e := seal.Sign(entry(), n("ex."), set, 100, 200)
	if e != api.OK {
		t.Fatalf("P6.5 Sign(%+v) = %d", set, e)
	}
	return sig
}

// with gives the records, the one with number i changed.
func with(set []api.Record, i int, change func(*api.Record)) []api.Record {
	set = slices.Clone(set)
	change(&set[i])
	return set
}

// put gives data with bytes put over those from a place on.
func put(d string, at int, bytes string) string { return d[:at] + bytes + d[at+len(bytes):] }

// long gives a name of so many bytes, at least 67, that ends with the labels of ex.
func long(size int) string {
	wire := n("ex.")
	for size-len(wire) > 64 {
		wire = "\x1f" + strings.Repeat("x", 31) + wire
	}
	return string([]byte{byte(size - len(wire) - 1)}) + strings.Repeat("y", size-len(wire)-1) + wire
}
