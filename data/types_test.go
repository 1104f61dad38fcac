package data_test

import (
	"math"
	"math/rand"
	"slices"
	"strconv"
	"strings"
	"testing"

	"gazetteer/api"
	"gazetteer/data"
)

// typeWords are the types that have a word, as the chapter's table and P2.1 name them.
func typeWords() map[string]int {
	return map[string]int{
		"A": 1, "NS": 2, "CNAME": 5, "SOA": 6, "PTR": 12, "HINFO": 13, "MX": 15, "TXT": 16, "AAAA": 28, "SRV": 33,
		"NAPTR": 35, "DNAME": 39, "OPT": 41, "DS": 43, "RRSIG": 46, "NSEC": 47, "DNSKEY": 48, "NSEC3": 50,
		"NSEC3PARAM": 51, "IXFR": 251, "AXFR": 252, "ANY": 255, "CAA": 257,
	}
}

func TestTypeNameAndTypeOf(t *testing.T) {
	known := map[int]string{}
	for word, number := range typeWords() {
		known[number] = word
	}
	for number := 1; number <= 65535; number++ {
		other := "TYPE" + strconv.Itoa(number)
		want := known[number]
		if want == "" {
			want = other
		}
		if got := data.TypeName(number); got != want {
			t.Errorf("P2.1 TypeName(%d) = %q; wanted %q", number, got, want)
		}
		for _, word := range []string{want, strings.ToLower(want), other, strings.ToLower(other)} {
			if got := data.TypeOf(word); got != number {
				t.Errorf("P2.1 TypeOf(%q) = %d; wanted %d", word, got, number)
			}
		}
	}
	for _, number := range []int{0, -1, 65536, 65537, 1 << 32, math.MinInt, math.MaxInt} {
		if got := data.TypeName(number); got != "" {
			t.Errorf("P2.1 TypeName(%d) = %q; wanted nothing", number, got)
		}
	}
}

func TestTypeOfOthers(t *testing.T) {
	for word, want := range map[string]int{
		"nSeC3pArAm": 51,
		"tYpE12":     12,
		"TYPE00001":  1,
		"TYPE01":     1,
		"type065":    65,
		"TYPE41":     41,
		"TYPE200":    200,
		"TYPE65535":  65535,
	} {
		if got := data.TypeOf(word); got != want {
			t.Errorf("P2.1 TypeOf(%q) = %d; wanted %d", word, got, want)
		}
	}
	for _, word := range []string{
		"", " ", "A ", " A", "AA", "B", "1", "TYPE", "TYPE0", "TYPE00000", "TYPE65536", "TYPE99999", "TYPE000001", "TYPE100000",
		"TYPE-1", "TYPE+1", "TYPE1x", "TYPEx", "TYPE 1", "TYPE1_0", "TYPE0x1", "TYP1", "TYPETYPE1", "CLASS1", "NSEC33", "\\A",
		"DN\u017fKEY", "DNS\u212aEY", "dn\u017f\u212aey", "\u24b6", // letters that elsewhere are the same as S, K, A
		"TYPE" + strings.Repeat("0", 1000) + "1",
	} {
		if got := data.TypeOf(word); got != 0 {
			t.Errorf("P2.1 TypeOf(%q) = %d; wanted 0", word, got)
		}
	}
}

// exampleSet is the chapter's: A, MX, RRSIG, NSEC and TYPE1234.
var exampleSet = "\x00\x06\x40\x01\x00\x00\x00\x03\x04\x1b" + strings.Repeat("\x00", 26) + "\x20"

func TestTypesAndSet(t *testing.T) {
	for _, c := range []struct {
		set  string
		list []int
	}{
		{"", nil},
		{exampleSet, []int{api.A, api.MX, api.RRSIG, api.NSEC, 1234}},
		{"\x00\x01\x40", []int{1}},
		{"\x00\x01\x7f", []int{1, 2, 3, 4, 5, 6, 7}},
		{"\x00\x02\x00\x80", []int{8}},
		{"\x00\x20" + strings.Repeat("\x00", 31) + "\x01", []int{255}},
		{"\x01\x01\x80", []int{256}},
		{"\x00\x01\x40\x01\x01\x80\xff\x01\x80", []int{1, 256, 65280}},
		{"\xff\x20" + strings.Repeat("\x00", 31) + "\x01", []int{65535}},
		{"\x00\x06\x00\x00\x00\x00\x00\x40", []int{41}},
	} {
		if list, e := data.Types(c.set); !slices.Equal(list, c.list) || e != api.OK {
			t.Errorf("P2.3 Types(%q) = %v, %d; wanted %v", c.set, list, e, c.list)
		}
		if set := data.Set(c.list); set != c.set {
			t.Errorf("P2.3 Set(%v) = %q; wanted %q", c.list, set, c.set)
		}
	}
}

// badSets are no sets, each for a reason of its own.
func badSets() []string {
	return []string{
		"\x00",                     // a block's number alone
		"\x00\x00",                 // a block of no bytes
		"\x00\x00\x40",             // and something behind it
		"\x00\x01",                 // its bytes are missing
		"\x00\x02\x40",             // one of them is
		"\x00\x01\x00",             // the last byte is 0
		"\x00\x02\x40\x00",         // though others aren't
		"\x00\x01\x80",             // the number 0
		"\x00\x01\xc0",             // and another
		"\x00\x01\x40\x00\x01\x40", // a block twice
		"\x00\x01\x40\x00\x02\x00\x40",
		"\x01\x01\x40\x00\x01\x40", // numbers that fall
		"\x00\x01\x40\x01",         // the second ends too early
		"\x00\x01\x40\x01\x01\x00", // the second has a last byte 0
		"\x01\x01\x40\x01\x01\x80",
		"\x00\x21\x40" + strings.Repeat("\x01", 32), // 33 bytes
		"\x00\xff\x40" + strings.Repeat("\x01", 254),
	}
}

func TestTypesOfNoSet(t *testing.T) {
	for _, set := range badSets() {
		if list, e := data.Types(set); len(list) != 0 || e != api.ErrData {
			t.Errorf("P2.3 Types(%q) = %v, %d; wanted ErrData", set, list, e)
		}
	}
}

func TestSetOfAnyList(t *testing.T) {
	given := []int{1234, api.NSEC, 0, api.MX, -1, api.A, api.NSEC, 65536, api.RRSIG, math.MinInt, api.A, math.MaxInt, 1<<32 + 7}
	kept := slices.Clone(given)
	if set := data.Set(given); set != exampleSet {
		t.Errorf("P2.3 Set(%v) = %q; wanted %q", kept, set, exampleSet)
	}
	if !slices.Equal(given, kept) {
		t.Errorf("P2 Set changed its list to %v", given)
	}
	if set := data.Set([]int{0, -5, 65536}); set != "" {
		t.Errorf("P2.3 Set of no types = %q", set)
	}
	r := rand.New(rand.NewSource(1))
	for range 300 {
		var list []int
		top := 1 << (1 + r.Intn(16))
		for range r.Intn(40) {
			list = append(list, 1+r.Intn(top-1))
		}
		want := slices.Compact(slices.Sorted(slices.Values(list)))
		got, e := data.Types(data.Set(list))
		if e != api.OK || !slices.Equal(got, want) {
			t.Errorf("P2.3 Types(Set(%v)) = %v, %d", list, got, e)
		}
	}
	var all []int
	for n := range 65536 {
		all = append(all, n)
	}
	if got, e := data.Types(data.Set(all)); e != api.OK || !slices.Equal(got, all[1:]) {
		t.Errorf("P2.3 the set of all types: %d of them, %d", len(got), e)
	}
}
