package seal_test

import (
	"math/big"
	"math/rand"
	"slices"
	"sort"
	"strings"
	"testing"

	"gazetteer/api"
	"gazetteer/data"
	"gazetteer/name"
	"gazetteer/seal"
)

// A second reckoning of sets, Sign and Verify, by lists of labels and numbers
// without bounds, held against the package by sets of chance.

// be tells a number in so many bytes.
func be(number, size int) string {
	return string(big.NewInt(int64(number)).FillBytes(make([]byte, size)))
}

// eb: the number that bytes are.
func eb(b string) int { return int(new(big.Int).SetBytes([]byte(b)).Int64()) }

func modelSet(set []api.Record) bool {
	for i, r := range set {
		if name.Check(r.Owner) != api.OK || r.Class != 1 || r.TTL < 0 || r.TTL > 2147483647 || r.Type == 46 || data.Check(r.Type, r.Data) != api.OK {
			return false
		}
		for _, o := range set[:i] {
			if !name.Equal(o.Owner, r.Owner) || o.Type != r.Type || data.Fold(o.Type, o.Data) == data.Fold(r.Type, r.Data) {
				return false
			}
		}
	}
	return len(set) > 0
}

// starless: the labels of a name, a star in front left out.
func starless(n string) []string {
	labels := name.Labels(n)
	if len(labels) > 0 && labels[0] == "*" {
		return labels[1:]
	}
	return labels
}

// modelNumber: the number of what is signed. head: the data of the RRSIG
// without the signature.
func modelNumber(set []api.Record, head string, modulus int) *big.Int {
	labels := starless(set[0].Owner)
	owner := set[0].Owner
	if told := int(head[3]); told < len(labels) {
		owner, _ = name.Join(append([]string{"*"}, labels[len(labels)-told:]...))
	}
	owner = strings.ToLower(owner) // all names here are of ASCII
	var parts []string
	for _, r := range set {
		parts = append(parts, data.Fold(r.Type, r.Data))
	}
	sort.Strings(parts)
	text := head[:18] + strings.ToLower(head[18:])
	for _, d := range parts {
		text += owner + be(set[0].Type, 2) + "\x00\x01" + head[4:8] + be(len(d), 2) + d
	}
	number := new(big.Int).SetBytes([]byte(modelDigest(text)))
	return number.Mod(number, big.NewInt(int64(modulus)))
}

func modelTag(d string) int {
	total := 0
	for i, b := range []byte(d) {
		if i%2 == 0 {
			total += int(b) * 256
		} else {
			total += int(b)
		}
	}
	return (total + total/65536) % 65536
}

func modelRight(k api.Key) bool {
	return (k.Flags == 256 || k.Flags == 257) && k.Modulus >= 6 && k.Modulus < 1<<31 && k.Exponent >= 1 && k.Exponent < 1<<31 && k.Secret >= 1 && k.Secret < 1<<31
}

func modelPublic(k api.Key) string {
	return be(k.Flags, 2) + "\x03\xfd" + be(k.Modulus, 4) + be(k.Exponent, 4)
}

func modelSign(k api.Key, signer string, set []api.Record, from, until int) (api.Record, api.Errno) {
	ages := make(map[int]bool)
	for _, r := range set {
		ages[r.TTL] = true
	}
	for _, c := range []struct {
		wrong func() bool
		e     api.Errno
	}{
		{func() bool { return !modelRight(k) }, api.ErrKey},
		{func() bool { return name.Check(signer) != api.OK }, api.ErrName},
		{func() bool { return !(0 <= from && from <= until && until <= 4294967295) }, api.ErrTime},
		{func() bool { return !modelSet(set) || len(ages) != 1 }, api.ErrForm},
		{func() bool { return !name.Within(set[0].Owner, signer) }, api.ErrOutside},
	} {
		if c.wrong() {
			return api.Record{}, c.e
		}
	}
	head := be(set[0].Type, 2) + "\xfd" + be(len(starless(set[0].Owner)), 1) + be(set[0].TTL, 4) + be(until, 4) + be(from, 4) +
		be(modelTag(modelPublic(k)), 2) + strings.ToLower(signer)
	s := modelNumber(set, head, k.Modulus)
	s.Exp(s, big.NewInt(int64(k.Secret)), big.NewInt(int64(k.Modulus)))
	return api.Record{Owner: set[0].Owner, Type: 46, Class: 1, TTL: set[0].TTL, Data: head + be(int(s.Int64()), 4)}, api.OK
}

func modelVerify(c try) api.Errno {
	s := c.sig
	if !modelSet(c.set) || name.Check(s.Owner) != api.OK || s.Type != 46 || s.Class != 1 || s.TTL < 0 || s.TTL > 2147483647 || data.Check(46, s.Data) != api.OK {
		return api.ErrForm
	}
	signer := data.Names(46, s.Data)[0]
	head, signature := s.Data[:18+len(signer)], s.Data[18+len(signer):]
	of := c.set[0].Owner
	isKey := len(c.d) == 12 && (c.d[:4] == "\x01\x00\x03\xfd" || c.d[:4] == "\x01\x01\x03\xfd") &&
		eb(c.d[4:8]) >= 6 && c.d[4] < 128 && eb(c.d[8:]) >= 1 && c.d[8] < 128
	fits := func() bool {
		modulus := big.NewInt(int64(eb(c.d[4:8])))
		number := big.NewInt(int64(eb(signature)))
		if len(signature) != 4 || number.Cmp(modulus) >= 0 {
			return false
		}
		number.Exp(number, big.NewInt(int64(eb(c.d[8:]))), modulus)
		return number.Cmp(modelNumber(c.set, head, eb(c.d[4:8]))) == 0
	}
	switch {
	case eb(head[:2]) != c.set[0].Type:
		return api.ErrType
	case !name.Equal(s.Owner, of) || !name.Within(of, signer):
		return api.ErrOutside
	case !name.Equal(c.owner, signer):
		return api.ErrName
	case !isKey || head[2] != 253 || eb(head[16:18]) != modelTag(c.d):
		return api.ErrKey
	case int(head[3]) > len(starless(of)):
		return api.ErrLabel
	case c.now < eb(head[12:16]) || c.now > eb(head[8:12]):
		return api.ErrTime
	case !fits():
		return api.ErrSig
	}
	return api.OK
}

// chance: what hangs on chance.
type chance struct{ *rand.Rand }

func pick[T any](c chance, list ...T) T { return list[c.Intn(len(list))] }

// letters gives a name or data in other letters, at times.
func (c chance) letters(n string) string {
	switch c.Intn(4) {
	case 0:
		return strings.ToUpper(n)
	case 1:
		return strings.ToLower(n)
	}
	return n
}

func (c chance) name() string {
	var labels []string
	for range c.Intn(4) {
		labels = append(labels, pick(c, "a", "*", "*", "Ex", "www", "**"))
	}
	n, _ := name.Join(append(labels, "ex"))
	return c.letters(n)
}

func (c chance) data(t int) string {
	b := func() string { return string([]byte{byte(c.Intn(3))}) }
	switch t {
	case api.A:
		return "\x0a\x00" + b() + b()
	case api.NS, api.CNAME:
		return c.name()
	case api.MX:
		return "\x00" + b() + c.name()
	case api.SOA:
		return c.name() + c.name() + strings.Repeat(b(), 20)
	case api.NSEC:
		return c.name() + pick(c, "", "\x00\x01\x40")
	case api.TXT:
		return pick(c, "\x01", "\x01A", "\x02x") + b()
	}
	return strings.Repeat(b(), c.Intn(6))
}

func (c chance) set() []api.Record {
	first := api.Record{Owner: c.name(), Type: pick(c, 1, 2, 5, 6, 15, 16, 47, 99, 46), Class: 1, TTL: pick(c, 0, 60, 2147483647)}
	if c.Intn(4) > 0 && first.Type == 46 {
		first.Type = 1
	}
	var set []api.Record
	for range c.Intn(4) + min(1, c.Intn(20)) {
		r := first
		r.Owner, r.Data = c.letters(r.Owner), c.data(r.Type)
		set = append(set, r)
	}
	if len(set) > 0 && c.Intn(6) == 0 {
		r := &set[c.Intn(len(set))]
		switch c.Intn(6) {
		case 0:
			r.Owner = pick(c, "", c.name(), "\x03ex")
		case 1:
			r.Type = pick(c, 0, 1, 16, 41, 46, 255, 70000)
		case 2:
			r.Class = pick(c, 0, 3, 254, 255)
		case 3:
			r.TTL = pick(c, -1, 2147483648, 61)
		case 4:
			r.Data += "\x00"
		case 5:
			r.Data = ""
		}
	}
	return set
}

func (c chance) key(keys []api.Key) api.Key {
	k := pick(c, keys...)
	switch c.Intn(20) {
	case 0:
		k.Flags = pick(c, 0, 255, 256, 257, 258)
	case 1:
		k.Modulus = pick(c, 5, 6, 7, 2147483647, 2147483648, -k.Modulus)
	case 2:
		k.Exponent = pick(c, 0, 1, 2, 2147483647, 2147483648, -1)
	case 3:
		k.Secret = pick(c, 0, 1, 2147483647, 2147483648, -1)
	}
	return k
}

func (c chance) signer(set []api.Record) string {
	if len(set) > 0 && c.Intn(8) > 0 {
		if count := name.Count(set[0].Owner); count >= 0 {
			return c.letters(name.Tail(set[0].Owner, c.Intn(count+1)))
		}
	}
	return pick(c, "", c.name(), "ex", api.Root)
}

// spoil changes one thing of what was right, or leaves it so.
func (c chance) spoil(v *try, keys []api.Key) {
	one := func(d string) string {
		if d == "" {
			return "\x00"
		}
		at := c.Intn(len(d))
		return put(d, at, string([]byte{d[at] ^ byte(1<<c.Intn(8))}))
	}
	switch c.Intn(16) {
	case 0:
		v.sig.Data = one(v.sig.Data)
	case 1:
		v.d = one(v.d)
	case 2:
		v.d = modelPublic(pick(c, keys...))
	case 3:
		v.now = pick(c, -1, 0, 9, 10, 11, 20, 21, 4294967295, 4294967296)
	case 4:
		v.owner = pick(c, "", c.name(), api.Root, c.letters(v.owner))
	case 5:
		v.sig.Owner = pick(c, "", c.name(), c.letters(v.sig.Owner))
	case 6:
		v.sig.Class, v.sig.TTL = pick(c, 1, 1, 3), pick(c, -1, 0, 2147483647, 2147483648)
	case 7:
		v.sig.Type = pick(c, 46, 47, 0)
	case 8:
		v.set = c.set()
	case 9:
		c.Shuffle(len(v.set), func(i, j int) { v.set[i], v.set[j] = v.set[j], v.set[i] })
		for i := range v.set {
			v.set[i].TTL = c.Intn(100)
			v.set[i].Owner = c.letters(v.set[i].Owner)
		}
	case 10, 11, 12:
		c.move(v)
	case 13:
		if len(v.sig.Data) > 4 {
			v.sig.Data = put(v.sig.Data, 3, string([]byte{byte(c.Intn(6))}))
		}
	case 14:
		v.sig.Data += pick(c, "", "\x00")
	}
}

// move lays the set and its signature at another owner, as a star does.
func (c chance) move(v *try) {
	if len(v.set) == 0 || name.Check(v.set[0].Owner) != api.OK {
		return
	}
	labels := starless(v.set[0].Owner)
	owner, _ := name.Join(append([]string{"q", "p", "*"}[c.Intn(4):], labels...))
	for i := range v.set {
		v.set[i].Owner = owner
	}
	v.sig.Owner = owner
}

func TestModel(t *testing.T) {
	c := chance{rand.New(rand.NewSource(6))}
	var keys []api.Key
	for _, p := range [][4]int{{251, 263, 3, 257}, {257, 263, 3, 256}, {2, 32771, 3, 256}, {30011, 251, 3, 257}, {2699, 795659, 65535, 256}, {46337, 46327, 5, 257}} {
		k, e := seal.NewKey(p[0], p[1], p[2], p[3])
		if e != api.OK {
			t.Fatalf("P6.3 NewKey(%v) = %d", p, e)
		}
		keys = append(keys, k)
	}
	signs, verifies := make(map[api.Errno]int), make(map[api.Errno]int)
	stars := 0
	for range 40000 {
		set, k := c.set(), c.key(keys)
		signer := c.signer(set)
		from, until := pick(c, 10, 10, 10, 10, 0, -1, 21), pick(c, 20, 20, 20, 20, 4294967295, 4294967296, 9)
		before := slices.Clone(set)
		sig, e := seal.Sign(k, signer, set, from, until)
		if want, code := modelSign(k, signer, set, from, until); sig != want || e != code || !slices.Equal(set, before) {
			t.Fatalf("P6.5 Sign(%+v, %q, %+v, %d, %d) = %+v, %d; wanted %+v, %d", k, signer, before, from, until, sig, e, want, code)
		}
		signs[e]++
		v := try{set, sig, c.letters(signer), seal.Public(k), pick(c, 10, 15, 20)}
		for range c.Intn(3) {
			c.spoil(&v, keys)
		}
		got, want := v.verify(), modelVerify(v)
		if got != want {
			t.Fatalf("P6.6 Verify(%+v) = %d; wanted %d", v, got, want)
		}
		verifies[got]++
		if got == api.OK && int(v.sig.Data[3]) < len(starless(v.set[0].Owner)) {
			stars++
		}
	}
	for _, e := range []api.Errno{api.OK, api.ErrKey, api.ErrName, api.ErrTime, api.ErrForm, api.ErrOutside} {
		if signs[e] < 100 {
			t.Errorf("Sign: %d times %d", signs[e], e)
		}
	}
	for _, e := range []api.Errno{api.OK, api.ErrForm, api.ErrType, api.ErrOutside, api.ErrName, api.ErrKey, api.ErrLabel, api.ErrTime, api.ErrSig} {
		if verifies[e] < 100 {
			t.Errorf("Verify: %d times %d", verifies[e], e)
		}
	}
	if stars < 100 {
		t.Errorf("%d signatures of stars", stars)
	}
}
