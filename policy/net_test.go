package policy_test

import (
	"math"
	"strconv"
	"strings"
	"testing"

	"gazetteer/api"
	"gazetteer/policy"
)

func TestInside(t *testing.T) {
	for _, c := range []struct {
		net, addr string
		want      bool
	}{
		{"10.0.0.0/8", "10.9.9.9", true},
		{"10.0.0.0/8", "11.0.0.0", false},
		{"10.1.2.3/8", "10.9.9.9", true}, // what doesn't count of the net may be anything
		{"10.0.0.0/0", "255.255.255.255", true},
		{"0.0.0.0/1", "127.255.255.255", true},
		{"0.0.0.0/1", "128.0.0.0", false},
		{"128.0.0.0/1", "255.1.2.3", true},
		{"10.0.0.0/7", "11.1.1.1", true},
		{"10.0.0.0/7", "12.0.0.0", false},
		{"10.0.0.0/7", "8.0.0.0", false},
		{"10.128.0.0/9", "10.255.0.0", true},
		{"10.128.0.0/9", "10.127.0.0", false},
		{"10.128.0.0/9", "11.128.0.0", false},
		{"1.2.3.4/31", "1.2.3.5", true},
		{"1.2.3.4/31", "1.2.3.6", false},
		{"1.2.3.4/32", "1.2.3.4", true},
		{"1.2.3.4/32", "1.2.3.5", false},
		{"1.2.3.4/33", "1.2.3.4", false},
		{"1.2.3.4/128", "1.2.3.4", false},
		{"1.2.3.4/-1", "1.2.3.4", false},
		{"1.2.3.4/-8", "1.2.3.4", false},
		{"2001:db8::/33", "2001:db8:7fff::1", true},
		{"2001:db8::/33", "2001:db8:8000::1", false},
		{"2001:db8::/32", "2001:db8:ffff::1", true},
		{"2001:db8::/31", "2001:db9::", true},
		{"2001:db8::1/127", "2001:db8::", true},
		{"2001:db8::1/127", "2001:db8::2", false},
		{"2001:db8::1/128", "2001:db8::1", true},
		{"2001:db8::1/128", "2001:db8::", false},
		{"2001:db8::1/129", "2001:db8::1", false},
		{"2001:db8::1/-1", "2001:db8::1", false},
		{"::/0", "ffff::", true},
		{"::/0", "0.0.0.0", false}, // of another length
		{"0.0.0.0/0", "::", false},
		{"32.1.13.184/32", "2001:db8::", false},
		{"2001:db8::/32", "32.1.13.184", false},
	} {
		if got := policy.Inside(net(c.net), ip(c.addr)); got != c.want {
			t.Errorf("P15.1 Inside(%s, %s) = %v", c.net, c.addr, got)
		}
	}
}

// TestInsideNoAddress: what has neither four nor sixteen bytes is nowhere, and
// nothing is inside it.
func TestInsideNoAddress(t *testing.T) {
	for _, size := range []int{0, 1, 3, 5, 8, 15, 17, 32} {
		text := strings.Repeat("\x00", size)
		for _, bits := range []int{math.MinInt, -1, 0, 1, 8, 24, 32, 8 * size, 128, math.MaxInt} {
			for _, addr := range []string{text, ip("0.0.0.0"), ip("::")} {
				if policy.Inside(api.Prefix{Addr: text, Bits: bits}, addr) {
					t.Errorf("P15.1: %d bytes are inside a net of %d bytes, %d bits", len(addr), size, bits)
				}
			}
		}
		for _, p := range []api.Prefix{net("0.0.0.0/0"), net("::/0")} {
			if policy.Inside(p, text) {
				t.Errorf("P15.1: %d bytes are inside %+v", size, p)
			}
		}
	}
	for _, bits := range []int{math.MinInt, math.MinInt + 8, math.MaxInt, math.MaxInt - 7, 1 << 32, 1<<32 + 8} {
		if policy.Inside(api.Prefix{Addr: ip("0.0.0.0"), Bits: bits}, ip("0.0.0.0")) {
			t.Errorf("P15.1: a net of %d bits", bits)
		}
	}
}

// digits writes bytes as noughts and ones.
func digits(b string) string {
	text := ""
	for i := range len(b) {
		one := strconv.FormatInt(int64(b[i]), 2)
		text += strings.Repeat("0", 8-len(one)) + one
	}
	return text
}

func isModelInside(p api.Prefix, addr string) bool {
	size := len(p.Addr)
	if size != 4 && size != 16 || len(addr) != size || p.Bits < 0 || p.Bits > 8*size {
		return false
	}
	return strings.HasPrefix(digits(addr), digits(p.Addr)[:p.Bits])
}

func TestInsideAgain(t *testing.T) {
	d := newDice(151)
	inside := 0
	for range 20000 {
		p := api.Prefix{Addr: d.bytes(d.number(4, 4, 16, 16, 3, 5)), Bits: d.Intn(135) - 3}
		if d.Intn(2) == 0 {
			p.Bits = d.Intn(36) - 2
		}
		addr := []byte(p.Addr)
		for range d.Intn(3) {
			addr[d.Intn(len(addr))] ^= 1 << d.Intn(8)
		}
		want := isModelInside(p, string(addr))
		if got := policy.Inside(p, string(addr)); got != want {
			t.Fatalf("P15.1 Inside(%x/%d, %x) = %v", p.Addr, p.Bits, addr, got)
		}
		if want {
			inside++
		}
	}
	if inside < 5000 || inside > 15000 {
		t.Errorf("%d of 20000 are inside", inside)
	}
}

// views gives one view for each text: its nets, with blanks between.
func views(texts ...string) []api.View {
	var list []api.View
	for _, text := range texts {
		v := api.View{Name: "view " + text}
		for _, word := range strings.Fields(text) {
			v.Nets = append(v.Nets, net(word))
		}
		list = append(list, v)
	}
	return list
}

func TestChoose(t *testing.T) {
	several := views("", "10.1.0.0/16 2001:db8::/32", "10.0.0.0/8", "10.1.1.0/24", "0.0.0.0/0")
	for _, c := range []struct {
		views []api.View
		from  string
		want  int
	}{
		{nil, ip("10.0.0.1"), -1},
		{[]api.View{}, ip("10.0.0.1"), -1},
		{views(""), ip("10.0.0.1"), -1}, // a view without nets is for nobody
		{views("", ""), ip("::"), -1},
		{several, ip("10.1.1.1"), 1}, // the first one, not the closest
		{several, ip("10.2.0.0"), 2},
		{several, ip("11.0.0.0"), 4},
		{several, ip("2001:db8::7"), 1}, // by its second net
		{several, ip("2001:db9::"), -1},
		{several, "", -1},
		{several, "\x0a\x01\x01", -1},
		{several, "\x0a\x01\x01\x01\x01", -1},
		{views("10.0.0.0/33", "10.0.0.0/-1", "10.0.0.0/32"), ip("10.0.0.0"), 2}, // nets that aren't right
		{views("10.0.0.0/8", "10.0.0.0/8"), ip("10.0.0.0"), 0},
		{[]api.View{{Nets: []api.Prefix{{}}}, {Nets: []api.Prefix{{Addr: "\x0a"}}}}, "", -1},
	} {
		if got := policy.Choose(c.views, c.from); got != c.want {
			t.Errorf("P15.2 Choose(%+v, %x) = %d; wanted %d", c.views, c.from, got, c.want)
		}
	}
}

func TestChooseAgain(t *testing.T) {
	d := newDice(152)
	for range 5000 {
		list := make([]api.View, d.Intn(4))
		for i := range list {
			for range d.Intn(3) {
				list[i].Nets = append(list[i].Nets, api.Prefix{Addr: d.bytes(d.number(4, 16)), Bits: d.Intn(12) - 1})
			}
		}
		from, want := d.bytes(d.number(4, 16)), -1
		for i := len(list) - 1; i >= 0; i-- {
			for _, p := range list[i].Nets {
				if isModelInside(p, from) {
					want = i
				}
			}
		}
		if got := policy.Choose(list, from); got != want {
			t.Fatalf("P15.2 Choose(%+v, %x) = %d; wanted %d", list, from, got, want)
		}
	}
}
