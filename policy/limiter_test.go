package policy_test

import (
	"math"
	"math/big"
	"slices"
	"strings"
	"testing"

	"gazetteer/api"
	"gazetteer/policy"
)

func limiter(t *testing.T, rate, burst int) *policy.Limiter {
	t.Helper()
	l, e := policy.NewLimiter(rate, burst)
	if l == nil || e != api.OK {
		t.Fatalf("P15.5 NewLimiter(%d, %d) = %v, %d", rate, burst, l, e)
	}
	return l
}

func TestNewLimiter(t *testing.T) {
	for _, rate := range []int{math.MinInt, -1, 0, 1, 999, 1000, 1001, math.MaxInt} {
		for _, burst := range []int{math.MinInt, -1, 0, 1, 999, 1000, 1001, math.MaxInt} {
			l, e := policy.NewLimiter(rate, burst)
			right := 0 <= rate && rate <= 1000 && 1 <= burst && burst <= 1000
			if right && (l == nil || e != api.OK) || !right && (l != nil || e != api.ErrArg) {
				t.Errorf("P15.5 NewLimiter(%d, %d) = %v, %d", rate, burst, l, e)
			}
		}
	}
}

// ask: an address, a time, and whether it is allowed.
type ask struct {
	from string
	now  int
	want bool
}

// asks makes calls one behind the other.
func asks(t *testing.T, l *policy.Limiter, list ...ask) {
	t.Helper()
	for i, a := range list {
		if got := l.Allow(a.from, a.now); got != a.want {
			t.Errorf("P15.5: call %d, Allow(%x, %d) = %v", i, a.from, a.now, got)
		}
	}
}

func TestAllow(t *testing.T) {
	one := ip("10.0.0.1")
	asks(t, limiter(t, 1, 2),
		ask{one, 5, true}, ask{one, 5, true}, ask{one, 5, false}, // three at once
		ask{one, 6, true}, ask{one, 6, false}, // one second later
		ask{one, 7, true},
		ask{one, 9, true}, ask{one, 9, true}, ask{one, 9, false}, // two seconds
		ask{one, 1000, true}, ask{one, 1000, true}, ask{one, 1000, false}) // never more than burst
	asks(t, limiter(t, 0, 1), ask{one, 0, true}, ask{one, 1, false}, ask{one, math.MaxInt, false}) // nothing comes
	asks(t, limiter(t, 3, 4),
		ask{one, 1, true}, ask{one, 1, true}, ask{one, 1, true}, // one is left
		ask{one, 2, true}, ask{one, 2, true}, ask{one, 2, true}, ask{one, 2, true}, ask{one, 2, false}, // 1 + 3
		ask{one, 3, true}, ask{one, 3, true}, ask{one, 3, true}, ask{one, 3, false}, // 0 + 3
		ask{one, 4, true}, ask{one, 5, true}, ask{one, 5, true}, ask{one, 5, true}, ask{one, 5, true}, ask{one, 5, false}) // 2 + 3 is 4
	asks(t, limiter(t, 1000, 1), ask{one, 1, true}, ask{one, 1, false}, ask{one, 2, true}, ask{one, 2, false}) // rate above burst
}

// TestAllowMuch: the greatest rate and the greatest burst.
func TestAllowMuch(t *testing.T) {
	l, one := limiter(t, 1000, 1000), ip("10.0.0.1")
	for _, now := range []int{0, 1, 2, 1000000} {
		for i := range 1000 {
			if !l.Allow(one, now) {
				t.Fatalf("P15.5: ask %d at %d is refused", i, now)
			}
		}
		if l.Allow(one, now) {
			t.Fatalf("P15.5: ask 1000 at %d is allowed", now)
		}
	}
}

// TestAllowTimes: times that go back, and very great ones.
func TestAllowTimes(t *testing.T) {
	one := ip("10.0.0.1")
	asks(t, limiter(t, 1, 2),
		ask{one, 10, true}, ask{one, 5, true}, ask{one, 5, false},
		ask{one, 9, false}, ask{one, 10, false}, // it was seen at 10: nothing has gone by since
		ask{one, 11, true}, ask{one, 0, false}, ask{one, 11, false}, ask{one, 12, true}, ask{one, 12, false})
	asks(t, limiter(t, 1, 2),
		ask{one, 10, true}, ask{one, 10, true}, ask{one, 12, true}, // one is left at 12
		ask{one, 11, true}, ask{one, 12, false}, ask{one, 13, true}, ask{one, 13, false})
	asks(t, limiter(t, 1, 1),
		ask{one, math.MinInt, true}, ask{one, math.MinInt, false}, ask{one, math.MinInt + 1, true}, ask{one, math.MinInt + 1, false},
		ask{one, math.MaxInt, true}, ask{one, math.MaxInt, false}, // further apart than an int tells
		ask{one, math.MinInt, false}, ask{one, 0, false})
	asks(t, limiter(t, 1000, 1000), ask{one, math.MinInt, true}, ask{one, 0, true}, ask{one, math.MaxInt, true})
	asks(t, limiter(t, 0, 2), ask{one, math.MinInt, true}, ask{one, math.MaxInt, true}, ask{one, math.MaxInt, false}, ask{one, math.MinInt, false})
	asks(t, limiter(t, 2, 3),
		ask{one, -5, true}, ask{one, -5, true}, ask{one, -5, true}, ask{one, -5, false},
		ask{one, -4, true}, ask{one, -4, true}, ask{one, -4, false}, ask{one, 0, true}, ask{one, 0, true}, ask{one, 0, true}, ask{one, 0, false})
	// Each one has a time of its own.
	asks(t, limiter(t, 1, 1),
		ask{one, 100, true}, ask{ip("10.0.1.1"), 5, true}, ask{ip("10.0.1.1"), 6, true}, ask{one, 7, false}, ask{ip("10.0.1.1"), 6, false}, ask{one, 101, true})
}

// TestAllowWho: who is one, and who isn't.
func TestAllowWho(t *testing.T) {
	asks(t, limiter(t, 0, 1),
		ask{ip("10.1.2.3"), 0, true}, ask{ip("10.1.2.255"), 0, false}, // the same first three bytes
		ask{ip("10.1.3.3"), 0, true}, ask{ip("10.2.2.3"), 0, true}, ask{ip("11.1.2.3"), 0, true},
		ask{ip("2001:db8:1:200::"), 0, true}, ask{ip("2001:db8:1:2ff:ffff:ffff:ffff:ffff"), 0, false}, // seven
		ask{ip("2001:db8:1:100::"), 0, true}, ask{ip("2001:db8:2:200::"), 0, true}, ask{ip("2000:db8:1:200::"), 0, true},
		ask{ip("0.0.0.0"), 0, true}, ask{ip("::"), 0, true}, ask{ip("0.0.0.1"), 0, false}, ask{ip("::1"), 0, false}, // four bytes aren't sixteen
		ask{ip("10.1.2.0"), 0, false})
}

// TestAllowNobody: what is no address isn't allowed, and is nobody.
func TestAllowNobody(t *testing.T) {
	l, one := limiter(t, 0, 1), "\x0a\x01\x02\x03"
	for _, size := range []int{0, 1, 2, 3, 5, 6, 7, 8, 15, 17, 32, 1000} {
		for range 3 {
			if l.Allow(strings.Repeat(one, 250)[:size], 1<<40) {
				t.Errorf("P15.5: %d bytes are allowed", size)
			}
		}
	}
	asks(t, l, ask{one, 0, true}, ask{strings.Repeat(one, 4), 0, true}) // nobody has taken theirs
	m := limiter(t, 1, 1)
	asks(t, m, ask{one, 0, true}, ask{one[:3], 50, false}, ask{one, 0, false}, ask{one, 1, true}) // nor was this one seen at 50
}

// place gives the address of a number: no two are one.
func place(number int) string {
	return string([]byte{byte(number >> 16), byte(number >> 8), byte(number), 1})
}

// TestForgotten: of more than 1000 the one that was seen first is forgotten.
func TestForgotten(t *testing.T) {
	l := limiter(t, 0, 1)
	for i := range 1000 {
		asks(t, l, ask{place(i), 1000 - i, true}) // the later ones at earlier times: calls count
	}
	for i := range 1000 {
		asks(t, l, ask{place(i), 0, false}) // 1000 are kept
	}
	asks(t, l, ask{"\x00\x00\x00", 0, false}, ask{"", 0, false}, // nobody: nothing is forgotten for it
		ask{place(0), 0, false},
		ask{place(1000), 0, true}, ask{place(1000), 0, false}, // the first one is forgotten
		ask{place(1), 0, false},
		ask{place(0), 0, true},                           // it begins anew, and the second is forgotten
		ask{place(0), 0, false}, ask{place(2), 0, false}, // though it was seen again
		ask{place(1), 0, true}, ask{place(2), 0, true}, ask{place(3), 0, true},
		ask{place(5), 0, false}, ask{place(1000), 0, false}, ask{place(0), 0, false})
}

// TestForgottenSeen: that one is seen again doesn't keep it, whether it was
// allowed or not.
func TestForgottenSeen(t *testing.T) {
	l := limiter(t, 1, 5)
	for i := range 1000 {
		l.Allow(place(i), 0)
	}
	for range 10 {
		l.Allow(place(0), 100)
	}
	asks(t, l, ask{place(0), 100, false}, ask{place(2000), 0, true})
	for range 5 {
		asks(t, l, ask{place(0), 0, true}) // all are there again, and the time 100 is forgotten, too
	}
	asks(t, l, ask{place(0), 0, false}, ask{place(0), 1, true}, ask{place(0), 1, false})
}

// TestForgottenLong: very many, one behind the other and again.
func TestForgottenLong(t *testing.T) {
	l := limiter(t, 0, 1)
	for i := range 50000 {
		if !l.Allow(place(i), i) {
			t.Fatalf("P15.5: number %d is refused", i)
		}
		if back := max(0, i-999); l.Allow(place(back), i) {
			t.Fatalf("P15.5: number %d is forgotten, at %d", back, i)
		}
	}
	asks(t, l, ask{place(49000), 0, false}, ask{place(48999), 0, true}, ask{place(49000), 0, true}, ask{place(49002), 0, false})
}

// TestLimiters: two of them know nothing of each other; and one that NewLimiter
// didn't make allows nothing.
func TestLimiters(t *testing.T) {
	a, b, one := limiter(t, 0, 1), limiter(t, 0, 1), ip("10.0.0.1")
	asks(t, a, ask{one, 0, true}, ask{one, 0, false})
	asks(t, b, ask{one, 0, true}, ask{one, 0, false})
	asks(t, nil, ask{one, 0, false})
	asks(t, &policy.Limiter{}, ask{one, 0, false})
}

// visits: a second reckoning of a limiter. It keeps who was seen in a row, and
// reckons without any bound of numbers.
type visits struct {
	rate, burst int64
	row         []*visitor
}

type visitor struct {
	who  string
	asks *big.Int
	last *big.Int
}

func (v *visits) allow(from string, now int) bool {
	var who string
	switch len(from) {
	case 4:
		who = "4 " + from[:3]
	case 16:
		who = "16 " + from[:7]
	default:
		return false
	}
	i := slices.IndexFunc(v.row, func(x *visitor) bool { return x.who == who })
	if i < 0 {
		i = len(v.row)
		v.row = append(v.row, &visitor{who, big.NewInt(v.burst), big.NewInt(int64(now))})
		if i == 1000 {
			i, v.row = 999, slices.Delete(v.row, 0, 1)
		}
	}
	x := v.row[i]
	if time := big.NewInt(int64(now)); time.Cmp(x.last) > 0 {
		gone := new(big.Int).Sub(time, x.last)
		x.asks.Add(x.asks, gone.Mul(gone, big.NewInt(v.rate)))
		if x.asks.Cmp(big.NewInt(v.burst)) > 0 {
			x.asks.SetInt64(v.burst)
		}
		x.last = time
	}
	if x.asks.Sign() == 0 {
		return false
	}
	x.asks.Sub(x.asks, big.NewInt(1))
	return true
}

func TestAllowAgain(t *testing.T) {
	t.Parallel()
	d := newDice(155)
	yes, no := 0, 0
	for range 60 {
		rate, burst := d.number(0, 1, 2, 3, 10, 1000), d.number(1, 2, 5, 20, 1000)
		l, v := limiter(t, rate, burst), &visits{rate: int64(rate), burst: int64(burst)}
		people, now := d.number(2, 5, 999, 1003, 1100), 0
		for range 4000 {
			now += d.number(0, 0, 0, 0, 1, 1, 2, -1, -3)
			if d.Intn(500) == 0 {
				now = d.number(math.MinInt, math.MaxInt, -1, 0, 1<<40, math.MinInt+1, math.MaxInt-1)
			}
			from := place(d.Intn(people))[:3] + d.bytes(1)
			if d.Intn(10) == 0 {
				from = d.bytes(d.number(3, 4, 5, 15, 16, 17))
			}
			want := v.allow(from, now)
			if got := l.Allow(from, now); got != want {
				t.Fatalf("P15.5: rate %d, burst %d: Allow(%x, %d) = %v", rate, burst, from, now, got)
			}
			if want {
				yes++
			} else {
				no++
			}
		}
	}
	if yes < 20000 || no < 20000 {
		t.Errorf("too few: %d allowed, %d refused", yes, no)
	}
}

// TestAllowedInAnyTime: from one time to another no more than burst, and rate
// for each second.
func TestAllowedInAnyTime(t *testing.T) {
	t.Parallel()
	d := newDice(156)
	tight := 0
	for range 200 {
		rate, burst := d.Intn(5), 1+d.Intn(6)
		l, now := limiter(t, rate, burst), d.Intn(100)-50
		var allowed []int // when
		for range 150 {
			now += d.number(0, 0, 0, 0, 0, 1, 1, 5)
			if l.Allow(ip("10.0.0.1"), now) {
				allowed = append(allowed, now)
			}
			l.Allow(place(d.Intn(20)), now) // others change nothing
		}
		for i, from := range allowed {
			for k, to := range allowed[i:] {
				count, most := k+1, burst+rate*(to-from)
				if count > most {
					t.Fatalf("P15.6: rate %d, burst %d: %d are allowed from %d to %d", rate, burst, count, from, to)
				}
				if count == most {
					tight++
				}
			}
		}
	}
	if tight < 1000 {
		t.Errorf("only %d times as many are allowed as may be", tight)
	}
}
