package policy

import "gazetteer/api"

// Limiter: who asks how often.
type Limiter struct {
	rate, burst int
	seen        map[party]*account
	queue       []party // all of seen, in the order in which they came
}

// Limits of what a limiter may be given.
const (
	maxRate  = 1000
	maxBurst = 1000
)

// NewLimiter: one of a rate.
func NewLimiter(rate, burst int) (*Limiter, api.Errno) {
	if rate < 0 || rate > maxRate || burst < 1 || burst > maxBurst {
		return nil, api.ErrArg
	}
	return &Limiter{rate: rate, burst: burst, seen: make(map[party]*account)}, api.OK
}

// party: those who are one: how many bytes their addresses have, and those of
// them that count.
type party struct {
	size  int
	first [7]byte
}

// partyOf: whose an address is; false if it is none.
func partyOf(from string) (party, bool) {
	p := party{size: len(from)}
	switch len(from) {
	case 4:
		copy(p.first[:], from[:3])
	case 16:
		copy(p.first[:], from[:7])
	default:
		return party{}, false
	}
	return p, true
}

// account: what is kept of a party.
type account struct {
	asks int // how many it has to go
	last int // the latest time at which it was seen
}

// Allow: may somebody ask?
func (l *Limiter) Allow(from string, now int) bool {
	p, ok := partyOf(from)
	if !ok || l == nil || l.burst == 0 {
		return false
	}
	a, ok := l.seen[p]
	if !ok {
		a = l.admit(p, now)
	}
	l.refill(a, now)
	if a.asks == 0 {
		return false
	}
	a.asks--
	return true
}

// admit: a party comes, and the first one goes if there is no room for both.
func (l *Limiter) admit(p party, now int) *account {
	if len(l.queue) == api.MaxSeen {
		delete(l.seen, l.queue[0])
		l.queue = l.queue[1:]
	}
	a := &account{asks: l.burst, last: now}
	l.seen[p] = a
	l.queue = append(l.queue, p)
	return a
}

// refill: what the time since it was last seen gives a party.
func (l *Limiter) refill(a *account, now int) {
	if now <= a.last {
		return
	}
	// Two times may lie further apart than an int can tell. As many seconds as
	// burst are enough to fill up what fills up at all.
	seconds := uint(now) - uint(a.last)
	more := l.rate * int(min(seconds, uint(l.burst)))
	a.asks = min(a.asks+more, l.burst)
	a.last = now
}
