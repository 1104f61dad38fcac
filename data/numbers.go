package data

import (
	"strconv"
	"strings"

	"gazetteer/spell"
)

// number: n8, n16 and n32, by how many bytes they have.
type number struct{ width int }

func (n number) size(d string) int { return need(d, n.width) }

func (number) show(d string) []string {
	return []string{strconv.Itoa(spell.Value(d))}
}

func (n number) read(l *line) string {
	value, ok := spell.Number(l.plain(), 10, 8*n.width)
	l.must(ok)
	return spell.Bytes(value, n.width)
}

// ip4: an address of four bytes.
type ip4 struct{}

func (ip4) size(d string) int { return need(d, 4) }

func (ip4) show(d string) []string {
	var numbers []string
	for i := range len(d) {
		numbers = append(numbers, strconv.Itoa(int(d[i])))
	}
	return []string{strings.Join(numbers, ".")}
}

func (ip4) read(l *line) string {
	numbers := strings.Split(l.plain(), ".")
	l.must(len(numbers) == 4)
	var b []byte
	for _, digits := range numbers {
		value, ok := spell.Number(digits, 3, 8)
		l.must(ok && (len(digits) == 1 || digits[0] != '0'))
		b = append(b, byte(value))
	}
	return string(b)
}

// ip6: an address of sixteen bytes, told in groups of two.
type ip6 struct{}

const (
	ip6Groups = 8
	ip6Gap    = "::"
)

func (ip6) size(d string) int { return need(d, 2*ip6Groups) }

func (ip6) show(d string) []string {
	var groups []string
	for i := 0; i < len(d); i += 2 {
		groups = append(groups, strconv.FormatInt(int64(d[i])<<8|int64(d[i+1]), 16))
	}
	from, to := longestGap(groups)
	if to-from < 2 {
		return []string{strings.Join(groups, ":")}
	}
	return []string{strings.Join(groups[:from], ":") + ip6Gap + strings.Join(groups[to:], ":")}
}

// longestGap: where the longest row of groups of nought begins and ends; the
// first, if several are equally long.
func longestGap(groups []string) (int, int) {
	from, to, begin := 0, 0, 0
	for i, group := range groups {
		if group != "0" {
			begin = i + 1
		} else if i+1-begin > to-from {
			from, to = begin, i+1
		}
	}
	return from, to
}

func (ip6) read(l *line) string {
	head, rest, gap := strings.Cut(l.plain(), ip6Gap)
	b := readGroups(l, head)
	behind := readGroups(l, rest)
	missing := 2*ip6Groups - len(b) - len(behind)
	l.must(gap && missing > 0 || !gap && missing == 0)
	b = append(b, make([]byte, missing)...)
	return string(append(b, behind...))
}

// readGroups: the bytes of groups with ":" between, on one side of the gap:
// none, if nothing stands there.
func readGroups(l *line, groups string) []byte {
	if groups == "" {
		return nil
	}
	var b []byte
	for _, digits := range strings.Split(groups, ":") {
		value, err := strconv.ParseUint(digits, 16, 16)
		l.must(err == nil && len(digits) <= 4)
		b = append(b, byte(value>>8), byte(value))
	}
	return b
}
