package data

import (
	"slices"
	"strconv"
	"strings"

	"gazetteer/api"
	"gazetteer/spell"
)

const maxType = 65535

// typeWords are the types that have a word of their own.
var typeWords = [...]struct {
	number int
	word   string
}{
	{api.A, "A"}, {api.NS, "NS"}, {api.CNAME, "CNAME"}, {api.SOA, "SOA"}, {api.PTR, "PTR"}, {api.HINFO, "HINFO"},
	{api.MX, "MX"}, {api.TXT, "TXT"}, {api.AAAA, "AAAA"}, {api.SRV, "SRV"}, {api.NAPTR, "NAPTR"}, {api.DNAME, "DNAME"},
	{api.OPT, "OPT"}, {api.DS, "DS"}, {api.RRSIG, "RRSIG"}, {api.NSEC, "NSEC"}, {api.DNSKEY, "DNSKEY"}, {api.NSEC3, "NSEC3"},
	{api.NSEC3PARAM, "NSEC3PARAM"}, {api.IXFR, "IXFR"}, {api.AXFR, "AXFR"}, {api.ANY, "ANY"}, {api.CAA, "CAA"},
}

// otherWord stands ahead of the number of a type that has no word.
const otherWord = "TYPE"

// TypeName: how a type is written.
func TypeName(t int) string {
	if !isType(t) {
		return ""
	}
	for _, row := range typeWords {
		if row.number == t {
			return row.word
		}
	}
	return otherWord + strconv.Itoa(t)
}

// TypeOf: the number of a type's word.
func TypeOf(s string) int {
	word := spell.Small(s)
	for _, row := range typeWords {
		if spell.Small(row.word) == word {
			return row.number
		}
	}
	digits, ok := strings.CutPrefix(word, spell.Small(otherWord))
	if !ok {
		return 0
	}
	t, _ := spell.Number(digits, 5, 16)
	return t
}

func isType(t int) bool { return 1 <= t && t <= maxType }

// isDataType: may records of the type stand anywhere but in messages?
func isDataType(t int) bool {
	return isType(t) && t != api.OPT && (t < 128 || t > 255)
}

// Types: the types of a set.
func Types(set string) (list []int, e api.Errno) {
	defer func() { e = faultOf(recover()).code }()
	return typesOf(set), api.OK
}

// maxBlock: the most bytes that the types of one block take.
const maxBlock = 32

// typesOf: the types of a set; it throws ErrData if it is none.
func typesOf(set string) []int {
	var list []int
	for last := -1; set != ""; {
		need(set, 2)
		block, size := int(set[0]), int(set[1])
		if block <= last || size < 1 || size > maxBlock {
			throw(api.ErrData, 0)
		}
		end := need(set, 2+size)
		if set[end-1] == 0 {
			throw(api.ErrData, 0)
		}
		list = appendBlock(list, block, set[2:end])
		last, set = block, set[end:]
	}
	if len(list) > 0 && !isType(list[0]) {
		throw(api.ErrData, 0)
	}
	return list
}

func appendBlock(list []int, block int, marks string) []int {
	for i := range 8 * len(marks) {
		if marks[i/8]&markOf(i) != 0 {
			list = append(list, block<<8+i)
		}
	}
	return list
}

// markOf: the bit of a type in its byte of a set.
func markOf(t int) byte { return 128 >> (t % 8) }

// Set: the set of types.
func Set(types []int) string {
	var set []byte
	block, sizeAt := -1, 0
	for _, t := range slices.Sorted(slices.Values(types)) {
		if !isType(t) {
			continue
		}
		if t>>8 != block {
			block = t >> 8
			set = append(set, byte(block), 0)
			sizeAt = len(set) - 1
		}
		for int(set[sizeAt]) <= t%256/8 {
			set = append(set, 0)
			set[sizeAt]++
		}
		set[len(set)-1] |= markOf(t)
	}
	return string(set)
}

// oneType: a type.
type oneType struct{}

func (oneType) size(d string) int {
	end := need(d, 2)
	if d[:end] == "\x00\x00" {
		throw(api.ErrData, 0)
	}
	return end
}

func (oneType) show(d string) []string {
	return []string{TypeName(spell.Value(d))}
}

func (oneType) read(l *line) string {
	return spell.Bytes(readType(l), 2)
}

// readType: the type that the next word tells.
func readType(l *line) int {
	t := TypeOf(l.plain())
	l.must(isType(t))
	return t
}

// typeSet: a set of types, to the end.
type typeSet struct{}

func (typeSet) size(d string) int {
	typesOf(d)
	return len(d)
}

func (typeSet) show(d string) []string {
	var words []string
	for _, t := range typesOf(d) {
		words = append(words, TypeName(t))
	}
	return words
}

func (typeSet) read(l *line) string {
	var list []int
	for l.more() {
		list = append(list, readType(l))
	}
	return Set(list)
}
