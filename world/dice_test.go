package world_test

import (
	"math/rand"
	"strconv"
	"strings"
)

// dice: chance that is the same each time.
type dice struct{ *rand.Rand }

func newDice(seed int64) dice { return dice{rand.New(rand.NewSource(seed))} }

func (d dice) oneOf(texts ...string) string { return texts[d.Intn(len(texts))] }

// odds: once in so many times.
func (d dice) odds(of int) bool { return d.Intn(of) == 0 }

func (d dice) server() string {
	if d.odds(40) {
		return d.oneOf("x", "A", "ab", "b.", "")
	}
	return d.oneOf("a", "a", "b", "b", "c")
}

func (d dice) apex() string {
	if d.odds(40) {
		return d.oneOf("..", "org", strings.Repeat("x", 64)+".", "x.ex.", "\\")
	}
	return d.oneOf("ex.", "ex.", "ex", "eX.", "b.ex.", "b.ex.", ".", "B.Ex", "u.ex.")
}

func (d dice) label() string { return d.oneOf("a", "b", "c", "A", "ns", "*", "u", `x\.y\032`, "w") }

func (d dice) name() string {
	if d.odds(60) {
		return d.oneOf("a..b", ".x", "\\999", strings.Repeat("y", 64), "@", strings.Repeat("abcdefghi.", 26))
	}
	text := ""
	for range d.Intn(3) {
		text += d.label() + "."
	}
	return text + d.oneOf("ex.", "ex.", "ex.", "b.ex.", "b.ex.", "b.ex.", "EX", "")
}

func (d dice) typ() string {
	if d.odds(40) {
		return d.oneOf("B", "TYPE0", "1", "AXFR", "OPT", "TYPE77777", "TYPE200")
	}
	return d.oneOf("A", "A", "A", "NS", "CNAME", "MX", "TXT", "DS", "SOA", "NSEC", "RRSIG", "DNSKEY", "ANY", "DNAME", "a", "TYPE1", "TYPE700", "AAAA")
}

// record gives words from the type on that tell data.
func (d dice) record() string {
	if d.odds(40) {
		return d.oneOf("A 10.0", "A", "NS", "MX 1", "TXT", "B x", "A \"10.0.0.1\"", "TYPE700 x", "DS 1", "ANY x", "A \\# 1 00", "NS "+strings.Repeat("z", 64))
	}
	return d.oneOf("A 10.0.0."+strconv.Itoa(d.Intn(4)), "A 10.0.0.1", "AAAA ::1", "NS "+d.label(), "NS ns.ex.", "CNAME "+d.label(), "MX 1 "+d.label(), "TXT a b",
		"TXT "+d.label(), "DS 1 253 1 00", "DNAME "+d.label(), "TYPE700 \\# 1 0a", "SOA ns h "+d.serial()+" 2 3 4 5", "DNSKEY 257 3 253 AAEIBwAAAAM=", "SRV 1 2 3 "+d.label())
}

func (d dice) serial() string {
	return d.oneOf("1", "2", "3", "4", "5", "6", "7", "8", "9", "4294967295", "0", "2147483648")
}

func (d dice) number() string {
	if d.odds(40) {
		return d.oneOf("x", "12345678901", "-1", "4294967296", "9999999999", "", "+1")
	}
	return d.oneOf("60", "5", "0", "300")
}

func (d dice) load() string {
	parts := []string{"$TTL 60", "@ SOA ns h " + d.serial() + " 2 3 4 5", "@ NS ns"}
	for range d.Intn(4) {
		parts = append(parts, d.label()+d.oneOf("", ".b", ".u")+" "+d.record())
	}
	if d.odds(2) {
		parts = append(parts, "$GENERATE 1-"+strconv.Itoa(10+d.Intn(40))+" h$ A 10.0.1.$")
	}
	if d.odds(3) {
		parts = append(parts, "b NS ns.b", "u NS ns.u", "ns.u A 10.0.0.9")
	}
	if d.odds(30) {
		parts[d.Intn(len(parts))] = d.oneOf("(", "\"", ")", "x", " A 10.0.0.1", "")
	}
	return "load " + d.server() + " " + d.apex() + " " + strings.Join(parts, "|")
}

// opening gives lines with which a world begins: servers, and perhaps zones one
// below the other that are signed, of which one is an anchor.
func (d dice) opening() []string {
	list := []string{"server a", "server b", "server c"}
	if d.odds(2) {
		return list[:d.Intn(4)]
	}
	list = append(list, loading("a", "ex.", 1, "b NS ns.b", "u NS ns.u", "*.w TXT a", many), loading("b", "u.ex.", 1, "a A 10.0.0.1"), loading(d.server(), "b.ex.", 1, "a A 10.0.0.1"))
	list = append(list, "sign a ex. 251 263 3 0 100", "anchor a ex.")
	if d.odds(2) {
		list = append(list, "copy a "+d.server()+" ex.", "copy b "+d.server()+" u.ex.")
	}
	return list
}

// line gives one that is right, most times, or could be.
func (d dice) line() string {
	line := d.rightLine()
	words := strings.Split(line, " ")
	switch d.Intn(60) {
	case 0:
		return strings.Join(words[:d.Intn(len(words))], " ")
	case 1:
		return line + " " + d.oneOf("x", "+", "1", "|")
	case 2:
		words[d.Intn(len(words))] = d.oneOf("x", "", "+", "1", "\"", "A", "a", "time")
		return strings.Join(words, " ")
	case 3:
		return "  " + strings.Join(words, "   ") + " "
	}
	return line
}

func (d dice) rightLine() string {
	switch d.Intn(24) {
	case 0:
		return "time " + d.oneOf("1", "2", "3", "4", "5", "10", "20", "100", "5000000000", "00000000001")
	case 1, 2:
		return "server " + d.oneOf("a", "b", "c", "d", "e1", "F", "abcdefghijklmnopqrstu", "x.y")
	case 3, 4, 5, 6:
		return d.load()
	case 7, 8:
		return "sign " + d.server() + " " + d.apex() + " " + d.oneOf("251 263 3", "257 263 3", "269 271 7", "7 13 5", "251 263 5") + " " + d.oneOf("0", "0", "3", "50") + " " + d.oneOf("9", "100", "100", "5000000000")
	case 9, 10:
		return "show " + d.server() + " " + d.apex()
	case 11, 12, 13:
		return "ask " + d.server() + " " + d.name() + " " + d.typ() + " " + d.oneOf("+", "+", "-", "-", "-", "*")
	case 14, 15, 16:
		return "change " + d.server() + " " + d.apex() + " " + d.oneOf("+", "+", "+", "-", "-", "=", "%") + " " + d.name() + " " + d.number() + " " + d.record()
	case 17, 18:
		return "copy " + d.server() + " " + d.server() + " " + d.apex()
	case 19:
		return "crash " + d.server()
	case 20:
		if d.odds(2) {
			return "rule " + d.server() + " " + d.oneOf("pass", "*pass", "drop", "*drop", "noname", "*nodata", "say", "*say", "what") + " " + d.name() + " " + d.record()
		}
		return "ask " + d.server() + " " + d.name() + " " + d.typ() + " -"
	case 21:
		return "anchor " + d.server() + " " + d.apex()
	}
	return "judge " + d.server() + " " + d.oneOf(d.name(), "h3.ex.", "ns.ex.", "ex.", "h3.b.ex.", "ns.b.ex.", ".", "a.u.ex.", "ns.u.ex.") + " " + d.typ()
}
