package wire_test

import (
	"encoding/hex"
	"slices"
	"strings"
	"testing"

	"gazetteer/api"
	"gazetteer/wire"
)

// dump gives the bytes that hexadecimal digits tell; blanks don't count, and
// what stands in quotes is told as it is.
func dump(text string) string {
	var b strings.Builder
	for i, piece := range strings.Split(text, "'") {
		if i%2 == 1 {
			b.WriteString(piece)
			continue
		}
		told, err := hex.DecodeString(strings.ReplaceAll(piece, " ", ""))
		if err != nil {
			panic(text)
		}
		b.Write(told)
	}
	return b.String()
}

// head gives a head with these numbers of parts.
func head(counts ...byte) string {
	b := []byte{0, 0, 0, 0, 0, 0, 0, 0, 0, 0, 0, 0}
	for i, count := range counts {
		b[5+2*i] = count
	}
	return string(b)
}

func answers(list ...api.Record) api.Message { return api.Message{Answers: list} }

// same: but for lists that are nil or empty.
func same(a, b api.Message) bool {
	ok := slices.Equal(a.Questions, b.Questions) && slices.Equal(a.Answers, b.Answers) &&
		slices.Equal(a.Authority, b.Authority) && slices.Equal(a.Additional, b.Additional)
	return ok && signs(a) == signs(b) && a.ID == b.ID && a.Opcode == b.Opcode && a.Rcode == b.Rcode
}

func signs(m api.Message) [7]bool {
	return [7]bool{m.Response, m.AA, m.TC, m.RD, m.RA, m.AD, m.CD}
}

type pair struct {
	told string
	m    api.Message
	b    string
}

// pairs are messages and the bytes that they are, of which each gives the other.
func pairs() []pair {
	const ip, ipDump = "\x0a\x00\x00\x01", "0001 0001 0000003c 0004 0a000001"
	return slices.Concat(headPairs(), []pair{
		{"the chapter's question", api.Message{ID: 7, RD: true, Questions: asked("www.ex.")},
			dump("0007 0100 0001 0000 0000 0000 03'www'02'ex'00 0001 0001")},
		{"the chapter's answers", api.Message{Questions: asked("www.ex."), Answers: []api.Record{
			record("www.ex.", api.A, ip), record("mail.ex.", api.A, ip), record("EX.", api.A, ip)}},
			head(1, 3) + dump("03'www'02'ex'00 0001 0001"+"c00c"+ipDump+"04'mail'c010"+ipDump+"02'EX'00"+ipDump)},
		{"each section", api.Message{Questions: append(asked("a."), asked("b.a.")...), Answers: []api.Record{record("a.", api.A, ip)},
			Authority: []api.Record{record("b.a.", api.A, ip)}, Additional: []api.Record{record("c.b.a.", api.A, ip), record("c.", api.A, ip)}},
			head(2, 1, 1, 2) + dump("01'a'00 0001 0001"+"01'b'c00c 0001 0001"+"c00c"+ipDump+"c013"+ipDump+"01'c'c013"+ipDump+"01'c'00"+ipDump)},
		{"the root is never pointed to", api.Message{Questions: asked("."), Answers: []api.Record{record(".", api.NS, api.Root), record("a.", api.NS, api.Root)}},
			head(1, 2) + dump("00 0001 0001"+"00 0002 0001 0000003c 0001 00"+"01'a'00 0002 0001 0000003c 0001 00")},
		{"labels that are the same", answers(record("ex.ex.ex.", api.A, ip), record("ex.ex.", api.A, ip), record("ex.", api.A, ip)),
			head(0, 3) + dump("02'ex'02'ex'02'ex'00"+ipDump+"c00f"+ipDump+"c012"+ipDump)},
		{"names in data", answers(record("a.", api.NS, n("b.a.")), record("b.a.", api.CNAME, n("c.b.a.")), record("c.b.a.", api.PTR, n("a."))),
			head(0, 3) + dump("01'a'00 0002 0001 0000003c 0004 01'b'c00c"+"c019 0005 0001 0000003c 0004 01'c'c019"+"c029 000c 0001 0000003c 0002 c00c")},
		{"MX and SOA", answers(record("a.", api.MX, "\x00\x0a"+n("m.a.")), record("m.a.", api.SOA, soa("m.a.", "h.m.a."))),
			head(0, 2) + dump("01'a'00 000f 0001 0000003c 0006 000a 01'm'c00c"+
				"c01b 0006 0001 0000003c 001a c01b 01'h'c01b 00000001 00000002 00000003 00000004 00000005")},
		{"a number in data that looks like a pointer", answers(record("a.", api.MX, "\xc0\x0c"+n("a."))),
			head(0, 1) + dump("01'a'00 000f 0001 0000003c 0004 c00c c00c")},
		{"names in other data stand whole, and aren't pointed to", answers(record("a.", api.DNAME, n("x.a.")), record("x.a.", api.SRV, zeros(6)+n("y.x.a.")), record("y.x.a.", api.A, ip)),
			head(0, 3) + dump("01'a'00 0027 0001 0000003c 0005 01'x'01'a'00"+"01'x'c00c 0021 0001 0000003c 000d 000000000000 01'y'01'x'01'a'00"+"01'y'c01e"+ipDump)},
		{"more such data", answers(record("a.", api.NSEC, n("a.")+"\x00\x01\x40"), record("a.", api.NAPTR, zeros(7)+n("a.")), record("a.", api.RRSIG, "\x00\x01"+zeros(16)+n("a.")+"s")),
			head(0, 3) + dump("01'a'00 002f 0001 0000003c 0006 01'a'00 000140"+"c00c 0023 0001 0000003c 000a 00000000000000 01'a'00"+
				"c00c 002e 0001 0000003c 0016 0001 00000000000000000000000000000000 01'a'00 's'")},
		{"no data where none need be", answers(
			api.Record{Owner: n("a."), Type: api.MX, Class: api.ClsAny}, api.Record{Owner: n("a."), Type: api.SOA, Class: api.ClsNone}, api.Record{Owner: n("a."), Type: api.ANY, Class: api.ClsAny}),
			head(0, 3) + dump("01'a'00 000f 00ff 00000000 0000"+"c00c 0006 00fe 00000000 0000"+"c00c 00ff 00ff 00000000 0000")},
		{"names in data of other classes", answers(api.Record{Owner: n("a."), Type: api.NS, Class: api.ClsNone, Data: n("b.a.")}),
			head(0, 1) + dump("01'a'00 0002 00fe 00000000 0004 01'b'c00c")},
		{"OPT", answers(api.Record{Owner: api.Root, Type: api.OPT, Class: 4096, TTL: 32768, Data: "\xc0\x0c\x00"}),
			head(0, 1) + dump("00 0029 1000 00008000 0003 c00c00")},
		{"TTL of all bits", answers(api.Record{Owner: n("a."), Type: 65280, Class: 65535, TTL: 4294967295}),
			head(0, 1) + dump("01'a'00 ff00 ffff ffffffff 0000")},
		{"bytes of any kind in a label", api.Message{Questions: asked(`\192\012\000.\000.`)},
			head(1) + dump("03 c00c00 01 00 00 0001 0001")},
	})
}

// headPairs are heads with nothing behind them.
func headPairs() []pair {
	empty := zeros(8)
	return []pair{
		{"nothing", api.Message{}, zeros(12)},
		{"ID", api.Message{ID: 0xabcd}, "\xab\xcd\x00\x00" + empty},
		{"Response", api.Message{Response: true}, "\x00\x00\x80\x00" + empty},
		{"Opcode 1", api.Message{Opcode: 1}, "\x00\x00\x08\x00" + empty},
		{"Opcode 15", api.Message{Opcode: 15}, "\x00\x00\x78\x00" + empty},
		{"AA", api.Message{AA: true}, "\x00\x00\x04\x00" + empty},
		{"TC", api.Message{TC: true}, "\x00\x00\x02\x00" + empty},
		{"RD", api.Message{RD: true}, "\x00\x00\x01\x00" + empty},
		{"RA", api.Message{RA: true}, "\x00\x00\x00\x80" + empty},
		{"AD", api.Message{AD: true}, "\x00\x00\x00\x20" + empty},
		{"CD", api.Message{CD: true}, "\x00\x00\x00\x10" + empty},
		{"Rcode 1", api.Message{Rcode: 1}, "\x00\x00\x00\x01" + empty},
		{"Rcode 15", api.Message{Rcode: 15}, "\x00\x00\x00\x0f" + empty},
		{"all", api.Message{ID: 65535, Response: true, Opcode: 15, AA: true, TC: true, RD: true, RA: true, AD: true, CD: true, Rcode: 15},
			"\xff\xff\xff\xbf" + empty},
	}
}

func TestPack(t *testing.T) {
	for _, c := range pairs() {
		b, e := wire.Pack(c.m)
		if string(b) != c.b || e != api.OK {
			t.Errorf("P3.2 %s: Pack = %x, %d; wanted %x, OK", c.told, b, e, c.b)
		}
	}
}

const headSize = 12

// filler gives a record with so many bytes of data, and 11 ahead of them; its
// owner has no label, so that no pointer leads to it.
func filler(size int) api.Record {
	return api.Record{Owner: api.Root, Type: 65280, Class: api.IN, Data: zeros(size)}
}

// Names at the edge of what a pointer may tell: of a.b., first at a place, then
// behind it; and of b., twice.
func TestPackPlaces(t *testing.T) {
	const ip = "0001 0001 0000003c 0004 0a000001"
	list := []api.Record{filler(0)}
	for _, owner := range []string{"a.b.", "a.b.", "b.", "b."} {
		list = append(list, record(owner, api.A, "\x0a\x00\x00\x01"))
	}
	for _, c := range []struct {
		place int
		want  [3]string // the owners behind the first
	}{
		{16380, [...]string{"fffc", "fffe", "fffe"}},
		{16381, [...]string{"fffd", "ffff", "ffff"}},
		{16382, [...]string{"fffe", "01'b'00", "01'b'00"}},
		{16383, [...]string{"ffff", "01'b'00", "01'b'00"}},
		{16384, [...]string{"01'a'01'b'00", "01'b'00", "01'b'00"}},
	} {
		list[0] = filler(c.place - headSize - 11)
		want := dump("01'a'01'b'00" + ip + c.want[0] + ip + c.want[1] + ip + c.want[2] + ip)
		b, e := wire.Pack(answers(list...))
		if e != api.OK || string(b[c.place:]) != want {
			t.Errorf("P3.2 names from %d on: Pack = %x, %d; wanted %x, OK", c.place, b[c.place:], e, want)
		}
		m, at, e := wire.Unpack(b)
		if !same(m, answers(list...)) || at != 0 || e != api.OK {
			t.Errorf("P3.3 names from %d on: Unpack = %v, %d, %d; wanted what was packed", c.place, m.Answers[1:], at, e)
		}
	}
}

func TestPackLarge(t *testing.T) {
	short := filler(65535 - headSize - 11 - 16)
	b, e := wire.Pack(answers(short, record(".", api.A, zeros(4))))
	if len(b) != 65534 || e != api.OK {
		t.Errorf("P3.2 Pack of 65534 bytes = %d bytes, %d; wanted OK", len(b), e)
	}
	b, e = wire.Pack(answers(filler(65535 - headSize - 11)))
	if len(b) != 65535 || e != api.OK || string(b[12:23]) != dump("00 ff00 0001 00000000 ffe8") {
		t.Errorf("P3.2 Pack of 65535 bytes = %d bytes, %d; wanted OK", len(b), e)
	}
	b, e = wire.Pack(answers(filler(65536 - headSize - 11)))
	if b != nil || e != api.ErrLarge {
		t.Errorf("P3.2 Pack of 65536 bytes = %d bytes, %d; wanted ErrLarge", len(b), e)
	}
	// What stands behind it isn't right: that is told first.
	b, e = wire.Pack(answers(filler(65536-headSize-11), api.Record{}))
	if b != nil || e != api.ErrForm {
		t.Errorf("P3.2 Pack of 65536 bytes, and what is wrong = %d bytes, %d; wanted ErrForm", len(b), e)
	}
	// Names made short count as they are written.
	named := repeat(api.Record{Owner: name255, Type: api.NS, Class: api.IN, Data: name255}, 4000)
	b, e = wire.Pack(answers(named...))
	if want := headSize + 255 + 2 + 10 + 3999*14; len(b) != want || e != api.OK {
		t.Errorf("P3.2 Pack of 4000 long names = %d bytes, %d; wanted %d, OK", len(b), e, want)
	}
}

// What is handed in stays as it is, and nothing is kept from call to call.
func TestPackTwice(t *testing.T) {
	m := whole()
	first, _ := wire.Pack(m)
	keep := string(first)
	clear(first)
	second, e := wire.Pack(m)
	if string(second) != keep || e != api.OK || !same(m, whole()) {
		t.Errorf("P2 Pack twice = %x and %x, %d", keep, second, e)
	}
}
