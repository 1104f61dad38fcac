package wire_test

import (
	"strings"
	"testing"

	"gazetteer/api"
	"gazetteer/wire"
)

func TestUnpack(t *testing.T) {
	for _, c := range pairs() {
		m, at, e := wire.Unpack([]byte(c.b))
		if !same(m, c.m) || at != 0 || e != api.OK {
			t.Errorf("P3.3 %s: Unpack(%x) = %+v, %d, %d; wanted %+v, 0, OK", c.told, c.b, m, at, e, c.m)
		}
	}
}

// Whatever is taken from the end of a message, or laid behind it, is told where
// the part begins that isn't whole any more.
func TestUnpackCut(t *testing.T) {
	m := whole()
	b, _ := wire.Pack(m)
	var begins []int
	for i := range 5 {
		part := m
		part.Answers = part.Answers[:min(i, 1)]
		part.Authority = part.Authority[:min(max(i-1, 0), 2)]
		part.Additional = part.Additional[:max(i-3, 0)]
		packed, _ := wire.Pack(part)
		begins = append(begins, len(packed))
	}
	for size := range b {
		want := 12
		for _, begin := range begins {
			if begin <= size {
				want = begin
			}
		}
		if size < headSize {
			want = size
		}
		wantFault(t, "a message cut short", string(b[:size]), want, api.ErrEnd)
	}
	wantFault(t, "a byte more", string(b)+"\x00", len(b), api.ErrTrail)
	wantFault(t, "a message more", string(b)+string(b), len(b), api.ErrTrail)
}

func wantFault(t *testing.T, told, b string, at int, e api.Errno) {
	t.Helper()
	m, gotAt, gotE := wire.Unpack([]byte(b))
	if !same(m, api.Message{}) || gotAt != at || gotE != e {
		t.Errorf("P3.3 %s: Unpack(%x) = %v, %d, %d; wanted nothing, %d, %d", told, b, m, gotAt, gotE, at, e)
	}
}

func TestUnpackHead(t *testing.T) {
	wantFault(t, "no bytes", "", 0, api.ErrEnd)
	wantFault(t, "eleven bytes", zeros(11), 11, api.ErrEnd)
	wantFault(t, "eleven bytes with bit 6", "\x00\x00\x00\x40"+zeros(7), 11, api.ErrEnd)
	wantFault(t, "bit 6", "\x00\x00\x00\x40"+zeros(8), 2, api.ErrForm)
	wantFault(t, "bit 6 and what is wrong behind it", "\xff\xff\xff\xff"+head(1)[4:], 2, api.ErrForm)
	wantFault(t, "thirteen bytes", zeros(13), 12, api.ErrTrail)
	wantFault(t, "65535 bytes", zeros(65535), 12, api.ErrTrail)
	wantFault(t, "65536 bytes", zeros(65536), 0, api.ErrLarge)
	wantFault(t, "65536 bytes with bit 6", "\x00\x00\x00\x40"+zeros(65532), 0, api.ErrLarge)
	wantFault(t, "65535 questions", "\x00\x00\x00\x00\xff\xff\x00\x00\x00\x00\x00\x00", 12, api.ErrEnd)
	wantFault(t, "65535 additional records", "\x00\x00\x00\x00\x00\x00\x00\x00\x00\x00\xff\xff", 12, api.ErrEnd)
	wantFault(t, "a question more than there is", head(2)+dump("00 0001 0001"), 17, api.ErrEnd)
}

// named: bytes that begin with a name, and the name.
type named struct {
	told string
	b    string
	want string
	at   int
	e    api.Errno
}

// Names as they stand in questions, from place 12 on, with type and class
// behind them where they are right.
func namesOfQuestions() []named {
	long := label(63) + label(63) + label(63) // 192 bytes
	const end = "\x00\x01\x00\x01"
	return []named{
		{"the root", "\x00" + end, api.Root, 0, api.OK},
		{"the most bytes", name255 + end, name255, 0, api.OK},
		{"one byte more", name256 + end, "", 12, api.ErrLong},
		{"the label that is too much, and nothing behind it", name256[:255], "", 12, api.ErrLong},
		{"the label that is too much isn't whole", name256[:254], "", 12, api.ErrEnd},
		{"all but the last byte", name255[:254], "", 12, api.ErrEnd},
		{"a byte 64 behind the label that is too much", name256[:255] + "\x40", "", 12, api.ErrLong},
		{"a byte 64", "\x40" + zeros(70), "", 12, api.ErrPointer},
		{"a byte 128", "\x80" + zeros(200), "", 12, api.ErrPointer},
		{"a byte 191, the last", "\xbf", "", 12, api.ErrPointer},
		{"a byte 64 behind a label", "\x01a\x40" + zeros(70), "", 12, api.ErrPointer},
		{"a label of 63 bytes", label(63) + "\x00" + end, label(63) + "\x00", 0, api.OK},
		{"a label that isn't whole", label(63)[:63], "", 12, api.ErrEnd},
		{"half a pointer", "\xc0", "", 12, api.ErrEnd},
		{"half a pointer that leads further on, whatever follows", "\xff", "", 12, api.ErrEnd},
		{"a pointer to itself", "\xc0\x0c" + end, "", 12, api.ErrPointer},
		{"a pointer to its name's beginning", "\x01a\xc0\x0c" + end, "", 12, api.ErrPointer},
		{"a pointer into its name", "\x01a\x01b\xc0\x0e" + end, "", 12, api.ErrPointer},
		{"a pointer further on", "\xc0\x0e\x00" + end, "", 12, api.ErrPointer},
		{"a pointer beyond the end", "\xff\xff" + end, "", 12, api.ErrPointer},
		{"a pointer to the byte ahead", "\xc0\x0b" + end, api.Root, 0, api.OK},
		{"a pointer to the beginning", "\x01a\xc0\x00" + end, n("a."), 0, api.OK},
		{"a label that begins in the head: the number of questions", "\xc0\x05" + end, "\x01\x00\x00", 0, api.OK},
		{"too long by a pointer", long + label(60) + "\xc0\x05" + end, "", 12, api.ErrLong},
		{"just not too long by a pointer", long + label(59) + "\xc0\x05" + end, long + label(59) + "\x01\x00\x00", 0, api.OK},
	}
}

func TestUnpackNames(t *testing.T) {
	for _, c := range namesOfQuestions() {
		m, at, e := wire.Unpack([]byte(head(1) + c.b))
		want := api.Message{Questions: []api.Question{{Name: c.want, Type: 1, Class: 1}}}
		if e != api.OK {
			want = api.Message{}
		}
		if !same(m, want) || at != c.at || e != c.e {
			t.Errorf("P3.3 %s: Unpack(%x) = %v, %d, %d; wanted %v, %d, %d", c.told, c.b, m, at, e, want, c.at, c.e)
		}
	}
}

// Owners whose pointers lead into the data of an OPT ahead of them, which begin
// at 23; the record behind those of so many bytes begins at 23 and so many.
func TestUnpackRows(t *testing.T) {
	const ending = "\xff\x00\x00\x01\x00\x00\x00\x00\x00\x00"
	for _, c := range []struct {
		told  string
		stash string
		owner string
		want  string
		e     api.Errno
	}{
		{"to labels", "\x01a\x01b\x00", "\xc0\x17", n("a.b."), api.OK},
		{"to the second label", "\x01a\x01b\x00", "\x01c\xc0\x19", n("c.b."), api.OK},
		{"to the root", "\x01a\x01b\x00", "\x01c\xc0\x1b", n("c."), api.OK},
		{"to labels and a pointer", "\x01a\x00\x01b\xc0\x17", "\x01c\xc0\x1a", n("c.b.a."), api.OK},
		{"to a pointer", "\x01a\x00\x01b\xc0\x17", "\x01c\xc0\x1c", n("c.a."), api.OK},
		{"to pointers", "\x00\xc0\x17\xc0\x18\xc0\x1a", "\x01c\xc0\x1c", n("c."), api.OK},
		{"to a pointer that leads to where its row began", "\x01b\xc0\x17", "\xc0\x17", "", api.ErrPointer},
		{"to a pointer that leads to itself", "\x01b\xc0\x19", "\xc0\x19", "", api.ErrPointer},
		{"to a pointer that leads to itself, behind a label", "\x01b\xc0\x19", "\xc0\x17", "", api.ErrPointer},
		{"to a pointer that leads further on, ahead of the owner", "\xc0\x19\x00", "\xc0\x17", "", api.ErrPointer},
		{"to pointers to each other", "\xc0\x19\xc0\x17", "\xc0\x19", "", api.ErrPointer},
		{"to a pointer into a label, whose byte is no length", "\x01b\xc0\x18\x00", "\xc0\x19", "", api.ErrPointer},
		{"to half a pointer, whose other half is the owner's", "\x00\xc0", "\x17\x00", "", api.ErrEnd},
		{"to a byte 64", "\x40", "\xc0\x17", "", api.ErrPointer},
		{"to a byte 191 behind a label", "\x01a\xbf", "\xc0\x17", "", api.ErrPointer},
		{"to a label that leads into the owner", "\x01", "\xc0\x17", "", api.ErrEnd},
		{"to a label that leads behind the owner to a label", "\x05", "\xc0\x17", "\x05\xc0\x17\xff\x00\x00\x01\x00\x00", api.OK},
		{"to a label that leads behind the owner to a byte 0", "\x06", "\xc0\x17", "\x06\xc0\x17\xff\x00\x00\x01\x00", api.OK},
		{"to a label up to the end", "\x0c", "\xc0\x17", "", api.ErrEnd},
		{"to a label beyond the end", "\x0d", "\xc0\x17", "", api.ErrEnd},
		{"to a label up to the last byte", "\x0b", "\xc0\x17", "\x0b\xc0\x17" + ending[:9] + "\x00", api.OK},
	} {
		opt := api.Record{Owner: api.Root, Type: api.OPT, Class: 0, Data: c.stash}
		b, _ := wire.Pack(answers(opt))
		b[7] = 2
		m, at, e := wire.Unpack([]byte(string(b) + c.owner + ending))
		want, wantAt := answers(opt, api.Record{Owner: c.want, Type: 65280, Class: 1}), 0
		if c.e != api.OK {
			want, wantAt = api.Message{}, 23+len(c.stash)
		}
		if !same(m, want) || at != wantAt || e != c.e {
			t.Errorf("P3.3 a pointer %s: Unpack = %v, %d, %d; wanted %v, %d, %d", c.told, m, at, e, want, wantAt, c.e)
		}
	}
}

// withData gives a message with one answer, a., whose data begin at 25.
func withData(typ, class int, d string) string {
	b := []byte(head(0, 1) + "\x01a\x00" + zeros(10))
	b[15], b[16], b[17], b[18] = byte(typ>>8), byte(typ), byte(class>>8), byte(class)
	b[23], b[24] = byte(len(d)>>8), byte(len(d))
	return string(b) + d
}

func TestUnpackData(t *testing.T) {
	long := label(63) + label(63) + label(63)
	for _, c := range []struct {
		typ  int
		d    string
		want string
	}{
		{api.NS, "\x00", api.Root},
		{api.NS, "\xc0\x0c", n("a.")},
		{api.NS, "\xc0\x0e", api.Root},
		{api.NS, "\x01b\xc0\x0c", n("b.a.")},
		{api.CNAME, "\x01b\xc0\x0c", n("b.a.")},
		{api.PTR, "\x01b\xc0\x0c", n("b.a.")},
		{api.NS, name255, name255},
		{api.NS, long + label(59) + "\xc0\x0c", long + label(59) + n("a.")},
		{api.NS, "\xc0\x00", api.Root},
		{api.MX, "\xc0\x0c\x01m\xc0\x0c", "\xc0\x0c" + n("m.a.")},
		{api.MX, "\x00\x0a\x00", "\x00\x0a\x00"},
		{api.SOA, "\xc0\x0c\xc0\x19" + zeros(20), n("a.") + n("a.") + zeros(20)},
		{api.SOA, "\x01b\xc0\x0c\x01h\xc0\x19" + zeros(20), n("b.a.") + n("h.b.a.") + zeros(20)},
		{api.SOA, name255 + name255 + zeros(20), name255 + name255 + zeros(20)},
		{api.DNAME, "\x01b\x00", n("b.")},
		{api.TXT, "\x02\xc0\x0c", "\x02\xc0\x0c"},
		{api.OPT, "\xc0\x0c", "\xc0\x0c"},
		{api.OPT, "", ""},
		{65280, "", ""},
		{65280, "\xc0\x0c", "\xc0\x0c"},
	} {
		m, at, e := wire.Unpack([]byte(withData(c.typ, 1, c.d)))
		want := answers(api.Record{Owner: n("a."), Type: c.typ, Class: 1, Data: c.want})
		if !same(m, want) || at != 0 || e != api.OK {
			t.Errorf("P3.3 data %x of type %d: Unpack = %v, %d, %d; wanted %v", c.d, c.typ, m, at, e, want)
		}
	}
	for _, typ := range []int{0, api.A, api.NS, api.MX, api.SOA, api.OPT, api.ANY} {
		for _, class := range []int{api.ClsNone, api.ClsAny} {
			m, at, e := wire.Unpack([]byte(withData(typ, class, "")))
			if !same(m, answers(api.Record{Owner: n("a."), Type: typ, Class: class})) || at != 0 || e != api.OK {
				t.Errorf("P3.3 no data of type %d, class %d: Unpack = %v, %d, %d; wanted OK", typ, class, m, at, e)
			}
		}
	}
}

type wrongData struct {
	told  string
	typ   int
	class int
	d     string
	e     api.Errno
}

func wrongDatas() []wrongData {
	long := label(63) + label(63) + label(63)
	list := []wrongData{
		{"two bytes ahead of a name, of which one is missing", api.MX, 1, "\x00", api.ErrData},
		{"a byte 64 in their place", api.MX, 1, "\x40", api.ErrData},
		{"no name behind two bytes", api.MX, 1, "\x00\x0a", api.ErrData},
		{"a pointer in their place", api.MX, 1, "\xc0\x0c", api.ErrData},
		{"a byte 64 behind them", api.MX, 1, "\x00\x0a\x40", api.ErrPointer},
		{"a pointer to them", api.MX, 1, "\x00\x00\xc0\x1b", api.ErrPointer},
		{"something behind the name", api.MX, 1, "\x00\x0a\xc0\x0c\x00", api.ErrData},
		{"no second name", api.SOA, 1, "\xc0\x0c", api.ErrData},
		{"half a second name", api.SOA, 1, "\xc0\x0c\xc0", api.ErrData},
		{"a second name with a byte 64", api.SOA, 1, "\xc0\x0c\x40" + zeros(20), api.ErrPointer},
		{"a second name whose pointer leads to it", api.SOA, 1, "\xc0\x0c\xc0\x1b" + zeros(20), api.ErrPointer},
		{"a second name that is too long", api.SOA, 1, "\xc0\x0c" + name256 + zeros(20), api.ErrLong},
		{"a first name with a byte 64, and no second", api.SOA, 1, "\x40", api.ErrPointer},
		{"numbers that end too early", api.SOA, 1, "\xc0\x0c\xc0\x0c" + zeros(19), api.ErrData},
		{"a byte behind the numbers", api.SOA, 1, "\xc0\x0c\xc0\x0c" + zeros(21), api.ErrData},
		{"a pointer where a name stands whole", api.DNAME, 1, "\xc0\x0c", api.ErrData},
		{"a byte 64 where a name stands whole", api.DNAME, 1, "\x40" + zeros(65), api.ErrData},
		{"a name that is too long where it stands whole", api.DNAME, 1, name256, api.ErrData},
		{"a pointer in an SRV", api.SRV, 1, zeros(6) + "\xc0\x0c", api.ErrData},
		{"an A of three bytes", api.A, 1, zeros(3), api.ErrData},
		{"an A of five bytes", api.A, 1, zeros(5), api.ErrData},
		{"an A of three bytes, class 255", api.A, api.ClsAny, zeros(3), api.ErrData},
		{"an A without data", api.A, 1, "", api.ErrData},
		{"an MX without data", api.MX, 1, "", api.ErrData},
		{"an SOA without data", api.SOA, 1, "", api.ErrData},
		{"type 0", 0, 1, "", api.ErrData},
		{"type ANY", api.ANY, 1, "", api.ErrData},
		{"type ANY, class 255, with data", api.ANY, api.ClsAny, "\x00", api.ErrData},
	}
	for _, typ := range []int{api.NS, api.CNAME, api.PTR} {
		for _, c := range []wrongData{
			{"no name", 0, 1, "", api.ErrData},
			{"no name, class 253", 0, 253, "", api.ErrData},
			{"no name, class 256", 0, 256, "", api.ErrData},
			{"a label that goes on behind the data", 0, 1, "\x01", api.ErrData},
			{"a name that goes on behind the data", 0, 1, "\x01b", api.ErrData},
			{"half a pointer", 0, 1, "\xc0", api.ErrData},
			{"half a pointer behind a label", 0, 1, "\x01b\xc0", api.ErrData},
			{"something behind the root", 0, 1, "\x00\x00", api.ErrData},
			{"something behind a pointer", 0, 1, "\xc0\x0c\x00", api.ErrData},
			{"something behind a name, class 255", 0, api.ClsAny, "\x00\x00", api.ErrData},
			{"a byte 64", 0, 1, "\x40", api.ErrPointer},
			{"a byte 191 behind a label", 0, 1, "\x01b\xbf", api.ErrPointer},
			{"a pointer to itself", 0, 1, "\xc0\x19", api.ErrPointer},
			{"a pointer to its name", 0, 1, "\x01b\xc0\x19", api.ErrPointer},
			{"a pointer further on", 0, 1, "\xc0\x1b\x00", api.ErrPointer},
			{"a name that is too long", 0, 1, name256, api.ErrLong},
			{"a name that is too long, and ends too early", 0, 1, name256[:255], api.ErrLong},
			{"a name that is too long by a pointer", 0, 1, long + label(60) + "\xc0\x0c", api.ErrLong},
			{"a pointer to a byte 64", 0, 1, "\x02b\x40\xc0\x1b", api.ErrPointer},
		} {
			c.typ = typ
			list = append(list, c)
		}
	}
	return list
}

func TestUnpackWrongData(t *testing.T) {
	for _, c := range wrongDatas() {
		b := withData(c.typ, c.class, c.d)
		wantFault(t, c.told, b, 12, c.e)
		// What stands behind the record isn't its own, and isn't looked at ahead of it.
		wantFault(t, c.told+", and more records", head(0, 2, 1)+b[12:]+b[12:]+b[12:], 12, c.e)
		wantFault(t, c.told+", and bytes 0", b+zeros(300), 12, c.e)
	}
}

// The rest of a name in data may lead behind the data, up to the message's end.
func TestUnpackDataRest(t *testing.T) {
	// 24 is the lower byte of the length, 2: so the label there is the pointer.
	b := withData(api.NS, 1, "\xc0\x18")
	wantFault(t, "a rest that ends too early", b, 12, api.ErrEnd)
	b = head(0, 2) + b[12:]
	wantFault(t, "a rest that ends with a byte 0", b+"\x00", 27, api.ErrEnd)
	m, at, e := wire.Unpack([]byte(b + dump("00 ff00 0001 00000000 0000")))
	want := answers(api.Record{Owner: n("a."), Type: api.NS, Class: 1, Data: "\x02\xc0\x18\x00"}, api.Record{Owner: api.Root, Type: 65280, Class: 1})
	if !same(m, want) || at != 0 || e != api.OK {
		t.Errorf("P3.3 a rest behind the data: Unpack = %v, %d, %d; wanted %v", m, at, e, want)
	}
	wantFault(t, "a rest that leads to a byte 64", b+"\x40", 12, api.ErrPointer)
	wantFault(t, "a rest that leads to a pointer further on", b+"\xc0\x1b", 12, api.ErrPointer)
}

// Of several faults the first is told, and of each the place of its part.
func TestUnpackFirst(t *testing.T) {
	short := withData(api.NS, 1, "\x40")
	wantFault(t, "data that aren't all there, and wrong", short[:24]+"\x02\x40", 12, api.ErrEnd)
	wantFault(t, "data that aren't there", short[:25], 12, api.ErrEnd)
	wantFault(t, "a wrong owner, and no more", head(0, 1)+"\x40", 12, api.ErrPointer)
	wantFault(t, "a wrong question ahead of a wrong record", head(1, 1)+"\x40"+zeros(4)+short[12:], 12, api.ErrPointer)
	wantFault(t, "a wrong record behind a question", head(1, 1)+"\x01a\x00"+zeros(4)+short[12:], 19, api.ErrPointer)
	wantFault(t, "a wrong record, and something behind it", short+"\x00", 12, api.ErrPointer)
	right := withData(api.A, 1, zeros(4))[12:]
	for i, counts := range [][]byte{{0, 2}, {0, 1, 1}, {0, 1, 0, 1}, {0, 0, 2}, {0, 0, 1, 1}, {0, 0, 0, 2}} {
		wantFault(t, "a wrong record behind a right one "+strings.Repeat("I", i), head(counts...)+right+short[12:], 29, api.ErrPointer)
	}
}

// What comes out is new memory.
func TestUnpackNew(t *testing.T) {
	b, _ := wire.Pack(whole())
	m, _, e := wire.Unpack(b)
	clear(b)
	if !same(m, whole()) || e != api.OK {
		t.Errorf("P2 Unpack = %v, %d; wanted %v", m, e, whole())
	}
}

// As many records as have room, each owner by as many pointers as can be.
func TestUnpackManyPointers(t *testing.T) {
	stash := []byte{0}
	for place := 24; place+1 <= 16383; place += 2 {
		to := max(place-2, 23)
		stash = append(stash, byte(pointer|to>>8), byte(to))
	}
	last := 23 + len(stash) - 2
	opt := api.Record{Owner: api.Root, Type: api.OPT, Data: string(stash)}
	b, _ := wire.Pack(answers(opt))
	count := 1
	for ; len(b)+12 <= api.MaxMessage; count++ {
		b = append(b, byte(pointer|last>>8), byte(last))
		b = append(b, dump("ff00 0001 00000000 0000")...)
	}
	b[6], b[7] = byte(count>>8), byte(count)
	m, at, e := wire.Unpack(b)
	if len(m.Answers) != count || m.Answers[count-1].Owner != api.Root || at != 0 || e != api.OK {
		t.Errorf("P3.3 %d owners by many pointers: Unpack = %d records, %d, %d", count, len(m.Answers), at, e)
	}
}

const pointer = 192
