package data_test

import (
	"testing"

	"gazetteer/api"
	"gazetteer/data"
)

func TestSerial(t *testing.T) {
	for _, c := range []struct {
		bytes string
		want  int
	}{
		{"\x00\x00\x00\x00", 0},
		{"\x00\x00\x00\x07", 7},
		{"\x01\x02\x03\x04", 16909060},
		{"\xff\xff\xff\xff", 4294967295},
	} {
		rest := "\x80\x81\x82\x83\x84\x85\x86\x87\x88\x89\x8a\x8b\x8c\x8d\x8e\x8f"
		for _, names := range []string{"\x00\x00", "\x02ns\x02ex\x00\x01h\x00"} {
			soa := api.Record{Owner: "\x02ex\x00", Type: api.SOA, Class: api.IN, TTL: 5, Data: names + c.bytes + rest}
			if got := data.Serial(soa); got != c.want {
				t.Errorf("Serial of %q: %d; wanted %d", soa.Data, got, c.want)
			}
			other := soa
			other.Data = names + "\x10\x20\x30\x40" + rest
			if got := data.WithSerial(other, c.want); got != soa {
				t.Errorf("WithSerial of %q, %d: %q", other.Data, c.want, got.Data)
			}
		}
	}
}

func TestIsNewer(t *testing.T) {
	for _, c := range []struct {
		a, b int
		want bool
	}{
		{0, 0, false},
		{1, 0, true},
		{0, 1, false},
		{2147483647, 0, true},
		{2147483648, 0, false},
		{2147483649, 0, false},
		{0, 2147483648, false},
		{0, 2147483649, true},
		{4294967295, 0, false},
		{0, 4294967295, true},
		{4294967295, 4294967294, true},
		{4294967295, 4294967295, false},
		{2147483646, 4294967295, true},
		{2147483647, 4294967295, false},
		{4294967295, 2147483647, false},
		{4294967295, 2147483648, true},
	} {
		if got := data.IsNewer(c.a, c.b); got != c.want {
			t.Errorf("IsNewer(%d, %d) = %v", c.a, c.b, got)
		}
	}
}
