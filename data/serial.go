package data

import (
	"gazetteer/api"
	"gazetteer/spell"
)

// The five numbers of four bytes are the end of a SOA's data; the serial is
// the first of them.
const (
	numbersSize = 20
	serialSize  = 4
)

// Serial: of a right SOA.
func Serial(soa api.Record) int {
	at := len(soa.Data) - numbersSize
	return spell.Value(soa.Data[at : at+serialSize])
}

// WithSerial: a right SOA with another serial.
func WithSerial(soa api.Record, serial int) api.Record {
	at := len(soa.Data) - numbersSize
	soa.Data = soa.Data[:at] + spell.Bytes(serial, serialSize) + soa.Data[at+serialSize:]
	return soa
}

// IsNewer: is a serial newer than another? They go round, so that it is the
// way from one to the other that tells, not which is greater.
func IsNewer(a, b int) bool {
	ahead := uint32(a - b)
	return 1 <= ahead && ahead < 1<<31
}
