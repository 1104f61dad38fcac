package data

import (
	"strconv"

	"gazetteer/api"
	"gazetteer/name"
)

// field: one kind of field.
type field interface {
	// size: how many bytes, from the beginning of d on, the field has. It
	// throws if they aren't of the field's form.
	size(d string) int
	// show: the words that tell the field's bytes.
	show(d string) []string
	// read: the bytes that the next words tell. It throws if they aren't right.
	read(l *line) string
}

// fieldsOf: the fields of a type's data, in their order; it throws ErrType.
func fieldsOf(t int) []field {
	n8, n16, n32 := number{1}, number{2}, number{4}
	switch t {
	case api.A:
		return []field{ip4{}}
	case api.NS, api.CNAME, api.PTR, api.DNAME:
		return []field{domain{}}
	case api.SOA:
		return []field{domain{}, domain{}, n32, n32, n32, n32, n32}
	case api.HINFO:
		return []field{text{}, text{}}
	case api.MX:
		return []field{n16, domain{}}
	case api.TXT:
		return []field{texts{}}
	case api.AAAA:
		return []field{ip6{}}
	case api.SRV:
		return []field{n16, n16, n16, domain{}}
	case api.NAPTR:
		return []field{n16, n16, text{}, text{}, text{}, domain{}}
	case api.DS:
		return []field{n16, n8, n8, hex{}}
	case api.RRSIG:
		return []field{oneType{}, n8, n8, n32, n32, n32, n16, domain{}, base64{}}
	case api.NSEC:
		return []field{domain{}, typeSet{}}
	case api.DNSKEY:
		return []field{n16, n8, n8, base64{}}
	case api.NSEC3:
		return []field{n8, n8, n16, salt{}, hash{}, typeSet{}}
	case api.NSEC3PARAM:
		return []field{n8, n8, n16, salt{}}
	case api.CAA:
		return []field{n8, text{}, tail{}}
	}
	if !isDataType(t) {
		throw(api.ErrType, 0)
	}
	return []field{unknown{}}
}

// need throws if d hasn't so many bytes.
func need(d string, size int) int {
	if len(d) < size {
		throw(api.ErrData, 0)
	}
	return size
}

// domain: a name.
type domain struct{}

func (domain) size(d string) int {
	end := need(d, 1)
	for d[end-1] != 0 {
		end = need(d, end+int(d[end-1])+1)
	}
	// Lengths that no label has were passed over: they are told here.
	if name.Check(d[:end]) != api.OK {
		throw(api.ErrData, 0)
	}
	return end
}

func (domain) show(d string) []string { return []string{name.Show(d)} }

func (domain) read(l *line) string {
	n, _, e := name.Read(l.plain(), l.origin)
	if e != api.OK {
		throw(e, l.next-1)
	}
	return n
}

// unknown: all data of a type whose fields aren't known.
type unknown struct{}

func (unknown) size(d string) int { return len(d) }

func (unknown) show(d string) []string {
	words := []string{rawMark, strconv.Itoa(len(d))}
	if d != "" {
		words = append(words, toDigits(d, digits16))
	}
	return words
}

// read: words of such a type are read by their mark; these have none.
func (unknown) read(l *line) string {
	throw(api.ErrText, 0)
	return ""
}
