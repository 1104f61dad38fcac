package name

import (
	"gazetteer/api"
	"gazetteer/spell"
)

// Read: the name that a text tells.
func Read(text, origin string) (string, int, api.Errno) {
	if !isName(origin) {
		return "", 0, api.ErrName
	}
	switch text {
	case "":
		return "", 0, api.ErrText
	case "@":
		return origin, 0, api.OK
	case ".":
		return api.Root, 0, api.OK
	}
	labels, whole, place, e := readLabels(text)
	if e != api.OK {
		return "", place, e
	}
	rest := origin
	if whole {
		rest = api.Root
	}
	if len(labels)+len(rest) > api.MaxName {
		return "", 0, api.ErrLong
	}
	return labels + rest, 0, api.OK
}

// readLabels: the labels of a text in their wire form, without an end, and
// whether a "." behind the last one makes them a whole name; or the first
// fault and its place.
func readLabels(text string) (string, bool, int, api.Errno) {
	var wire []byte
	at := 0
	readLabel := func() (int, api.Errno) {
		begin, sizeAt := at, len(wire)
		wire = append(wire, 0)
		for at < len(text) && text[at] != '.' {
			b, width := spell.Byte(text[at:])
			if width == 0 {
				return at, api.ErrText
			}
			if wire[sizeAt] == api.MaxLabel {
				return begin, api.ErrLabel
			}
			wire = append(wire, b)
			wire[sizeAt]++
			at += width
		}
		if at == begin {
			return at, api.ErrText
		}
		return 0, api.OK
	}
	whole := false
	for at < len(text) {
		if place, e := readLabel(); e != api.OK {
			return "", false, place, e
		}
		whole = at < len(text)
		if whole {
			at++
		}
	}
	return string(wire), whole, 0, api.OK
}

// Show: how a name is written.
func Show(n string) string {
	if !isName(n) {
		return ""
	}
	if n == api.Root {
		return "."
	}
	var text []byte
	for _, label := range walk(n) {
		for i := range len(label) {
			text = spell.Append(text, label[i], '!', marked)
		}
		text = append(text, '.')
	}
	return string(text)
}

// marked are the bytes that mean something in a written name or around it.
const marked = `.\"();@$`
