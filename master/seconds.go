package master

import (
	"strings"

	"gazetteer/api"
	"gazetteer/spell"
)

// unitLetters are the letters of units, unitSizes how many seconds they are.
const unitLetters = "wdhms"

var unitSizes = [...]int{604800, 86400, 3600, 60, 1}

// maxDigits: how many digits a number of a file has at most.
const maxDigits = 10

// Seconds: a time that is written.
func Seconds(text string) (int, bool) {
	if seconds, ok := spell.Number(text, maxDigits, 31); ok {
		return seconds, true
	}
	if text == "" {
		return 0, false
	}
	total := 0
	for rest := spell.Small(text); rest != ""; {
		end := strings.IndexAny(rest, unitLetters)
		if end < 0 {
			return 0, false
		}
		count, ok := spell.Number(rest[:end], maxDigits, 64)
		total += count * unitSizes[strings.IndexByte(unitLetters, rest[end])]
		// Told at once: what so many groups add up to would have no room.
		if !ok || total > api.MaxTTL {
			return 0, false
		}
		rest = rest[end+1:]
	}
	return total, true
}
