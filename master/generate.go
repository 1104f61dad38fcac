package master

import (
	"strconv"
	"strings"

	"gazetteer/api"
	"gazetteer/spell"
)

// generate reads a record for each number of a row.
func (r *reader) generate(words []api.Word) error {
	// The row, an owner, a type and something of the data.
	if len(words) < 4 || words[0].Quoted {
		return wrong(api.ErrText)
	}
	w, ok := readRow(words[0].Text)
	if !ok {
		return wrong(api.ErrText)
	}
	for n := w.first; n <= w.last; n += w.step {
		filled, ok := fillWords(words[1:], n)
		if !ok {
			return wrong(api.ErrText)
		}
		if err := r.owned(filled); err != nil {
			return err
		}
	}
	return nil
}

// row: the numbers from the first one on, up to the last.
type row struct {
	first, last, step int
}

func readRow(text string) (row, bool) {
	ends, by, stepped := strings.Cut(text, "/")
	from, to, _ := strings.Cut(ends, "-")
	first, ok1 := spell.Number(from, maxDigits, 31)
	last, ok2 := spell.Number(to, maxDigits, 31)
	step, ok3 := 1, true
	if stepped {
		step, ok3 = spell.Number(by, maxDigits, 31)
	}
	return row{first, last, step}, ok1 && ok2 && ok3 && first <= last && step >= 1
}

// fillWords: the words for one number of the row.
func fillWords(words []api.Word, n int) ([]api.Word, bool) {
	filled := make([]api.Word, 0, len(words))
	for _, w := range words {
		text, ok := fill(w.Text, n)
		if !ok {
			return nil, false
		}
		filled = append(filled, api.Word{Text: text, Quoted: w.Quoted})
	}
	return filled, true
}

// fill: the text with the number in the place of each "$".
func fill(text string, n int) (string, bool) {
	var filled []byte
	for at := 0; at < len(text); {
		switch {
		case text[at] == '\\':
			end := min(at+2, len(text))
			filled = append(filled, text[at:end]...)
			at = end
		case strings.HasPrefix(text[at:], "${"):
			change, rest, closed := strings.Cut(text[at+2:], "}")
			digits, ok := changed(n, change)
			if !closed || !ok {
				return "", false
			}
			filled = append(filled, digits...)
			at = len(text) - len(rest)
		case text[at] == '$':
			filled = strconv.AppendInt(filled, int64(n), 10)
			at++
		default:
			filled = append(filled, text[at])
			at++
		}
	}
	return string(filled), true
}

// changed: the digits of a number to which another one is added, with noughts
// up to a width, as "o" or "o,w" says it.
func changed(n int, change string) (string, bool) {
	offset, width, wide := strings.Cut(change, ",")
	size, minus := strings.CutPrefix(offset, "-")
	o, ok := spell.Number(size, maxDigits, 64)
	if minus {
		o = -o
	}
	if !ok || n+o < 0 {
		return "", false
	}
	digits := strconv.Itoa(n + o)
	if !wide {
		return digits, true
	}
	w, ok := spell.Number(width, 2, 8)
	if !ok {
		return "", false
	}
	return strings.Repeat("0", max(0, w-len(digits))) + digits, true
}
