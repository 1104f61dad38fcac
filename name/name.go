// Package name: names in their wire form.
package name

import (
	"iter"
	"strings"

	"gazetteer/api"
)

// Check: is n a name?
func Check(n string) api.Errno {
	if len(n) > api.MaxName {
		return api.ErrName
	}
	end := 0
	for at, label := range walk(n) {
		end = at + 1 + len(label)
	}
	if n[end:] != api.Root {
		return api.ErrName
	}
	return api.OK
}

// walk tells each label and the place of its length. It ends where no whole
// label follows, so that Check can lean on it ahead of knowing that n is a name.
func walk(n string) iter.Seq2[int, string] {
	return func(yield func(int, string) bool) {
		for at := 0; at < len(n); {
			size := int(n[at])
			end := at + 1 + size
			if size == 0 || size > api.MaxLabel || end > len(n) {
				return
			}
			if !yield(at, n[at+1:end]) {
				return
			}
			at = end
		}
	}
}

func isName(n string) bool { return Check(n) == api.OK }

// Count: how many labels.
func Count(n string) int {
	if !isName(n) {
		return -1
	}
	count := 0
	for range walk(n) {
		count++
	}
	return count
}

// Labels: the labels.
func Labels(n string) []string {
	if !isName(n) {
		return nil
	}
	var list []string
	for _, label := range walk(n) {
		list = append(list, label)
	}
	return list
}

// Join: the name of labels.
func Join(list []string) (string, api.Errno) {
	size := len(api.Root)
	for _, label := range list {
		if len(label) == 0 || len(label) > api.MaxLabel {
			return "", api.ErrLabel
		}
		size += 1 + len(label)
	}
	if size > api.MaxName {
		return "", api.ErrLong
	}
	wire := make([]byte, 0, size)
	for _, label := range list {
		wire = append(wire, byte(len(label)))
		wire = append(wire, label...)
	}
	return string(wire) + api.Root, api.OK
}

// Parent: without the first label.
func Parent(n string) string { return Tail(n, Count(n)-1) }

// Tail: the last k labels.
func Tail(n string, k int) string {
	count := Count(n)
	if k < 0 || k > count {
		return ""
	}
	skip := count - k
	for at := range walk(n) {
		if skip == 0 {
			return n[at:]
		}
		skip--
	}
	return api.Root
}

// Graft: from's place is taken by to.
func Graft(n, from, to string) (string, api.Errno) {
	if !isName(n) || !isName(from) || !isName(to) {
		return "", api.ErrName
	}
	if !Within(n, from) {
		return "", api.ErrOutside
	}
	ahead := n[:len(n)-len(from)]
	if len(ahead)+len(to) > api.MaxName {
		return "", api.ErrLong
	}
	return ahead + to, api.OK
}

// starLabel is the star in its wire form, without what follows it.
const starLabel = "\x01*"

// Star: the star's name below n.
func Star(n string) string {
	if !isName(n) || len(starLabel)+len(n) > api.MaxName {
		return ""
	}
	return starLabel + n
}

// IsStar: is the first label the star?
func IsStar(n string) bool {
	return isName(n) && strings.HasPrefix(n, starLabel)
}
