package master_test

import (
	"strconv"
	"strings"
	"testing"

	"gazetteer/api"
	"gazetteer/master"
)

// P4.1: digits alone, or groups of digits and a letter.
func TestSeconds(t *testing.T) {
	for _, c := range []struct {
		text string
		want int
	}{
		{"0", 0},
		{"90", 90},
		{"0000000090", 90},
		{"2147483647", api.MaxTTL},
		{"1s", 1},
		{"1m", 60},
		{"1h", 3600},
		{"1d", 86400},
		{"1w", 604800},
		{"1S", 1},
		{"1M", 60},
		{"1H", 3600},
		{"1D", 86400},
		{"1W", 604800},
		{"1h30m", 5400},
		{"30m1h", 5400},
		{"1s1s", 2},
		{"1w2D3h4M5s", 604800 + 2*86400 + 3*3600 + 4*60 + 5},
		{"5s4m3h2d1w", 604800 + 2*86400 + 3*3600 + 4*60 + 5},
		{"0w", 0},
		{"0s0s0s", 0},
		{"0000000001h", 3600},
		{"2147483647s", api.MaxTTL},
		{"3550w5d3h14m7s", api.MaxTTL},
		{strings.Repeat("1s", 1000), 1000},
	} {
		if got, ok := master.Seconds(c.text); got != c.want || !ok {
			t.Errorf("P4.1 Seconds(%q) = %d, %v; wanted %d", c.text, got, ok, c.want)
		}
	}
}

func TestSecondsWrong(t *testing.T) {
	for _, text := range []string{
		"", "h", "hh", "1h30", "1y", "1hh", "h1", "1h-1m", "-1", "+1", "+1h", "1.5h", "1h 1m", " 1", "1 ", "1h ", "1_0", "0x1",
		"00000000001",              // eleven digits
		"00000000001h",             // and in a group
		"1h00000000001m",           // and in a later one
		"2147483648", "9999999999", // more than the most
		"2147483648s", "9999999999w", // and of groups
		"3550w5d3h14m8s", "2147483647s1s", // and of what they add up to
		"1\u017f", "1\u212a", "\u0661", "1\xe8", "1h\x00", "\x001h", // letters and digits elsewhere, other bytes
		wrapsToNought(),
	} {
		if got, ok := master.Seconds(text); got != 0 || ok {
			t.Errorf("P4.1 Seconds(%q) = %d, %v; wanted false", text, got, ok)
		}
	}
}

// wrapsToNought: groups that add up to 2^64 seconds, which is nought to whoever
// adds without care.
func wrapsToNought() string {
	const most = 9999999999 * 604800
	left := ^uint64(0)
	var text strings.Builder
	for left >= most {
		text.WriteString("9999999999w")
		left -= most
	}
	text.WriteString(strconv.FormatUint(left/604800, 10) + "w")
	text.WriteString(strconv.FormatUint(left%604800, 10) + "s1s")
	return text.String()
}
