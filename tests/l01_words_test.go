package tests

import (
	"math"
	"slices"
	"strings"
	"testing"

	"loop.example/g00971/impl"
)

func allBytes() string {
	b := make([]byte, 256)
	for i := range b {
		b[i] = byte(i)
	}
	return string(b)
}

func TestHexWritesTwoFiguresForEachByte(t *testing.T) {
	cases := []struct{ text, want string }{
		{"", ""},
		{"az", "617a"},
		{"\x00", "00"},
		{"\x0f", "0f"},
		{"\xf0", "f0"},
		{"\xff\xab", "ffab"},
		{"\u00e9", "c3a9"},
		{"a\nb c", "610a622063"},
	}
	for _, c := range cases {
		if got, ok := impl.Hex(c.text); !ok || got != c.want {
			t.Errorf("Hex(%q) = %q, %v; want %q, true", c.text, got, ok, c.want)
		}
	}
}

func TestHexIsReadBack(t *testing.T) {
	texts := []string{"", "a", "append", allBytes(), strings.Repeat("\x00", 77), strings.Repeat("\xfe", impl.MaxText-1)}
	for i := range 256 {
		texts = append(texts, string([]byte{byte(i)}), string([]byte{byte(i), byte(255 - i)}))
	}
	for _, text := range texts {
		h, ok := impl.Hex(text)
		if !ok || len(h) != 2*len(text) {
			t.Errorf("Hex of %d bytes: %d figures, %v", len(text), len(h), ok)
		}
		if u, ok := impl.Unhex(h); !ok || u != text {
			t.Errorf("Unhex(Hex(%.40q)) = %.40q, %v", text, u, ok)
		}
	}
}

func TestHexLimit(t *testing.T) {
	full := strings.Repeat("\xa5", impl.MaxText)
	h, ok := impl.Hex(full)
	if !ok || h != strings.Repeat("a5", impl.MaxText) {
		t.Error("Hex refuses, or writes wrongly, a text of MaxText bytes")
	}
	if u, ok := impl.Unhex(h); !ok || u != full {
		t.Error("Unhex does not read back a text of MaxText bytes")
	}
	for _, more := range []int{1, 2, impl.MaxText} {
		if got, ok := impl.Hex(strings.Repeat("a", impl.MaxText+more)); ok || got != "" {
			t.Errorf("Hex of MaxText and %d bytes: %d figures, %v; want none, false", more, len(got), ok)
		}
		if got, ok := impl.Unhex(strings.Repeat("61", impl.MaxText+more)); ok || got != "" {
			t.Errorf("Unhex of MaxText and %d bytes: %d bytes, %v; want none, false", more, len(got), ok)
		}
	}
}

func TestUnhexReadsJustWhatHexWrites(t *testing.T) {
	const figures = "0123456789abcdef"
	for i := range 256 {
		for j := range 256 {
			text := string([]byte{byte(i), byte(j)})
			high, low := strings.IndexByte(figures, byte(i)), strings.IndexByte(figures, byte(j))
			right, want := high >= 0 && low >= 0, ""
			if right {
				want = string([]byte{byte(16*high + low)})
			}
			if got, ok := impl.Unhex(text); ok != right || got != want {
				t.Errorf("Unhex(%q) = %q, %v; want %q, %v", text, got, ok, want, right)
			}
		}
	}
}

func TestUnhexRefuses(t *testing.T) {
	texts := []string{
		"6", "617", "617a6", "61 7a", " 617a", "617a ", "617A", "0x61", "-1", "616g", "g161", "61\n6",
		"\u0661\u0661", "617a\x00\x00", strings.Repeat("6", 2*impl.MaxText-1), strings.Repeat("6", 2*impl.MaxText+1),
		strings.Repeat("61", impl.MaxText-1) + "6G",
	}
	for _, text := range texts {
		if got, ok := impl.Unhex(text); ok || got != "" {
			t.Errorf("Unhex(%.40q) = %.40q, %v; want nothing, false", text, got, ok)
		}
	}
}

func TestDecimalOfEveryKindOfInt(t *testing.T) {
	cases := []struct {
		n    int
		want string
	}{
		{0, "0"}, {1, "1"}, {9, "9"}, {10, "10"}, {100, "100"}, {907, "907"}, {-1, "-1"}, {-5, "-5"}, {-10, "-10"},
		{impl.MaxNumber, "1000000000"}, {impl.MaxNumber + 1, "1000000001"}, {-impl.MaxNumber, "-1000000000"},
		{math.MaxInt32 + 1, "2147483648"},
		{math.MaxInt, "9223372036854775807"}, {math.MinInt, "-9223372036854775808"}, {math.MinInt + 1, "-9223372036854775807"},
	}
	for _, c := range cases {
		if got := impl.Decimal(c.n); got != c.want {
			t.Errorf("Decimal(%d) = %q; want %q", c.n, got, c.want)
		}
	}
}

func TestDecimalIsReadBackWithinItsLimits(t *testing.T) {
	numbers := []int{impl.MaxNumber, impl.MaxNumber - 1, impl.MaxNumber - 10, 123456789, 987654321}
	for n := range 2000 {
		numbers = append(numbers, n)
	}
	for n := 1; n <= impl.MaxNumber; n *= 10 {
		numbers = append(numbers, n-1, n)
	}
	for _, n := range numbers {
		if got, ok := impl.ReadDecimal(impl.Decimal(n)); !ok || got != n {
			t.Errorf("ReadDecimal(Decimal(%d)) = %d, %v", n, got, ok)
		}
	}
	for _, n := range []int{-1, -9, -impl.MaxNumber, impl.MaxNumber + 1, math.MaxInt, math.MinInt} {
		if got, ok := impl.ReadDecimal(impl.Decimal(n)); ok || got != 0 {
			t.Errorf("ReadDecimal(Decimal(%d)) = %d, %v; want 0, false", n, got, ok)
		}
	}
}

func TestReadDecimalRefuses(t *testing.T) {
	texts := []string{
		"", "-", "+", "-0", "+0", "+1", "--1", "-1", "00", "01", "007", "0000000000", "01000000000", " ", " 1", "1 ", "1 2", "1\n",
		"1000000001", "1000000010", "2000000000", "9999999999", "10000000000",
		"9223372036854775807", "9223372036854775808", "18446744073709551616", "18446744073709551617", "4294967297",
		"a", "1a", "a1", "0x1", "0b1", "0o7", "1_000", "1,000", "1.0", "1e3", "\x00", "1\x00", "\xff", "\u0661", "\uff11",
		strings.Repeat("0", 100), strings.Repeat("1", 100), strings.Repeat("9", impl.MaxText),
	}
	for _, text := range texts {
		if got, ok := impl.ReadDecimal(text); ok || got != 0 {
			t.Errorf("ReadDecimal(%.40q) = %d, %v; want 0, false", text, got, ok)
		}
	}
}

// shortTexts lists every text of at most three of these bytes.
func shortTexts(bytes string) []string {
	texts := []string{""}
	begin := 0
	for range 3 {
		end := len(texts)
		for _, text := range texts[begin:end] {
			for i := range len(bytes) {
				texts = append(texts, text+bytes[i:i+1])
			}
		}
		begin = end
	}
	return texts
}

func TestReadDecimalReadsJustWhatDecimalWrites(t *testing.T) {
	written := map[string]int{}
	for n := range 1000 {
		written[impl.Decimal(n)] = n
	}
	for _, text := range shortTexts("0123456789-+_ .xeE/:\x00\xff") {
		want, right := written[text]
		if got, ok := impl.ReadDecimal(text); ok != right || got != want {
			t.Errorf("ReadDecimal(%q) = %d, %v; want %d, %v", text, got, ok, want, right)
		}
	}
}

func TestPartsOfALine(t *testing.T) {
	cases := []struct {
		line string
		want []string
	}{
		{"", nil},
		{" ", nil},
		{"     ", nil},
		{"a", []string{"a"}},
		{"sync", []string{"sync"}},
		{" sync  1 ", []string{"sync", "1"}},
		{"append 617a", []string{"append", "617a"}},
		{"append 617a   ", []string{"append", "617a"}},
		{"   append 617a", []string{"append", "617a"}},
		{"a a a", []string{"a", "a", "a"}},
		{"!~ ~!", []string{"!~", "~!"}},
		{"#a, b-c", []string{"#a,", "b-c"}},
		{"1 2 3 4 5 6 7 8 9 10 11 12", []string{"1", "2", "3", "4", "5", "6", "7", "8", "9", "10", "11", "12"}},
	}
	for _, c := range cases {
		if got, ok := impl.PartsOf(c.line); !ok || !slices.Equal(got, c.want) {
			t.Errorf("PartsOf(%q) = %q, %v; want %q, true", c.line, got, ok, c.want)
		}
	}
}

func TestPartsOfLimits(t *testing.T) {
	word := strings.Repeat("w", impl.MaxWords)
	blanks := strings.Repeat(" ", impl.MaxWords)
	many := strings.TrimSpace(strings.Repeat("x ", impl.MaxParts))
	cases := []struct {
		name, line string
		parts      int
		ok         bool
	}{
		{"MaxWords bytes", word, 1, true},
		{"one byte more", word + "w", 0, false},
		{"MaxWords blanks", blanks, 0, true},
		{"one blank more", blanks + " ", 0, false},
		{"one blank behind MaxWords bytes", word + " ", 0, false},
		{"MaxParts parts", many, impl.MaxParts, true},
		{"MaxParts parts among blanks", "  " + many + "  ", impl.MaxParts, true},
		{"one part more", many + " x", 0, false},
		{"one part more, and a blank", many + " x ", 0, false},
		{"many parts more", strings.Repeat("x ", impl.MaxWords/2), 0, false},
	}
	for _, c := range cases {
		if got, ok := impl.PartsOf(c.line); ok != c.ok || len(got) != c.parts {
			t.Errorf("%s: %d parts, %v; want %d, %v", c.name, len(got), ok, c.parts, c.ok)
		}
	}
}

func TestPartsOfEachByte(t *testing.T) {
	for i := range 256 {
		b := string([]byte{byte(i)})
		right := i >= 32 && i <= 126
		for _, line := range []string{b, b + " a", "a " + b, "a" + b + "c", "  " + b + "  ", strings.Repeat("a", impl.MaxWords-1) + b} {
			var want []string
			if right {
				want = strings.Fields(line)
			}
			if got, ok := impl.PartsOf(line); ok != right || !slices.Equal(got, want) {
				t.Errorf("PartsOf(%.40q) = %.40q, %v; want %.40q, %v", line, got, ok, want, right)
			}
		}
	}
}

func TestPartsOfShortLines(t *testing.T) {
	for _, line := range shortTexts("ab ~") {
		if got, ok := impl.PartsOf(line); !ok || !slices.Equal(got, strings.Fields(line)) {
			t.Errorf("PartsOf(%q) = %q, %v", line, got, ok)
		}
	}
}

func TestPartsOfAnswersNewMemory(t *testing.T) {
	const line = "a b c"
	first, _ := impl.PartsOf(line)
	second, _ := impl.PartsOf(line)
	first[0] = "x"
	_ = append(first[:1], "y")
	if third, _ := impl.PartsOf(line); !slices.Equal(second, []string{"a", "b", "c"}) || !slices.Equal(third, second) {
		t.Errorf("a change of one answer is seen in others: %q, %q", second, third)
	}
}

func TestBroughtKnownAnswers(t *testing.T) {
	cases := []struct{ n, least, most, want int }{
		{3, 1, 5, 3}, {1, 1, 5, 1}, {5, 1, 5, 5}, {0, 1, 5, 1}, {6, 1, 5, 5}, {9, 1, 5, 5},
		{-7, -5, -1, -5}, {-3, -5, -1, -3}, {0, -5, -1, -1},
		{2, 4, 4, 4}, {4, 4, 4, 4}, {9, 4, 4, 4},
		{0, 5, 1, 5}, {1, 5, 1, 5}, {3, 5, 1, 5}, {5, 5, 1, 5}, {9, 5, 1, 5}, {7, 5, 4, 5},
		{math.MinInt, 0, 10, 0}, {math.MaxInt, 0, 10, 10},
		{math.MinInt, math.MinInt, math.MaxInt, math.MinInt}, {math.MaxInt, math.MinInt, math.MaxInt, math.MaxInt},
		{0, math.MaxInt, math.MinInt, math.MaxInt},
	}
	for _, c := range cases {
		if got := impl.Brought(c.n, c.least, c.most); got != c.want {
			t.Errorf("Brought(%d, %d, %d) = %d; want %d", c.n, c.least, c.most, got, c.want)
		}
	}
}

func TestBroughtStaysBetween(t *testing.T) {
	edges := []int{math.MinInt, math.MinInt + 1, -4, -3, -2, -1, 0, 1, 2, 3, 4, math.MaxInt - 1, math.MaxInt}
	for _, least := range edges {
		for _, most := range edges {
			for _, n := range edges {
				checkBrought(t, n, least, most)
			}
		}
	}
}

func checkBrought(t *testing.T, n int, least int, most int) {
	t.Helper()
	got := impl.Brought(n, least, most)
	if most < least {
		if got != least {
			t.Errorf("Brought(%d, %d, %d) = %d; want %d", n, least, most, got, least)
		}
		return
	}
	inside := least <= n && n <= most
	if got < least || got > most || inside && got != n || n < least && got != least || n > most && got != most {
		t.Errorf("Brought(%d, %d, %d) = %d", n, least, most, got)
	}
}
