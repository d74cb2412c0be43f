package tests

import (
	"hash/crc32"
	"math"
	"strings"
	"testing"

	"loop.example/g00971/impl"
)

// sumStarts are numbers to go on from: within 32 bits, at their ends, and past them.
func sumStarts() []int {
	return []int{
		0, 1, 2, 5, 127, 128, 255, 256, 65535, 2197175160, 3808858755, 2147483647, 2147483648, 4294967294, 4294967295,
		4294967296, 4294967297, 1<<40 | 5, -1, -2, -5, -4294967296, -4294967297, math.MaxInt, math.MinInt, math.MinInt + 7,
	}
}

// sumTexts are texts whose sums are told in more than one way.
func sumTexts() []string {
	return []string{
		"", "a", "1", "\x00", "\x01", "\x80", "\xff", "ab", "1234", "56789", "123456789", "\x00\x00\x00\x00", "\xff\xff\xff\xff",
		"\u00e9\u4e2d", "\xff\xfe\x80 not a rune", "append 617a\n", strings.Repeat("\x00", 32), allBytes(),
		strings.Repeat("row ", 300), allBytes() + "\x00" + allBytes(),
	}
}

func lowest32(n int) int { return int(uint32(n)) }

// slowSumByte divides where the program shifts.
func slowSumByte(s int, b int) int {
	x := lowest32(s) ^ int(uint8(b))
	for range 8 {
		if x%2 == 1 {
			x = x/2 ^ 2197175160
		} else {
			x = x / 2
		}
	}
	return x
}

func TestSumsThatAreKnown(t *testing.T) {
	ascending, descending := allBytes()[:32], ""
	for i := range 32 {
		descending += string([]byte{byte(31 - i)})
	}
	cases := []struct {
		text string
		want int
	}{
		{"", 0},
		{"a", 0xc1d04330},
		{"123456789", 0xe3069283},
		{strings.Repeat("\x00", 32), 0x8a9136aa},
		{strings.Repeat("\xff", 32), 0x62a8ab43},
		{ascending, 0x46dd794e},
		{descending, 0x113fdb5c},
		{"The quick brown fox jumps over the lazy dog", 0x22620404},
	}
	for _, c := range cases {
		if got := impl.SumOf(c.text); got != c.want {
			t.Errorf("SumOf(%.40q) = %d; want %d", c.text, got, c.want)
		}
		if got := impl.TableSum(0, c.text); got != c.want {
			t.Errorf("TableSum(0, %.40q) = %d; want %d", c.text, got, c.want)
		}
	}
}

func TestSumsAgreeWithThoseOfTheStandardLibrary(t *testing.T) {
	table := crc32.MakeTable(crc32.Castagnoli)
	texts := append(sumTexts(), strings.Repeat("long", impl.MaxText), strings.Repeat("\x00", 10001))
	for _, text := range texts {
		want := int(crc32.Checksum([]byte(text), table))
		if got := impl.SumOf(text); got != want {
			t.Errorf("SumOf(%.40q) = %d; want %d", text, got, want)
		}
		for _, s := range sumStarts() {
			want := int(crc32.Update(uint32(s), table, []byte(text)))
			if got := impl.SumMore(s, text); got != want {
				t.Errorf("SumMore(%d, %.40q) = %d; want %d", s, text, got, want)
			}
			if got := impl.TableSum(s, text); got != want {
				t.Errorf("TableSum(%d, %.40q) = %d; want %d", s, text, got, want)
			}
		}
	}
	for i := range 256 {
		if got := impl.TableAt(i); got != int(table[i]) {
			t.Errorf("TableAt(%d) = %d; want %d", i, got, table[i])
		}
	}
}

func TestSumByteKnownAnswers(t *testing.T) {
	cases := []struct{ s, b, want int }{
		{0, 0, 0},
		{0, 128, 2197175160},
		{128, 0, 2197175160},
		{128, 128, 0},
		{256, 0, 1},
		{0, 1, 0xf26b8303},
		{0, 255, 0xad7d5351},
		{1 << 31, 0, 1 << 23},
		{0xff00, 0, 0xff},
		{0xffffff00, 0, 0x00ffffff},
	}
	for _, c := range cases {
		if got := impl.SumByte(c.s, c.b); got != c.want {
			t.Errorf("SumByte(%d, %d) = %d; want %d", c.s, c.b, got, c.want)
		}
	}
}

func TestSumByteOfAllNumbers(t *testing.T) {
	bytes := []int{256, 257, 383, 384, 511, 512, -1, -128, -129, -256, 1 << 32, 1<<32 | 7, math.MaxInt, math.MinInt, math.MinInt + 3}
	for b := range 256 {
		bytes = append(bytes, b)
	}
	for _, s := range sumStarts() {
		for _, b := range bytes {
			got := impl.SumByte(s, b)
			if want := slowSumByte(s, b); got != want {
				t.Errorf("SumByte(%d, %d) = %d; want %d", s, b, got, want)
			}
			if got != impl.SumByte(lowest32(s), b&255) {
				t.Errorf("SumByte(%d, %d) hangs on bits that do not count", s, b)
			}
		}
	}
}

func TestTableAtHasNothingPastItsEnds(t *testing.T) {
	for i := range 256 {
		if got, want := impl.TableAt(i), impl.SumByte(0, i); got != want {
			t.Errorf("TableAt(%d) = %d; want %d", i, got, want)
		}
	}
	for _, i := range []int{-1, -2, -128, -255, -256, 256, 257, 384, 511, 1 << 32, 1<<32 | 1, math.MaxInt, math.MinInt, math.MinInt + 1} {
		if got := impl.TableAt(i); got != 0 {
			t.Errorf("TableAt(%d) = %d; want 0", i, got)
		}
	}
}

func TestSumOfTwoTexts(t *testing.T) {
	for _, first := range sumTexts() {
		for _, second := range sumTexts() {
			a, b := impl.SumOf(first), impl.SumOf(second)
			whole := impl.SumOf(first + second)
			if got := impl.SumMore(a, second); got != whole {
				t.Errorf("SumMore of the sum of %.20q and %.20q = %d; want %d", first, second, got, whole)
			}
			if got := impl.TableSum(a, second); got != whole {
				t.Errorf("TableSum of the sum of %.20q and %.20q = %d; want %d", first, second, got, whole)
			}
			if got := impl.SumJoined(a, b, len(second)); got != whole {
				t.Errorf("SumJoined of the sums of %.20q and %.20q = %d; want %d", first, second, got, whole)
			}
		}
	}
}

func TestSumOfTwoTextsAtEachCut(t *testing.T) {
	text := allBytes() + "123456789"
	whole := impl.SumOf(text)
	for cut := range len(text) + 1 {
		a, b := impl.SumOf(text[:cut]), impl.SumOf(text[cut:])
		if impl.SumMore(a, text[cut:]) != whole || impl.TableSum(a, text[cut:]) != whole || impl.SumJoined(a, b, len(text)-cut) != whole {
			t.Errorf("the sum of a text cut at %d is another one", cut)
		}
	}
}

func TestSumJoinedAtTheLimit(t *testing.T) {
	const first = "first"
	a := impl.SumOf(first)
	for _, n := range []int{9999, 10000} {
		second := strings.Repeat("s", n)
		if got, want := impl.SumJoined(a, impl.SumOf(second), n), impl.SumOf(first+second); got != want {
			t.Errorf("SumJoined, the second of %d bytes, = %d; want %d", n, got, want)
		}
	}
	second := strings.Repeat("s", 10001)
	b := impl.SumOf(second)
	if got, want := impl.SumJoined(a, b, 10001), impl.SumShift(a, 10000)^b; got != want || got == impl.SumOf(first+second) {
		t.Errorf("SumJoined, the second of 10001 bytes, = %d; want %d", got, want)
	}
}

func TestSumJoinedTakesTheLowestBits(t *testing.T) {
	for _, a := range sumStarts() {
		for _, b := range sumStarts() {
			for _, n := range []int{math.MinInt, -1, 0, 1, 4, 300} {
				want := impl.SumShift(a, n) ^ lowest32(b)
				if got := impl.SumJoined(a, b, n); got != want {
					t.Errorf("SumJoined(%d, %d, %d) = %d; want %d", a, b, n, got, want)
				}
			}
		}
	}
}

func TestSumShiftGoesBehindNoughts(t *testing.T) {
	for _, s := range sumStarts() {
		want := lowest32(s)
		for n := range 300 {
			if got := impl.SumShift(s, n); got != want {
				t.Errorf("SumShift(%d, %d) = %d; want %d", s, n, got, want)
			}
			want = slowSumByte(want, 0)
		}
	}
}

func TestSumShiftBringsItsNumberInto(t *testing.T) {
	for _, s := range sumStarts() {
		none, most := lowest32(s), impl.SumShift(impl.SumShift(s, 5000), 5000)
		for _, n := range []int{0, -1, -2, -10000, -10001, math.MinInt} {
			if got := impl.SumShift(s, n); got != none {
				t.Errorf("SumShift(%d, %d) = %d; want %d", s, n, got, none)
			}
		}
		for _, n := range []int{10000, 10001, 10002, 20000, 1 << 32, math.MaxInt} {
			if got := impl.SumShift(s, n); got != most {
				t.Errorf("SumShift(%d, %d) = %d; want %d", s, n, got, most)
			}
		}
		if got, want := impl.SumShift(s, 9999), impl.SumShift(impl.SumShift(s, 4999), 5000); got != want {
			t.Errorf("SumShift(%d, 9999) = %d; want %d", s, got, want)
		}
	}
}

func TestSumTellsOfEveryTurnedBit(t *testing.T) {
	text := []byte("append 617a")
	right := impl.SumOf(string(text))
	for i := range text {
		for bit := range 8 {
			text[i] ^= 1 << bit
			if impl.SumOf(string(text)) == right {
				t.Errorf("bit %d of byte %d was turned, and the sum is the same", bit, i)
			}
			text[i] ^= 1 << bit
		}
	}
}
