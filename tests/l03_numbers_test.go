package tests

import (
	"bytes"
	"encoding/binary"
	"math"
	"slices"
	"strings"
	"testing"

	"loop.example/g00971/impl"
)

// Numbers of which VarText is known, among them the last one of each size and the first one of the next.
var knownVars = []struct {
	n    int
	text string
}{
	{0, "\x00"}, {1, "\x01"}, {127, "\x7f"},
	{128, "\x80\x01"}, {129, "\x81\x01"}, {255, "\xff\x01"}, {256, "\x80\x02"}, {300, "\xac\x02"}, {16383, "\xff\x7f"},
	{16384, "\x80\x80\x01"}, {16385, "\x81\x80\x01"}, {2097151, "\xff\xff\x7f"},
	{2097152, "\x80\x80\x80\x01"}, {268435455, "\xff\xff\xff\x7f"},
	{268435456, "\x80\x80\x80\x80\x01"},
	{impl.MaxNumber - 1, "\xff\x93\xeb\xdc\x03"}, {impl.MaxNumber, "\x80\x94\xeb\xdc\x03"},
}

// Texts at whose beginning no VarText stands.
var noVars = []string{
	"", "\x80", "\xff", "\x80\x80", "\xff\xff\xff", "\x80\x80\x80\x80", "\xff\xff\xff\xff",
	"\x80\x00", "\x81\x00", "\xff\x00", "\x80\x80\x00", "\xac\x82\x00", "\xff\xff\xff\x00", "\x80\x80\x80\x80\x00", "\xff\xff\xff\xff\x00",
	"\x81\x94\xeb\xdc\x03", "\x80\x94\xeb\xdc\x04", "\xff\xff\xff\xff\x03", "\xff\xff\xff\xff\x7f", "\x80\x80\x80\x80\x10",
	"\x80\x80\x80\x80\x80", "\x80\x80\x80\x80\x80\x00", "\x80\x80\x80\x80\x80\x01", "\x81\x80\x80\x80\x80\x00", "\x80\x94\xeb\xdc\x83\x00",
	"\x80\x80\x80\x80\x80\x80\x80\x80\x80\x01", "\x85\x80\x80\x80\x80\x80\x80\x80\x80\x02", "\x85\x80\x80\x80\x80\x80\x80\x80\x80\x80\x01",
	strings.Repeat("\x80", 64) + "\x01", strings.Repeat("\xff", 200),
}

var notInVars = []int{-1, -2, -128, -impl.MaxNumber, impl.MaxNumber + 1, impl.MaxNumber + 2, math.MaxUint32, 1 << 35, math.MaxInt, math.MinInt, math.MinInt + 1}

// Places that are none in b.
func placesOutside(b string) []int {
	return []int{-1, -2, -len(b), -len(b) - 1, len(b), len(b) + 1, 2*len(b) + 1, math.MaxInt32, math.MaxInt - 1, math.MaxInt, math.MinInt, math.MinInt + 1}
}

func numbersToWrite() []int {
	var list []int
	for n := range 40000 {
		list = append(list, n)
	}
	for n := 1; n <= impl.MaxNumber; n *= 2 {
		list = append(list, n-1, n, min(n+1, impl.MaxNumber))
	}
	for n := 7; n <= impl.MaxNumber; n = n*3 + 1 {
		list = append(list, n, impl.MaxNumber-n)
	}
	return append(list, impl.MaxNumber-1, impl.MaxNumber)
}

func checkReadVar(t *testing.T, b string, at, n, next int, ok bool) {
	t.Helper()
	if gotN, gotNext, gotOk := impl.ReadVar(b, at); gotN != n || gotNext != next || gotOk != ok {
		t.Errorf("ReadVar(%.60q, %d) = %d, %d, %v; want %d, %d, %v", b, at, gotN, gotNext, gotOk, n, next, ok)
	}
}

func TestVarTextOfKnownNumbers(t *testing.T) {
	for _, c := range knownVars {
		if got := impl.VarText(c.n); got != c.text {
			t.Errorf("VarText(%d) = %q; want %q", c.n, got, c.text)
		}
		if got := impl.VarSize(c.n); got != len(c.text) {
			t.Errorf("VarSize(%d) = %d; want %d", c.n, got, len(c.text))
		}
		checkReadVar(t, c.text, 0, c.n, len(c.text), true)
	}
}

func TestVarTextIsThatOfTheStandardLibrary(t *testing.T) {
	for _, n := range numbersToWrite() {
		want := string(binary.AppendUvarint(nil, uint64(n)))
		if got := impl.VarText(n); got != want {
			t.Errorf("VarText(%d) = %q; want %q", n, got, want)
		}
		if got := impl.VarSize(n); got != len(want) {
			t.Errorf("VarSize(%d) = %d; want %d", n, got, len(want))
		}
	}
}

func TestVarTextIsReadBackWhereverItStands(t *testing.T) {
	for _, n := range numbersToWrite() {
		text := impl.VarText(n)
		checkReadVar(t, text, 0, n, len(text), true)
		checkReadVar(t, "\x80"+text+"\x80\x00", 1, n, 1+len(text), true)
		checkReadVar(t, "\xff\xff\x80"+text+text, 3, n, 3+len(text), true)
		checkReadVar(t, text+text, len(text), n, 2*len(text), true)
	}
}

func TestVarTextOfNumbersOutsideIsEmpty(t *testing.T) {
	for _, n := range notInVars {
		if got := impl.VarText(n); got != "" {
			t.Errorf("VarText(%d) = %q; want nothing", n, got)
		}
		if got := impl.VarSize(n); got != 0 {
			t.Errorf("VarSize(%d) = %d; want 0", n, got)
		}
	}
}

func TestReadVarRefuses(t *testing.T) {
	for _, text := range noVars {
		checkReadVar(t, text, 0, 0, 0, false)
		checkReadVar(t, "\x07"+text, 1, 0, 0, false)
	}
	for _, c := range knownVars {
		for cut := range len(c.text) {
			checkReadVar(t, c.text[:cut], 0, 0, 0, false)
		}
		longer := []byte(c.text)
		longer[len(longer)-1] |= 128
		checkReadVar(t, string(longer)+"\x00", 0, 0, 0, false)
	}
}

func TestReadVarAtPlacesThatAreNone(t *testing.T) {
	for _, b := range []string{"", "\x00", "\x05\x06", "\xac\x02", "\x80\x94\xeb\xdc\x03", strings.Repeat("\x01", 40)} {
		for _, at := range placesOutside(b) {
			checkReadVar(t, b, at, 0, 0, false)
		}
	}
}

// slowReadVar asks VarText about each beginning of what stands there.
func slowReadVar(b string, at int) (int, int, bool) {
	for next := at + 1; next <= min(len(b), at+5); next++ {
		n, weight := 0, 1
		for _, c := range []byte(b[at:next]) {
			n += int(c&127) * weight
			weight *= 128
		}
		if impl.VarText(n) == b[at:next] {
			return n, next, true
		}
	}
	return 0, 0, false
}

func TestWhateverStandsThereIsANumberOrNone(t *testing.T) {
	texts := shortTexts("\x00\x01\x02\x3f\x40\x7e\x7f\x80\x81\xbf\xc0\xfe\xff")
	for n := range 65536 {
		texts = append(texts, string([]byte{byte(n), byte(n >> 8)}))
	}
	ends := "\x00\x01\x03\x04\x7f\x80\x81\x83\xff"
	for _, middle := range []string{"", "\x80", "\xff\x80", "\x94\xeb", "\x94\xeb\xdc", "\x80\x94\xeb\xdc", "\xff\xff\xff\xff"} {
		for i := range len(ends) {
			for j := range len(ends) {
				for k := range len(ends) {
					texts = append(texts, ends[i:i+1]+middle+ends[j:j+1]+ends[k:k+1])
				}
			}
		}
	}
	for _, text := range texts {
		for at := range len(text) {
			n, next, ok := slowReadVar(text, at)
			checkReadVar(t, text, at, n, next, ok)
		}
	}
}

func TestFixTextOfKnownNumbers(t *testing.T) {
	cases := []struct {
		n, width int
		want     string
	}{
		{0, 1, "\x00"}, {0, 4, "\x00\x00\x00\x00"}, {0, 8, "\x00\x00\x00\x00\x00\x00\x00\x00"},
		{1, 1, "\x01"}, {1, 3, "\x01\x00\x00"}, {255, 1, "\xff"}, {255, 2, "\xff\x00"}, {256, 2, "\x00\x01"}, {258, 2, "\x02\x01"},
		{65535, 2, "\xff\xff"}, {65536, 3, "\x00\x00\x01"}, {0x01020304, 4, "\x04\x03\x02\x01"}, {0xfffefdfc, 4, "\xfc\xfd\xfe\xff"},
		{0x0102030405, 5, "\x05\x04\x03\x02\x01"}, {0x0102030405060708, 8, "\x08\x07\x06\x05\x04\x03\x02\x01"},
		{math.MaxInt, 8, "\xff\xff\xff\xff\xff\xff\xff\x7f"}, {1 << 62, 8, "\x00\x00\x00\x00\x00\x00\x00\x40"},
		{impl.MaxNumber, 4, "\x00\xca\x9a\x3b"},
	}
	for _, c := range cases {
		if got := impl.FixText(c.n, c.width); got != c.want {
			t.Errorf("FixText(%d, %d) = %q; want %q", c.n, c.width, got, c.want)
		}
		checkReadFix(t, c.want, 0, c.width, c.n, true)
	}
}

func checkReadFix(t *testing.T, b string, at, width, n int, ok bool) {
	t.Helper()
	if gotN, gotOk := impl.ReadFix(b, at, width); gotN != n || gotOk != ok {
		t.Errorf("ReadFix(%q, %d, %d) = %d, %v; want %d, %v", b, at, width, gotN, gotOk, n, ok)
	}
}

func TestFixTextHasRoomForJustWhatFits(t *testing.T) {
	for width := 1; width <= 8; width++ {
		numbers := []int{0, 1, 127, 128, 255, 256, 257, 65535, 65536, impl.MaxNumber, math.MaxUint32, math.MaxUint32 + 1, math.MaxInt - 1, math.MaxInt}
		for bits := range 63 {
			numbers = append(numbers, 1<<bits-1, 1<<bits, 1<<bits+1)
		}
		for _, n := range numbers {
			whole := binary.LittleEndian.AppendUint64(nil, uint64(n))
			want := string(whole[:width])
			if bytes.ContainsFunc(whole[width:], func(r rune) bool { return r != 0 }) {
				want = ""
			}
			if got := impl.FixText(n, width); got != want {
				t.Errorf("FixText(%d, %d) = %q; want %q", n, width, got, want)
			}
			if want != "" {
				checkReadFix(t, want, 0, width, n, true)
				checkReadFix(t, "\xfe"+want+"\xfd", 1, width, n, true)
				checkReadFix(t, want+want, width, width, n, true)
				checkReadFix(t, want+want, width+1, width, 0, false)
				checkReadFix(t, want[1:], 0, width, 0, false)
			}
		}
	}
}

func TestFixTextRefuses(t *testing.T) {
	for _, width := range []int{0, -1, -8, 9, 10, 16, 64, math.MaxInt, math.MinInt, 1 << 32, 1<<32 + 1, math.MinInt + 1} {
		for _, n := range []int{0, 1, 255, math.MaxInt} {
			if got := impl.FixText(n, width); got != "" {
				t.Errorf("FixText(%d, %d) = %q; want nothing", n, width, got)
			}
		}
		checkReadFix(t, strings.Repeat("\x00", 80), 0, width, 0, false)
		checkReadFix(t, strings.Repeat("\x01", 80), 16, width, 0, false)
		checkReadFix(t, "", 0, width, 0, false)
	}
	for width := -1; width <= 9; width++ {
		for _, n := range []int{-1, -2, -255, -256, math.MinInt, math.MinInt + 1} {
			if got := impl.FixText(n, width); got != "" {
				t.Errorf("FixText(%d, %d) = %q; want nothing", n, width, got)
			}
		}
	}
}

func TestReadFixAtPlacesThatAreNone(t *testing.T) {
	for _, b := range []string{"", "\x01", "\x01\x02\x03\x04\x05\x06\x07\x08\x09"} {
		for width := 1; width <= 8; width++ {
			for _, at := range append(placesOutside(b), len(b)-width+1) {
				checkReadFix(t, b, at, width, 0, false)
			}
		}
	}
}

func TestReadFixOfEightBytesEndsAtTheGreatestInt(t *testing.T) {
	checkReadFix(t, "\xff\xff\xff\xff\xff\xff\xff\x7f", 0, 8, math.MaxInt, true)
	for _, last := range []string{"\x80", "\x81", "\xc0", "\xff"} {
		checkReadFix(t, "\x00\x00\x00\x00\x00\x00\x00"+last, 0, 8, 0, false)
		checkReadFix(t, "\x01\x02\x03\x04\x05\x06\x07"+last, 0, 8, 0, false)
		checkReadFix(t, "\xff\xff\xff\xff\xff\xff\xff"+last, 0, 8, 0, false)
		checkReadFix(t, "\x00\x00\x00\x00\x00\x00"+last, 0, 7, int(last[0])<<48, true)
	}
}

func TestEveryTextOfTwoBytesIsAFixText(t *testing.T) {
	for n := range 65536 {
		text := string([]byte{byte(n), byte(n >> 8)})
		checkReadFix(t, text, 0, 2, n, true)
		if got := impl.FixText(n, 2); got != text {
			t.Errorf("FixText(%d, 2) = %q; want %q", n, got, text)
		}
	}
}

func checkReadVars(t *testing.T, b string, at int, list []int, next int, ok bool) {
	t.Helper()
	if gotList, gotNext, gotOk := impl.ReadVars(b, at); !slices.Equal(gotList, list) || gotNext != next || gotOk != ok {
		t.Errorf("ReadVars(%.60q, %d) = %.60v, %d, %v; want %.60v, %d, %v", b, at, gotList, gotNext, gotOk, list, next, ok)
	}
}

func listsToWrite() [][]int {
	var known, upward []int
	for _, c := range knownVars {
		known = append(known, c.n)
	}
	for i := range 1000 {
		upward = append(upward, i*i*997%(impl.MaxNumber+1))
	}
	return [][]int{
		nil, {}, {0}, {300}, {0, 0, 0}, {5, 4, 3, 300, 1}, {impl.MaxNumber}, {impl.MaxNumber, 0, impl.MaxNumber},
		known, upward[:126], upward[:127], upward[:128], upward[:129], upward[:999], upward,
	}
}

func TestVarListOfKnownLists(t *testing.T) {
	cases := []struct {
		list []int
		want string
	}{
		{nil, "\x00"}, {[]int{}, "\x00"}, {[]int{0}, "\x01\x00"}, {[]int{300}, "\x01\xac\x02"}, {[]int{1, 128, 0}, "\x03\x01\x80\x01\x00"},
		{[]int{7, 7}, "\x02\x07\x07"}, {[]int{impl.MaxNumber, 1}, "\x02\x80\x94\xeb\xdc\x03\x01"},
		{make([]int, 127), "\x7f" + strings.Repeat("\x00", 127)}, {make([]int, 128), "\x80\x01" + strings.Repeat("\x00", 128)},
		{make([]int, 1000), "\xe8\x07" + strings.Repeat("\x00", 1000)},
	}
	for _, c := range cases {
		if got := impl.VarList(c.list); got != c.want {
			t.Errorf("VarList(%.60v) = %.60q; want %.60q", c.list, got, c.want)
		}
		checkReadVars(t, c.want, 0, c.list, len(c.want), true)
	}
}

func TestVarListIsReadBackWhereverItStands(t *testing.T) {
	for _, list := range listsToWrite() {
		kept := slices.Clone(list)
		text := impl.VarList(list)
		if !slices.Equal(list, kept) {
			t.Errorf("VarList changes its argument")
		}
		checkReadVars(t, text, 0, list, len(text), true)
		checkReadVars(t, "\x80"+text+"\x80\x00", 1, list, 1+len(text), true)
		checkReadVars(t, "\xff\x02"+text+text, 2, list, 2+len(text), true)
		checkReadVars(t, text+text, len(text), list, 2*len(text), true)
	}
}

func TestVarListHasNothingBesideANumberOutside(t *testing.T) {
	for _, n := range notInVars {
		for _, list := range [][]int{{n}, {n, 1}, {1, n}, {0, n, 0}, {n, n}, append(make([]int, 999), n), append([]int{n}, make([]int, 1500)...)} {
			if got := impl.VarList(list); got != "" {
				t.Errorf("VarList of %d numbers, %d among them: %.60q; want nothing", len(list), n, got)
			}
		}
	}
}

func TestReadVarsReadsAtMostThousand(t *testing.T) {
	for _, count := range []int{1001, 1002, 1127, 2000, 16384} {
		list := make([]int, count)
		text := impl.VarList(list)
		if want := impl.VarText(count) + strings.Repeat("\x00", count); text != want {
			t.Errorf("VarList of %d noughts has %d bytes; want %d", count, len(text), len(want))
		}
		checkReadVars(t, text, 0, nil, 0, false)
	}
	for _, count := range []string{"\xe9\x07", "\xff\xff\xff\x7f", "\x80\x94\xeb\xdc\x03"} {
		checkReadVars(t, count+strings.Repeat("\x01", 1100), 0, nil, 0, false)
	}
}

func TestReadVarsRefuses(t *testing.T) {
	for _, list := range listsToWrite() {
		text := impl.VarList(list)
		for cut := max(0, len(text)-20); cut < len(text); cut++ {
			checkReadVars(t, text[:cut], 0, nil, 0, false)
		}
		checkReadVars(t, text[:1], 1, nil, 0, false)
	}
	for _, no := range noVars {
		checkReadVars(t, no, 0, nil, 0, false)
		checkReadVars(t, "\x01"+no, 0, nil, 0, false)
		checkReadVars(t, "\x03\x05\x06"+no, 0, nil, 0, false)
		checkReadVars(t, "\x07\x02\x05"+no, 1, nil, 0, false)
	}
	checkReadVars(t, "\x02\x80\x00\x05", 0, nil, 0, false)
	checkReadVars(t, "\x82\x00\x05\x05", 0, nil, 0, false)
}

func TestReadVarsAtPlacesThatAreNone(t *testing.T) {
	for _, b := range []string{"", "\x00", "\x00\x00\x00", "\x02\x05\x06", "\x01\xac\x02"} {
		for _, at := range placesOutside(b) {
			checkReadVars(t, b, at, nil, 0, false)
		}
	}
}

func TestWhateverStandsThereIsAListOrNone(t *testing.T) {
	for _, text := range shortTexts("\x00\x01\x02\x03\x7f\x80\x81\xff") {
		for _, whole := range []string{text, text + "\x00", "\x02" + text, "\x03" + text + "\x01"} {
			list, next, ok := impl.ReadVars(whole, 0)
			if ok && impl.VarList(list) != whole[:next] {
				t.Errorf("ReadVars(%q, 0) = %v, %d, but VarList writes %q", whole, list, next, impl.VarList(list))
			}
			if want, at, right := slowReadVars(whole); ok != right || next != at || !slices.Equal(list, want) {
				t.Errorf("ReadVars(%q, 0) = %v, %d, %v; want %v, %d, %v", whole, list, next, ok, want, at, right)
			}
		}
	}
}

func slowReadVars(b string) ([]int, int, bool) {
	count, next, ok := slowReadVar(b, 0)
	var list []int
	for i := 0; ok && i < count; i++ {
		var n int
		n, next, ok = slowReadVar(b, next)
		list = append(list, n)
	}
	if !ok {
		return nil, 0, false
	}
	return list, next, true
}

func TestReadVarsAnswersNewMemory(t *testing.T) {
	text := impl.VarList([]int{1, 300, 5})
	first, _, _ := impl.ReadVars(text, 0)
	for i := range first {
		first[i] = -1
	}
	checkReadVars(t, text, 0, []int{1, 300, 5}, len(text), true)
}
