package tests

import (
	"encoding/binary"
	"math"
	"slices"
	"strings"
	"testing"

	"loop.example/g00971/impl"
)

// placesOf makes places of numbers, two for each.
func placesOf(numbers ...int) []impl.Place {
	var list []impl.Place
	for i := 0; i+1 < len(numbers); i += 2 {
		list = append(list, impl.Place{Count: numbers[i], At: numbers[i+1]})
	}
	return list
}

// slowPlacesOf asks each offset, where the program goes from one that is told to the next.
func slowPlacesOf(stride int, offsets []int) []impl.Place {
	var list []impl.Place
	for i, offset := range offsets {
		if stride >= 1 && i%stride == 0 {
			list = append(list, impl.Place{Count: i, At: offset})
		}
	}
	return list
}

// slowVar writes what has more than 30 bits, too, so that the limit is asked ahead of it.
func slowVar(n int) string { return string(binary.AppendUvarint(nil, uint64(n))) }

func slowPlacesText(list []impl.Place) string {
	text := slowVar(len(list))
	counts, offsets := 0, 0
	for _, place := range list {
		for _, pair := range [][2]int{{counts, place.Count}, {offsets, place.At}} {
			// What is ahead is never below 0 here, so that nothing wraps.
			if pair[1] < pair[0] || pair[1]-pair[0] > 1000000000 {
				return ""
			}
			text += slowVar(pair[1] - pair[0])
		}
		counts, offsets = place.Count, place.At
	}
	return text
}

func slowReadPlaces(b string, at int) ([]impl.Place, int, bool) {
	many, next, ok := slowReadVar(b, at)
	if !ok || many > 1000 {
		return nil, 0, false
	}
	var list []impl.Place
	var ahead impl.Place
	for range many {
		for _, field := range []*int{&ahead.Count, &ahead.At} {
			var more int
			if more, next, ok = slowReadVar(b, next); !ok {
				return nil, 0, false
			}
			*field += more
		}
		list = append(list, ahead)
	}
	return list, next, true
}

func slowTrailer(mark, count, stride, sum int) string {
	return fix32(mark) + fix32(count) + fix32(stride) + fix32(sum) + "IDX!"
}

// slowFoot lays all that has a sum together first, where the program hands it over in parts.
func slowFoot(h impl.Head, offsets []int, end int) string {
	text := slowMark(h.Version, h.Base+len(offsets)) + slowPlacesText(slowPlacesOf(h.Stride, offsets))
	text += fix32(end) + fix32(len(offsets)) + fix32(h.Stride)
	return text + fix32(castagnoli(text)) + "IDX!"
}

func checkPlacesOf(t *testing.T, stride int, offsets []int, want []impl.Place) {
	t.Helper()
	if got := impl.PlacesOf(stride, offsets); !slices.Equal(got, want) {
		t.Errorf("PlacesOf(%d, %.90v) = %.90v; want %.90v", stride, offsets, got, want)
	}
}

func checkPlacesText(t *testing.T, list []impl.Place, want string) {
	t.Helper()
	if got := impl.PlacesText(list); got != want {
		t.Errorf("PlacesText(%.90v) = %.90q; want %.90q", list, got, want)
	}
}

func checkReadPlaces(t *testing.T, b string, at int, list []impl.Place, next int, ok bool) {
	t.Helper()
	gotList, gotNext, gotOk := impl.ReadPlaces(b, at)
	if !slices.Equal(gotList, list) || gotNext != next || gotOk != ok {
		t.Errorf("ReadPlaces(%.90q, %d) = %.90v, %d, %v; want %.90v, %d, %v", b, at, gotList, gotNext, gotOk, list, next, ok)
	}
}

func checkNoPlaces(t *testing.T, b string, at int) {
	t.Helper()
	checkReadPlaces(t, b, at, nil, 0, false)
}

func checkTrailerText(t *testing.T, n [4]int, want string) {
	t.Helper()
	if got := impl.TrailerText(n[0], n[1], n[2], n[3]); got != want {
		t.Errorf("TrailerText of %v = %q; want %q", n, got, want)
	}
}

func checkReadTrailer(t *testing.T, b string, want [4]int, ok bool) {
	t.Helper()
	mark, count, stride, sum, gotOk := impl.ReadTrailer(b)
	if got := [4]int{mark, count, stride, sum}; got != want || gotOk != ok {
		t.Errorf("ReadTrailer(%.90q) = %v, %v; want %v, %v", b, got, gotOk, want, ok)
	}
}

func checkNoTrailer(t *testing.T, b string) {
	t.Helper()
	checkReadTrailer(t, b, [4]int{}, false)
}

func checkFootText(t *testing.T, h impl.Head, offsets []int, end int, want string) {
	t.Helper()
	if got := impl.FootText(h, offsets, end); got != want {
		t.Errorf("FootText(%v, %.90v, %d) = %.120q; want %.120q", h, offsets, end, got, want)
	}
}

// checkFootTells reads a foot back, by the program's own words alone.
func checkFootTells(t *testing.T, h impl.Head, offsets []int, end int) {
	t.Helper()
	foot := impl.FootText(h, offsets, end)
	if len(foot) < impl.TrailerSize {
		t.Errorf("FootText(%v, %.90v, %d) = %q", h, offsets, end, foot)
		return
	}
	checkReadTrailer(t, foot, [4]int{end, len(offsets), h.Stride, impl.SumOf(foot[:len(foot)-8])}, true)
	checkReadTrailer(t, "frames"+foot, [4]int{end, len(offsets), h.Stride, impl.SumOf(foot[:len(foot)-8])}, true)
	if place := h.Base + len(offsets); !impl.MarkAt(h.Version, place, foot, 0) {
		t.Errorf("FootText(%v, %.90v, %d) does not begin with the mark of %d", h, offsets, end, place)
	}
	begin := len(impl.EndMark(h.Version, h.Base))
	list := impl.PlacesOf(h.Stride, offsets)
	checkReadPlaces(t, foot, begin, list, len(foot)-impl.TrailerSize, true)
}

// Offsets as frames of these sizes have them, one behind the other.
func offsetsOf(sizes ...int) []int {
	at := 24
	var list []int
	for _, size := range sizes {
		list = append(list, at)
		at += size
	}
	return list
}

// Offsets of so many frames, of sizes that differ.
func manyOffsets(many int) []int {
	var sizes []int
	for i := range many {
		sizes = append(sizes, 5+i*7%60)
	}
	return offsetsOf(sizes...)
}

// manyPlaces has both numbers rising, by one byte and by more.
func manyPlaces(many int) []impl.Place {
	var list []impl.Place
	for i := range many {
		list = append(list, impl.Place{Count: i * 3, At: 24 + i*i*50})
	}
	return list
}

func placeLists() [][]impl.Place {
	const most = impl.MaxNumber
	return [][]impl.Place{
		nil, {}, placesOf(0, 24), placesOf(0, 0), placesOf(0, 24, 2, 40), placesOf(0, 0, 0, 0, 0, 0), placesOf(5, 5, 5, 5), placesOf(0, 24, 1, 24, 1, 30),
		placesOf(127, 128, 254, 256), placesOf(0, 127, 0, 255, 0, 383), placesOf(128, 16384, 300, 32768, 16684, 2113536), placesOf(most, most), placesOf(0, most), placesOf(most, 0), placesOf(most-1, most-1, most, most),
		placesOf(1, 2, most, most), placesOf(0, 0, most, most), manyPlaces(3), manyPlaces(126), manyPlaces(127), manyPlaces(128), manyPlaces(129), manyPlaces(500), manyPlaces(999), manyPlaces(1000),
	}
}

func TestNumbersOfPlaces(t *testing.T) {
	if impl.TrailerSize != 20 {
		t.Error("TrailerSize is", impl.TrailerSize)
	}
}

func TestPlacesOfKnownOffsets(t *testing.T) {
	five := []int{24, 30, 40, 41, 99}
	cases := []struct {
		stride  int
		offsets []int
		want    []impl.Place
	}{
		{1, []int{24}, placesOf(0, 24)}, {2, []int{24}, placesOf(0, 24)}, {20, []int{24}, placesOf(0, 24)},
		{2, []int{24, 30, 40}, placesOf(0, 24, 2, 40)}, {2, []int{24, 30, 40, 41}, placesOf(0, 24, 2, 40)},
		{1, five, placesOf(0, 24, 1, 30, 2, 40, 3, 41, 4, 99)}, {2, five, placesOf(0, 24, 2, 40, 4, 99)}, {3, five, placesOf(0, 24, 3, 41)},
		{4, five, placesOf(0, 24, 4, 99)}, {5, five, placesOf(0, 24)}, {6, five, placesOf(0, 24)}, {20, five, placesOf(0, 24)}, {21, five, placesOf(0, 24)},
		{1, nil, nil}, {2, []int{}, nil}, {20, nil, nil}, {0, five, nil}, {-1, five, nil}, {-2, five, nil}, {0, nil, nil},
	}
	for _, c := range cases {
		checkPlacesOf(t, c.stride, c.offsets, c.want)
	}
}

func TestPlacesAreThoseOfEverySoManyethOffset(t *testing.T) {
	for many := range 70 {
		offsets := manyOffsets(many)
		for stride := -3; stride <= 75; stride++ {
			checkPlacesOf(t, stride, offsets, slowPlacesOf(stride, offsets))
		}
		for _, stride := range []int{many - 1, many, many + 1, 1 << 32, 1<<32 + 1, math.MaxInt - 1, math.MaxInt, math.MinInt, math.MinInt + 1, -1 << 32} {
			checkPlacesOf(t, stride, offsets, slowPlacesOf(stride, offsets))
		}
	}
	offsets := manyOffsets(2500)
	for _, stride := range []int{1, 2, 20, 1249, 1250, 2499, 2500, 2501} {
		checkPlacesOf(t, stride, offsets, slowPlacesOf(stride, offsets))
	}
}

// Nothing is asked of the offsets: they are told as they are.
func TestPlacesOfOffsetsThatAreNone(t *testing.T) {
	for _, offsets := range [][]int{{-1}, {0}, {0, 0, 0}, {9, 5, 1}, {-5, 7, -5, 7}, {math.MaxInt, math.MinInt, 0, impl.MaxNumber + 1, 24}} {
		for stride := -1; stride <= 6; stride++ {
			checkPlacesOf(t, stride, offsets, slowPlacesOf(stride, offsets))
		}
	}
}

func TestPlacesTextOfKnownLists(t *testing.T) {
	cases := []struct {
		list []impl.Place
		want string
	}{
		{nil, "\x00"}, {[]impl.Place{}, "\x00"},
		{placesOf(0, 24), "\x01\x00\x18"}, {placesOf(0, 24, 2, 40), "\x02\x00\x18\x02\x10"}, {placesOf(3, 24, 3, 24), "\x02\x03\x18\x00\x00"},
		{placesOf(1, 300, 129, 600), "\x02\x01\xac\x02\x80\x01\xac\x02"}, {placesOf(0, 24, 20, 24+127, 40, 24+255), "\x03\x00\x18\x14\x7f\x14\x80\x01"},
		{placesOf(impl.MaxNumber, 0), "\x01\x80\x94\xeb\xdc\x03\x00"}, {placesOf(0, impl.MaxNumber), "\x01\x00\x80\x94\xeb\xdc\x03"},
		{make([]impl.Place, 127), "\x7f" + strings.Repeat("\x00", 254)}, {make([]impl.Place, 128), "\x80\x01" + strings.Repeat("\x00", 256)},
		{make([]impl.Place, 1000), "\xe8\x07" + strings.Repeat("\x00", 2000)},
	}
	for _, c := range cases {
		checkPlacesText(t, c.list, c.want)
		checkReadPlaces(t, c.want, 0, c.list, len(c.want), true)
	}
}

func TestPlacesComeBackFromTheirBytes(t *testing.T) {
	for _, list := range placeLists() {
		kept := slices.Clone(list)
		text := impl.PlacesText(list)
		if !slices.Equal(list, kept) {
			t.Errorf("PlacesText changes its argument")
		}
		checkPlacesText(t, list, slowPlacesText(list))
		checkReadPlaces(t, text, 0, list, len(text), true)
		for _, behind := range []string{"\x00", "\x80", "\x80\x00", "\x01\x00\x18", "IDX!", text, slowTrailer(1, 2, 3, 4), strings.Repeat("\xff", 30)} {
			checkReadPlaces(t, text+behind, 0, list, len(text), true)
			checkReadPlaces(t, behind+text, len(behind), list, len(behind)+len(text), true)
			checkReadPlaces(t, behind+text+behind, len(behind), list, len(behind)+len(text), true)
		}
	}
}

func TestPlacesOfEachStrideComeBack(t *testing.T) {
	for _, many := range []int{0, 1, 2, 3, 19, 20, 21, 40, 41, 127, 128, 400, 999, 1000} {
		offsets := manyOffsets(many)
		for stride := 1; stride <= 21; stride++ {
			text := impl.PlacesText(impl.PlacesOf(stride, offsets))
			checkReadPlaces(t, text, 0, slowPlacesOf(stride, offsets), len(text), true)
		}
	}
}

func TestListsThatFallHaveNoText(t *testing.T) {
	for _, list := range [][]impl.Place{
		placesOf(2, 24, 1, 30), placesOf(0, 24, 1, 23), placesOf(1, 24, 0, 23), placesOf(0, 24, 2, 40, 1, 50), placesOf(0, 24, 2, 40, 4, 39), placesOf(0, 24, 2, 40, 0, 24),
		placesOf(impl.MaxNumber, 5, 0, 5), placesOf(5, impl.MaxNumber, 5, 0), append(manyPlaces(900), placesOf(0, impl.MaxNumber)...), append(placesOf(0, impl.MaxNumber), manyPlaces(900)...),
	} {
		checkPlacesText(t, list, "")
		if slowPlacesText(list) != "" {
			t.Errorf("the slow way writes %.90v", list)
		}
	}
}

// The same number in each field of a list, at its beginning, in the middle and at its end.
func TestListsWithNumbersOutsideHaveNoText(t *testing.T) {
	for _, n := range notInVars {
		for _, list := range [][]impl.Place{placesOf(n, 0), placesOf(0, n), placesOf(n, n), placesOf(0, 0, n, 0), placesOf(0, 0, 0, n), placesOf(0, 0, n, n, 0, 0), placesOf(n, 24, n, 30), placesOf(0, n, 2, n), placesOf(n, n, n, n, n, n)} {
			checkPlacesText(t, list, "")
		}
		checkPlacesText(t, append(make([]impl.Place, 1500), impl.Place{Count: n}), "")
		checkPlacesText(t, append(make([]impl.Place, 1500), impl.Place{At: n}), "")
	}
	for _, ahead := range []int{1, 2, 24, impl.MaxNumber - 1, impl.MaxNumber} {
		for _, n := range []int{-1, -2, -ahead, math.MinInt, math.MinInt + 1, math.MinInt + ahead, math.MinInt + ahead - 1, math.MaxInt, math.MaxInt - ahead, ahead - 1, ahead + impl.MaxNumber + 1} {
			checkPlacesText(t, placesOf(ahead, 0, n, 0), "")
			checkPlacesText(t, placesOf(0, ahead, 0, n), "")
			checkPlacesText(t, placesOf(ahead, ahead, n, n), "")
		}
	}
}

// The limit is that of how much a number is above the one ahead, not that of the number.
func TestNumbersThatComeAboveMaxNumberStepByStep(t *testing.T) {
	const most = impl.MaxNumber
	for _, list := range [][]impl.Place{
		placesOf(most, 0, most+1, 0), placesOf(0, most, 0, most+1), placesOf(most, most, 2*most, 2*most), placesOf(1, 1, most+1, most+1), placesOf(most, most, most+1, 2*most, 2*most+1, 3*most),
	} {
		text := impl.PlacesText(list)
		checkPlacesText(t, list, slowPlacesText(list))
		checkReadPlaces(t, text, 0, list, len(text), true)
	}
	var steps []impl.Place
	for i := range 1000 {
		steps = append(steps, impl.Place{Count: (i + 1) * most, At: (i + 1) * most})
	}
	text := "\xe8\x07" + strings.Repeat("\x80\x94\xeb\xdc\x03", 2000)
	checkPlacesText(t, steps, text)
	checkReadPlaces(t, text, 0, steps, len(text), true)
	checkPlacesText(t, placesOf(1, 1, most+2, most+1), "")
	checkPlacesText(t, placesOf(1, 1, most+1, most+2), "")
}

func TestReadPlacesReadsAtMostThousand(t *testing.T) {
	for _, count := range []int{1001, 1002, 1127, 2000, 16384} {
		text := slowVar(count) + strings.Repeat("\x00", 2*count)
		checkPlacesText(t, make([]impl.Place, count), text)
		checkNoPlaces(t, text, 0)
		checkNoPlaces(t, "z"+text, 1)
		rising := impl.PlacesText(manyPlaces(count))
		checkPlacesText(t, manyPlaces(count), slowPlacesText(manyPlaces(count)))
		checkNoPlaces(t, rising, 0)
	}
	for _, count := range []string{"\xe9\x07", "\xff\xff\xff\x7f", "\x80\x94\xeb\xdc\x03"} {
		checkNoPlaces(t, count, 0)
		checkNoPlaces(t, count+strings.Repeat("\x01", 2500), 0)
	}
}

func TestPlacesThatAreCutOff(t *testing.T) {
	for _, list := range placeLists() {
		text := impl.PlacesText(list)
		for cut := range len(text) {
			checkNoPlaces(t, text[:cut], 0)
			if cut > 20 && cut < len(text)-20 {
				continue
			}
			checkNoPlaces(t, "\x00"+text[:cut], 1)
		}
		if len(list) < 1000 {
			more := slowVar(len(list)+1) + text[len(slowVar(len(list))):]
			checkNoPlaces(t, more, 0)
			checkNoPlaces(t, more+"\x00", 0)
			checkReadPlaces(t, more+"\x00\x00", 0, append(slices.Clone(list), last(list)), len(more)+2, true)
		}
	}
}

func last(list []impl.Place) impl.Place {
	if len(list) == 0 {
		return impl.Place{}
	}
	return list[len(list)-1]
}

func TestPlacesWithANeedlessNought(t *testing.T) {
	parts := []string{"\x02", "\x00", "\x18", "\xac\x02", "\x80\x94\xeb\xdc\x03"}
	list := placesOf(0, 24, 300, 24+impl.MaxNumber)
	whole := strings.Join(parts, "")
	checkReadPlaces(t, whole, 0, list, len(whole), true)
	for i, part := range parts {
		end := len(part) - 1
		for noughts := 1; noughts <= 3; noughts++ {
			longer := slices.Clone(parts)
			longer[i] = part[:end] + string([]byte{part[end] | 128}) + strings.Repeat("\x80", noughts-1) + "\x00"
			checkNoPlaces(t, strings.Join(longer, ""), 0)
			checkNoPlaces(t, "\x00"+strings.Join(longer, "")+"\x00\x00\x00", 1)
		}
	}
	for _, b := range []string{"\x80\x00", "\x81\x00\x00\x18", "\x80\x80\x00", "\x01\x80\x00\x18", "\x01\x00\x98\x00"} {
		checkNoPlaces(t, b, 0)
	}
}

func TestPlacesOfWhichOnePartIsNone(t *testing.T) {
	for _, no := range noVars {
		checkNoPlaces(t, no, 0)
		checkNoPlaces(t, "\x01"+no, 0)
		checkNoPlaces(t, "\x01\x05"+no, 0)
		checkNoPlaces(t, "\x02\x00\x18"+no, 0)
		checkNoPlaces(t, "\x02\x00\x18\x02"+no, 0)
		checkNoPlaces(t, "\x03\x07\x02\x05"+no, 0)
	}
}

func TestReadPlacesAtPlacesThatAreNone(t *testing.T) {
	for _, list := range placeLists() {
		text := impl.PlacesText(list)
		for _, at := range placesOutside(text) {
			checkNoPlaces(t, text, at)
		}
	}
	for _, b := range []string{"", "\x00", "\x00\x00\x00", "\x01\x00\x18", strings.Repeat("\x00", 40)} {
		for _, at := range placesOutside(b) {
			checkNoPlaces(t, b, at)
		}
	}
}

func TestReadPlacesAtEachPlaceOfAText(t *testing.T) {
	b := "\x03\x00\x18\x02\x10\x02\x10\x00\x80\x01\x02\xac\x02\x05\x00\x01\x7f"
	for at := range len(b) + 1 {
		list, next, ok := slowReadPlaces(b, at)
		checkReadPlaces(t, b, at, list, next, ok)
	}
}

func TestWhateverStandsThereIsAListOfPlacesOrNone(t *testing.T) {
	for _, text := range shortTexts("\x00\x01\x02\x03\x7f\x80\x81\xff") {
		for _, whole := range []string{text, text + "\x00", "\x01" + text, "\x02" + text, "\x02\x00\x18" + text, "\x02" + text + "\x00\x01", "\x03\x01" + text + text} {
			list, next, ok := impl.ReadPlaces(whole, 0)
			if ok && impl.PlacesText(list) != whole[:next] {
				t.Errorf("ReadPlaces(%q, 0) = %v, %d, but PlacesText writes %q", whole, list, next, impl.PlacesText(list))
			}
			want, at, right := slowReadPlaces(whole, 0)
			checkReadPlaces(t, whole, 0, want, at, right)
		}
	}
	pick := picks(11)
	for range 20000 {
		b := make([]byte, pick(20))
		for i := range b {
			b[i] = byte(pick(256) >> pick(8))
		}
		at := pick(len(b) + 2)
		list, next, ok := slowReadPlaces(string(b), at)
		checkReadPlaces(t, string(b), at, list, next, ok)
	}
}

// Of each number of a trailer, what has room and what has none.
var (
	roomyNumbers  = []int{0, 1, 24, 255, 256, 65535, 65536, impl.MaxNumber, impl.MaxNumber + 1, math.MaxInt32, math.MaxInt32 + 1, math.MaxUint32 - 1, math.MaxUint32}
	roomlessThere = []int{-1, -2, -255, -math.MaxUint32, math.MaxUint32 + 1, math.MaxUint32 + 2, 1 << 33, 1 << 40, 1 << 62, math.MaxInt - 1, math.MaxInt, math.MinInt, math.MinInt + 1}
)

func TestKnownTrailers(t *testing.T) {
	cases := []struct {
		n    [4]int
		want string
	}{
		{[4]int{}, strings.Repeat("\x00", 16) + "IDX!"},
		{[4]int{1, 2, 3, 4}, "\x01\x00\x00\x00\x02\x00\x00\x00\x03\x00\x00\x00\x04\x00\x00\x00IDX!"},
		{[4]int{0x01020304, 0x05060708, 0x090a0b0c, 0x0d0e0f10}, "\x04\x03\x02\x01\x08\x07\x06\x05\x0c\x0b\x0a\x09\x10\x0f\x0e\x0dIDX!"},
		{[4]int{impl.MaxNumber, 1000, 20, math.MaxUint32}, "\x00\xca\x9a\x3b\xe8\x03\x00\x00\x14\x00\x00\x00\xff\xff\xff\xffIDX!"},
		{[4]int{math.MaxUint32, math.MaxUint32, math.MaxUint32, math.MaxUint32}, strings.Repeat("\xff", 16) + "IDX!"},
	}
	for _, c := range cases {
		checkTrailerText(t, c.n, c.want)
		checkReadTrailer(t, c.want, c.n, true)
	}
}

func TestWhatStandsAtTheEndComesBack(t *testing.T) {
	for _, n := range roomyNumbers {
		for _, m := range roomyNumbers {
			for _, numbers := range [][4]int{{n, m, 1, 7}, {5, n, m, 7}, {5, 2, n, m}, {m, 2, 1, n}, {n, m, n, m}} {
				text := slowTrailer(numbers[0], numbers[1], numbers[2], numbers[3])
				checkTrailerText(t, numbers, text)
				checkReadTrailer(t, text, numbers, true)
				checkReadTrailer(t, "z"+text, numbers, true)
			}
		}
	}
}

func TestTrailersWithNumbersThatHaveNoRoom(t *testing.T) {
	for _, n := range roomlessThere {
		for i := range 4 {
			for _, numbers := range [][4]int{{}, {1, 2, 3, 4}, {24, 3, 2, math.MaxUint32}} {
				numbers[i] = n
				checkTrailerText(t, numbers, "")
				numbers[(i+1)%4] = n
				checkTrailerText(t, numbers, "")
			}
		}
		checkTrailerText(t, [4]int{n, n, n, n}, "")
	}
}

func TestOnlyTheLastBytesAreATrailer(t *testing.T) {
	text := slowTrailer(50, 3, 2, 7)
	want := [4]int{50, 3, 2, 7}
	for i := range 256 {
		b := string([]byte{byte(i)})
		checkReadTrailer(t, b+text, want, true)
		checkNoTrailer(t, text+b)
	}
	for _, ahead := range []string{"", "IDX!", text, slowTrailer(9, 9, 9, 9), slowHeadText(headOf(1, 2, 0, 0)), allBytes(), strings.Repeat("\x00", 3000)} {
		checkReadTrailer(t, ahead+text, want, true)
		checkReadTrailer(t, ahead+text+slowTrailer(1, 2, 3, 4), [4]int{1, 2, 3, 4}, true)
		checkNoTrailer(t, ahead+text+"\x00")
		checkNoTrailer(t, ahead+text+"IDX?")
	}
	checkReadTrailer(t, text+"IDX!", [4]int{3, 2, 7, 0x21584449}, true)
}

func TestATrailerThatIsCutOff(t *testing.T) {
	text := slowTrailer(50, 3, 2, 7)
	for cut := range len(text) {
		checkNoTrailer(t, text[:cut])
		if cut > 0 {
			checkNoTrailer(t, text[cut:])
			checkNoTrailer(t, "frames, a mark and places"+text[:cut])
		}
	}
	for _, b := range []string{"", "!", "IDX!", "IDX!IDX!", strings.Repeat("\x00", 15) + "IDX!", strings.Repeat("\x00", 20), strings.Repeat("\xff", 500), slowHeadText(headOf(1, 2, 0, 0))} {
		checkNoTrailer(t, b)
	}
	checkReadTrailer(t, strings.Repeat("IDX!", 5), [4]int{0x21584449, 0x21584449, 0x21584449, 0x21584449}, true)
}

func TestATrailerWithOtherLastBytes(t *testing.T) {
	text := slowTrailer(50, 3, 2, 7)
	for at := 16; at < 20; at++ {
		for i := range 256 {
			if other := withByte(text, at, byte(i)); byte(i) != text[at] {
				checkNoTrailer(t, other)
				checkNoTrailer(t, "ahead"+other)
			}
		}
	}
	for _, end := range []string{"idx!", "!XDI", "SEGM", "IDX", "IDX\x00", "\x00\x00\x00\x00", " DX!"} {
		checkNoTrailer(t, text[:16]+end)
	}
}

// Whatever the first 16 of the last bytes are, they are four numbers.
func TestATrailerOfWhateverBytes(t *testing.T) {
	pick := picks(20)
	for range 3000 {
		b := make([]byte, 16+pick(5))
		for i := range b {
			b[i] = byte(pick(256))
		}
		var want [4]int
		for i := range want {
			want[i] = int(binary.LittleEndian.Uint32(b[len(b)-16+4*i:]))
		}
		checkReadTrailer(t, string(b)+"IDX!", want, true)
		checkTrailerText(t, want, string(b[len(b)-16:])+"IDX!")
	}
}

func TestKnownFeet(t *testing.T) {
	older := "\xff\xff\xff\xff\x0f" + "\x02\x00\x18\x02\x10" + "\x32\x00\x00\x00\x03\x00\x00\x00\x02\x00\x00\x00"
	checkFootText(t, headOf(1, 2, 0, 0), []int{24, 30, 40}, 50, older+fix32(castagnoli(older))+"IDX!")
	newer := "\xff\xff\xff\xff" + fix32(castagnoli("\x0a\x00\x00\x00\x00\x00\x00\x00\xff\xff\xff\xff"))
	newer += "\x03\x00\x18\x01\x0c\x01\x80\x01" + "\xc8\x00\x00\x00\x03\x00\x00\x00\x01\x00\x00\x00"
	checkFootText(t, headOf(2, 1, 7, 5), []int{24, 36, 164}, 200, newer+fix32(castagnoli(newer))+"IDX!")
}

func TestFeetOfFilesWithoutFrames(t *testing.T) {
	older := "\xff\xff\xff\xff\x0f" + "\x00" + "\x18\x00\x00\x00\x00\x00\x00\x00\x02\x00\x00\x00"
	checkFootText(t, headOf(1, 2, 9, 5), nil, 24, older+fix32(castagnoli(older))+"IDX!")
	checkFootText(t, headOf(1, 2, 9, 5), []int{}, 24, older+fix32(castagnoli(older))+"IDX!")
	newer := "\xff\xff\xff\xff" + fix32(castagnoli("\x07\x00\x00\x00\x00\x00\x00\x00\xff\xff\xff\xff"))
	newer += "\x00" + "\x18\x00\x00\x00\x00\x00\x00\x00\x03\x00\x00\x00"
	checkFootText(t, headOf(2, 3, 7, 5), nil, 24, newer+fix32(castagnoli(newer))+"IDX!")
	for _, h := range rightHeads() {
		for _, end := range []int{24, 0, 1, impl.MaxNumber, math.MaxUint32} {
			checkFootText(t, h, nil, end, slowFoot(h, nil, end))
			checkFootTells(t, h, nil, end)
		}
	}
}

func TestAFootTellsWhereItsFramesEndAndHowManyThereAre(t *testing.T) {
	for _, version := range bothForms {
		for stride := 1; stride <= 20; stride++ {
			for _, many := range []int{0, 1, 2, 3, stride - 1, stride, stride + 1, 2*stride - 1, 2 * stride, 2*stride + 1, 127, 128, 129, 300, 1000} {
				offsets := manyOffsets(many)
				for _, base := range []int{0, 7, 255, impl.MaxNumber - many} {
					h := headOf(version, stride, base, maxLink-many)
					end := 24 + 70*many
					checkFootText(t, h, offsets, end, slowFoot(h, offsets, end))
					checkFootTells(t, h, offsets, end)
				}
			}
		}
	}
}

// The foot of what is scanned is read as if the file had been written with it.
func TestAFootBehindTheFramesOfAFile(t *testing.T) {
	for _, h := range scanHeads() {
		for _, records := range scanRows() {
			b := slowFile(h, records...)
			scan := impl.ScanText(b)
			foot := impl.FootText(scan.Head, scan.Offsets, scan.End)
			checkFootTells(t, h, scan.Offsets, len(b))
			checkScan(t, b+foot, scanOf(h, true, records...))
			end, count, stride, sum, ok := impl.ReadTrailer(b + foot)
			if !ok || end != len(b) || count != len(records) || stride != h.Stride || sum != castagnoli((b + foot)[end:len(b)+len(foot)-8]) {
				t.Errorf("the trailer of %.200q tells %d, %d, %d, %d, %v", b+foot, end, count, stride, sum, ok)
			}
			list, _, _ := impl.ReadPlaces(foot, len(slowMark(h.Version, 0)))
			for _, place := range list {
				record, _, ok := impl.ReadFrame(h.Version, h.Base+place.Count, b, place.At)
				if !ok || record != records[place.Count] {
					t.Errorf("at the place %v of %.200q is %q, %v; want %q", place, b, record, ok, records[place.Count])
				}
			}
		}
	}
}

// Each byte ahead of the sum counts: the sum that is told is not that of other bytes.
func TestTheSumOfAFootIsThatOfAllBytesAheadOfIt(t *testing.T) {
	for _, h := range scanHeads() {
		for _, offsets := range [][]int{nil, {24}, manyOffsets(50)} {
			foot := impl.FootText(h, offsets, 4000)
			_, _, _, sum, ok := impl.ReadTrailer(foot)
			summed := foot[:len(foot)-8]
			if !ok || sum != castagnoli(summed) {
				t.Errorf("the foot %.120q tells the sum %d, %v; want %d", foot, sum, ok, castagnoli(summed))
			}
			for at := range summed {
				if other := withByte(summed, at, summed[at]^1); castagnoli(other) == sum {
					t.Errorf("the foot %.120q has the same sum with another byte at %d", foot, at)
				}
			}
		}
	}
}

func TestFeetOfOtherThings(t *testing.T) {
	h, offsets := headOf(2, 2, 7, 5), []int{24, 30, 40}
	foot := impl.FootText(h, offsets, 50)
	others := map[string]string{
		"another version": impl.FootText(headOf(1, 2, 7, 5), offsets, 50),
		"another stride":  impl.FootText(headOf(2, 1, 7, 5), offsets, 50),
		"another base":    impl.FootText(headOf(2, 2, 8, 5), offsets, 50),
		"fewer offsets":   impl.FootText(h, offsets[:2], 50),
		"another offset":  impl.FootText(h, []int{24, 30, 41}, 50),
		"another end":     impl.FootText(h, offsets, 51),
	}
	seen := map[string]string{foot: "the foot"}
	for what, other := range others {
		if seen[other] != "" || other == "" {
			t.Errorf("%s is %q, as %s", what, other, seen[other])
		}
		seen[other] = what
	}
	// The link is told by the head alone, and an offset that no place tells by none.
	for _, link := range []int{0, 6, maxLink} {
		checkFootText(t, headOf(2, 2, 7, link), offsets, 50, foot)
	}
	for _, untold := range []int{25, 0, -1, 99, math.MinInt, math.MaxInt} {
		checkFootText(t, h, []int{24, untold, 40}, 50, foot)
	}
}

func TestAFootOfAHeadThatIsNotRight(t *testing.T) {
	for _, h := range wrongHeads() {
		for _, offsets := range [][]int{nil, {24}, {24, 30, 40}, {-1}} {
			for _, end := range []int{24, 50, -1} {
				checkFootText(t, h, offsets, end, "")
			}
		}
	}
}

func TestAFootWithAnEndThatHasNoRoom(t *testing.T) {
	for _, h := range scanHeads() {
		for _, offsets := range [][]int{nil, {24}, {24, 30, 40}} {
			for _, end := range roomlessThere {
				checkFootText(t, h, offsets, end, "")
			}
			// Four bytes have room for more than MaxNumber, and for an end that is ahead of the frames.
			for _, end := range roomyNumbers {
				checkFootText(t, h, offsets, end, slowFoot(h, offsets, end))
				checkFootTells(t, h, offsets, end)
			}
		}
	}
}

func TestAFootWithOffsetsThatHaveNoText(t *testing.T) {
	for _, version := range bothForms {
		h := headOf(version, 2, 7, 5)
		for _, offsets := range [][]int{{24, 30, 23}, {-1}, {-1, 30, 40}, {24, 30, -1}, {impl.MaxNumber + 1}, {24, 30, 25 + impl.MaxNumber}, {math.MinInt}, {math.MaxInt}, {24, 30, math.MinInt}, {24, 30, math.MaxInt}, {24, 30, 40, 50, 39}} {
			checkFootText(t, h, offsets, 50, "")
		}
		for _, offsets := range [][]int{{0}, {0, 0, 0}, {24, 30, 24}, {24, 5, 24, 5, 24}, {impl.MaxNumber}, {24, 30, 24 + impl.MaxNumber}, {50, 60, 70}} {
			checkFootText(t, h, offsets, 50, slowFoot(h, offsets, 50))
			checkFootTells(t, h, offsets, 50)
		}
	}
}

// Behind the record of the place MaxNumber there is no mark, and so no foot.
func TestAFootOfABaseNearMaxNumber(t *testing.T) {
	for _, version := range bothForms {
		for below := range 5 {
			h := headOf(version, 3, impl.MaxNumber-below, 5)
			for many := range 8 {
				offsets := manyOffsets(many)
				if many > below {
					checkFootText(t, h, offsets, 500, "")
					continue
				}
				checkFootText(t, h, offsets, 500, slowFoot(h, offsets, 500))
				checkFootTells(t, h, offsets, 500)
			}
			checkFootText(t, h, manyOffsets(2000), 90000, "")
		}
	}
}

// A foot is written of more places than are read back.
func TestFeetOfManyOffsets(t *testing.T) {
	for _, version := range bothForms {
		for _, many := range []int{1000, 1001, 20000, 20001} {
			offsets := manyOffsets(many)
			for _, stride := range []int{1, 2, 20} {
				h := headOf(version, stride, 7, 5)
				foot := slowFoot(h, offsets, 1000000)
				checkFootText(t, h, offsets, 1000000, foot)
				checkReadTrailer(t, foot, [4]int{1000000, many, stride, castagnoli(foot[:len(foot)-8])}, true)
				begin := len(slowMark(version, 0))
				if list := slowPlacesOf(stride, offsets); len(list) <= 1000 {
					checkReadPlaces(t, foot, begin, list, len(foot)-20, true)
				} else {
					checkNoPlaces(t, foot, begin)
				}
			}
		}
	}
}

func TestPlacesAreNewMemory(t *testing.T) {
	whole := []int{24, 30, 40, 50, 99}
	before := slices.Clone(whole)
	offsets := whole[:4]
	for stride := -1; stride <= 5; stride++ {
		list := impl.PlacesOf(stride, offsets)
		for i := range list {
			list[i] = impl.Place{Count: -1, At: -1}
		}
		_ = append(list, impl.Place{})
		checkPlacesOf(t, stride, offsets, slowPlacesOf(stride, before[:4]))
		impl.FootText(headOf(1, 2, 0, 0), offsets, 60)
		if !slices.Equal(whole, before) {
			t.Fatalf("the offsets became %v", whole)
		}
	}
	text := impl.PlacesText(manyPlaces(5))
	for range 2 {
		list, _, _ := impl.ReadPlaces(text, 0)
		if !slices.Equal(list, manyPlaces(5)) {
			t.Fatalf("ReadPlaces(%q, 0) = %v", text, list)
		}
		list[0] = impl.Place{Count: -1, At: -1}
		_ = append(list[:2], impl.Place{})
	}
	room := manyPlaces(6)
	impl.PlacesText(room[:3])
	if !slices.Equal(room, manyPlaces(6)) {
		t.Errorf("PlacesText leaves %v", room)
	}
}
