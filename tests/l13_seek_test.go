package tests

import (
	"math"
	"slices"
	"strings"
	"testing"

	"loop.example/g00971/impl"
)

// slowPlaceFor goes over all places from the first one on, where the program looks by halves.
func slowPlaceFor(list []impl.Place, i int) (impl.Place, bool) {
	found, ok := impl.Place{}, false
	for _, place := range list {
		if place.Count <= i {
			found, ok = place, true
		}
	}
	return found, ok
}

// slowListIn takes the places from the frames, where the program reads them from the end.
func slowListIn(b string) ([]impl.Place, bool) {
	scan := slowScan(b)
	if _, _, ok := slowReadSealed(b); !ok {
		return nil, false
	}
	return slowPlacesOf(scan.Head.Stride, scan.Offsets), true
}

// found is what the three functions that are handed a text and a place answer.
type found struct {
	record string
	ok     bool
	reads  int
	offset int
}

var foundNowhere = found{offset: -1}

// slowFound goes through all records of a scan.
func slowFound(scan impl.Scan, sealed bool, i int) found {
	want := foundNowhere
	for count, record := range scan.Records {
		if scan.Head.Base+count != i {
			continue
		}
		want.offset = scan.Offsets[count]
		if sealed {
			want.record, want.ok, want.reads = record, true, count%scan.Head.Stride+1
		}
	}
	return want
}

func checkPlaceFor(t *testing.T, list []impl.Place, i int, want impl.Place, ok bool) {
	t.Helper()
	if got, gotOk := impl.PlaceFor(list, i); got != want || gotOk != ok {
		t.Errorf("PlaceFor(%.90v, %d) = %v, %v; want %v, %v", list, i, got, gotOk, want, ok)
	}
}

func checkNoPlaceFor(t *testing.T, list []impl.Place, i int) {
	t.Helper()
	checkPlaceFor(t, list, i, impl.Place{}, false)
}

func checkPlaceForAsSlow(t *testing.T, list []impl.Place, i int) {
	t.Helper()
	want, ok := slowPlaceFor(list, i)
	checkPlaceFor(t, list, i, want, ok)
}

func checkListIn(t *testing.T, b string, want []impl.Place, ok bool) {
	t.Helper()
	if got, gotOk := impl.ListIn(b); !slices.Equal(got, want) || gotOk != ok {
		t.Errorf("ListIn(%.200q) = %.90v, %v; want %.90v, %v", b, got, gotOk, want, ok)
	}
}

func checkFound(t *testing.T, b string, i int, want found) {
	t.Helper()
	record, ok := impl.SeekRecord(b, i)
	if got := (found{record, ok, impl.ReadsFor(b, i), impl.OffsetOf(b, i)}); got != want {
		t.Errorf("SeekRecord, ReadsFor and OffsetOf(%.200q, %d) = %+v; want %+v", b, i, got, want)
	}
}

// checkUnsealedFound is for a file that is not sealed, of which OffsetOf alone tells something.
func checkUnsealedFound(t *testing.T, b string, i int, offset int) {
	t.Helper()
	checkFound(t, b, i, found{offset: offset})
}

// seekPlaces are places around all records of a file, at and beside each one that its list tells, and far from all.
func seekPlaces(h impl.Head, many int) []int {
	var list []int
	for count := 0; count < many; count += max(h.Stride, many/20) {
		list = append(list, h.Base+count-1, h.Base+count, h.Base+count+1, h.Base+count+h.Stride-1)
	}
	for more := -3; more <= 3; more++ {
		list = append(list, h.Base+more, h.Base+many+more, more, many+more)
	}
	list = append(list, -h.Base, 2*h.Base, h.Base+256, h.Base+1<<32, h.Base-1<<32, 1<<32, impl.MaxNumber-1, impl.MaxNumber, impl.MaxNumber+1)
	// Some of these, less Base, are below the least number there is.
	list = append(list, math.MinInt, math.MinInt+1, math.MinInt+h.Base-1, math.MinInt+h.Base, math.MinInt+h.Base+1, math.MinInt+many)
	return append(list, math.MaxInt, math.MaxInt-1, math.MaxInt-h.Base, math.MaxInt-many)
}

// checkSeek asks every function that is handed a text for all places that may matter.
func checkSeek(t *testing.T, b string) {
	t.Helper()
	scan := slowScan(b)
	list, sealed := slowListIn(b)
	checkListIn(t, b, list, sealed)
	for _, i := range seekPlaces(scan.Head, len(scan.Records)) {
		checkFound(t, b, i, slowFound(scan, sealed, i))
	}
}

// checkSealedSeek asks for each record, and for those that are none beside the first and the last one.
func checkSealedSeek(t *testing.T, h impl.Head, records ...string) {
	t.Helper()
	b := slowSeal(h, records...)
	scan := scanOf(h, true, records...)
	checkListIn(t, b, slowPlacesOf(h.Stride, scan.Offsets), true)
	for count, record := range records {
		checkFound(t, b, h.Base+count, found{record, true, count%h.Stride + 1, scan.Offsets[count]})
	}
	checkFound(t, b, h.Base-1, foundNowhere)
	checkFound(t, b, h.Base+len(records), foundNowhere)
	checkSeek(t, b)
	checkFoundByList(t, b)
}

// checkFoundByList reads each record from its place of the list on, by the program's own words alone.
func checkFoundByList(t *testing.T, b string) {
	t.Helper()
	h, records, sealed := impl.ReadSealed(b)
	list, ok := impl.ListIn(b)
	if !sealed || !ok {
		t.Errorf("ReadSealed and ListIn of %.200q are %v, %v", b, sealed, ok)
	}
	for count, want := range records {
		i := h.Base + count
		place, ok := impl.PlaceFor(list, count)
		record, begin, next := "", -1, place.At
		for more := range impl.ReadsFor(b, i) {
			if !ok {
				break
			}
			begin = next
			record, next, ok = impl.ReadFrame(h.Version, h.Base+place.Count+more, b, begin)
		}
		sought, isThere := impl.SeekRecord(b, i)
		if !ok || !isThere || record != want || sought != want || begin != impl.OffsetOf(b, i) {
			t.Errorf("the record %d of %.200q is %q by the list, from %d on, and %q, %v by SeekRecord; want %q", i, b, record, begin, sought, isThere, want)
		}
	}
}

func TestPlaceForOfAnEmptyList(t *testing.T) {
	for _, i := range []int{0, 1, -1, 7, 1000, impl.MaxNumber, math.MaxInt, math.MinInt} {
		checkNoPlaceFor(t, nil, i)
		checkNoPlaceFor(t, []impl.Place{}, i)
		checkNoPlaceFor(t, placesOf(0, 24, 3, 50)[:0], i)
	}
}

func TestPlaceForOfOnePlace(t *testing.T) {
	for _, count := range []int{0, 1, 5, 1000, impl.MaxNumber, -1, -7, math.MinInt + 1, math.MaxInt - 1} {
		for _, at := range []int{24, 0, -1, math.MaxInt, math.MinInt} {
			list := placesOf(count, at)
			for _, i := range []int{count - 1, math.MinInt} {
				checkNoPlaceFor(t, list, i)
			}
			for _, i := range []int{count, count + 1, math.MaxInt} {
				checkPlaceFor(t, list, i, impl.Place{Count: count, At: at}, true)
			}
		}
	}
	checkPlaceFor(t, placesOf(math.MinInt, 24), math.MinInt, impl.Place{Count: math.MinInt, At: 24}, true)
	checkPlaceFor(t, placesOf(math.MaxInt, 24), math.MaxInt, impl.Place{Count: math.MaxInt, At: 24}, true)
	checkNoPlaceFor(t, placesOf(math.MaxInt, 24), math.MaxInt-1)
}

func TestPlaceForInAKnownList(t *testing.T) {
	list := placesOf(2, 24, 5, 60, 9, 99)
	for i := -3; i < 2; i++ {
		checkNoPlaceFor(t, list, i)
	}
	for i := 2; i < 5; i++ {
		checkPlaceFor(t, list, i, impl.Place{Count: 2, At: 24}, true)
	}
	for i := 5; i < 9; i++ {
		checkPlaceFor(t, list, i, impl.Place{Count: 5, At: 60}, true)
	}
	for _, i := range []int{9, 10, 11, 100, impl.MaxNumber, math.MaxInt - 1, math.MaxInt} {
		checkPlaceFor(t, list, i, impl.Place{Count: 9, At: 99}, true)
	}
	checkNoPlaceFor(t, list, math.MinInt)
}

// At the Count of each place, one below and one above it, of lists of each length.
func TestPlaceForBesideEachCount(t *testing.T) {
	for _, step := range []int{1, 2, 3, 20} {
		for _, first := range []int{0, 1, 7, -5} {
			var list []impl.Place
			for count := first; len(list) <= 70; count += step {
				list = append(list, impl.Place{Count: count, At: 24 + 7*len(list)})
				checkNoPlaceFor(t, list, first-1)
				for n, place := range list {
					checkPlaceFor(t, list, place.Count, place, true)
					if n > 0 {
						checkPlaceFor(t, list, place.Count-1, list[n-1], true)
					}
					if step > 1 || n == len(list)-1 {
						checkPlaceFor(t, list, place.Count+1, place, true)
					}
				}
				for _, beyond := range []int{step, 2 * step, 1000, 1 << 32, math.MaxInt - count} {
					checkPlaceFor(t, list, count+beyond, last(list), true)
				}
			}
		}
	}
	many := manyPlaces(100000)
	for _, n := range []int{0, 1, 2, 49999, 50000, 50001, 99998, 99999} {
		checkPlaceFor(t, many, 3*n, many[n], true)
		checkPlaceFor(t, many, 3*n+2, many[n], true)
	}
	checkNoPlaceFor(t, many, -1)
}

func TestPlaceForOfCountsThatStandTwice(t *testing.T) {
	list := placesOf(0, 1, 0, 2, 4, 3, 4, 4, 4, 5, 9, 6)
	checkNoPlaceFor(t, list, -1)
	for i := range 4 {
		checkPlaceFor(t, list, i, impl.Place{Count: 0, At: 2}, true)
	}
	for i := 4; i < 9; i++ {
		checkPlaceFor(t, list, i, impl.Place{Count: 4, At: 5}, true)
	}
	checkPlaceFor(t, list, 9, impl.Place{Count: 9, At: 6}, true)
	// Both numbers stand twice, and the ones that are told are those of the last place.
	checkPlaceFor(t, placesOf(3, 9, 3, 9, 3, 8), 3, impl.Place{Count: 3, At: 8}, true)
}

// The last one is that of the list, not the one whose Count is the most.
func TestPlaceForOfCountsThatAreNotInOrder(t *testing.T) {
	cases := []struct {
		list []impl.Place
		i    int
		want impl.Place
	}{
		{placesOf(5, 1, 0, 2), 5, impl.Place{Count: 0, At: 2}},
		{placesOf(5, 1, 0, 2), 4, impl.Place{Count: 0, At: 2}},
		{placesOf(0, 1, 9, 2, 3, 3), 3, impl.Place{Count: 3, At: 3}},
		{placesOf(0, 1, 9, 2, 3, 3), 2, impl.Place{Count: 0, At: 1}},
		{placesOf(0, 1, 9, 2, 3, 3), 99, impl.Place{Count: 3, At: 3}},
		{placesOf(0, 1, 9, 2, 8, 3, 7, 4, 6, 5), 5, impl.Place{Count: 0, At: 1}},
		{placesOf(9, 1, 8, 2, 7, 3, 6, 4, 0, 5), 5, impl.Place{Count: 0, At: 5}},
		{placesOf(9, 1, 8, 2, 0, 3, 7, 4, 6, 5), 5, impl.Place{Count: 0, At: 3}},
		{placesOf(4, 1, 3, 2, 2, 3, 1, 4, 0, 5), 9, impl.Place{Count: 0, At: 5}},
		{placesOf(-1, 1, -9, 2, 0, 3), -1, impl.Place{Count: -9, At: 2}},
		{placesOf(math.MaxInt, 1, math.MinInt, 2, math.MaxInt, 3), 0, impl.Place{Count: math.MinInt, At: 2}},
	}
	for _, c := range cases {
		checkPlaceFor(t, c.list, c.i, c.want, true)
	}
	checkNoPlaceFor(t, placesOf(9, 1, 6, 2, 8, 3, 7, 4), 5)
}

func TestPlaceForOfAllShortLists(t *testing.T) {
	lists := [][]impl.Place{nil}
	for n := 0; n < len(lists) && len(lists[n]) < 5; n++ {
		for count := -1; count <= 3; count++ {
			lists = append(lists, append(slices.Clone(lists[n]), impl.Place{Count: count, At: 24 + len(lists[n])}))
		}
	}
	for _, list := range lists {
		for i := -2; i <= 4; i++ {
			checkPlaceForAsSlow(t, list, i)
		}
	}
}

func TestPlaceForOfWhateverList(t *testing.T) {
	pick := picks(13)
	for range 20000 {
		list := make([]impl.Place, pick(30))
		for n := range list {
			list[n] = impl.Place{Count: pick(40) - 10, At: pick(99)}
		}
		if pick(3) == 0 {
			slices.SortFunc(list, func(a, b impl.Place) int { return a.Count - b.Count })
		}
		for range 3 {
			checkPlaceForAsSlow(t, list, pick(44)-12)
		}
	}
}

func TestSeekingInKnownFiles(t *testing.T) {
	newer := slowSeal(headOf(2, 2, 7, 5), "123456789", "", "ab")
	checkListIn(t, newer, placesOf(0, 24, 2, 57), true)
	checkFound(t, newer, 7, found{"123456789", true, 1, 24})
	checkFound(t, newer, 8, found{"", true, 2, 45})
	checkFound(t, newer, 9, found{"ab", true, 1, 57})
	older := slowSeal(headOf(1, 3, 0, 0), "123456789", "", "ab", "c")
	checkListIn(t, older, placesOf(0, 24, 3, 50), true)
	checkFound(t, older, 0, found{"123456789", true, 1, 24})
	checkFound(t, older, 1, found{"", true, 2, 38})
	checkFound(t, older, 2, found{"ab", true, 3, 43})
	checkFound(t, older, 3, found{"c", true, 1, 50})
	for _, i := range []int{-1, 4, 7, 1000, impl.MaxNumber, math.MaxInt, math.MinInt} {
		checkFound(t, older, i, foundNowhere)
	}
	for _, i := range []int{-1, 0, 1, 2, 6, 10, 11, 1000, impl.MaxNumber, math.MaxInt, math.MinInt} {
		checkFound(t, newer, i, foundNowhere)
	}
}

func TestRecordsAreFoundByTheListAsByGoingThroughAll(t *testing.T) {
	for _, h := range append(scanHeads(), sealedHeads()...) {
		for _, records := range append(scanRows()[:len(scanRows())-1], sealedRows()...) {
			checkSealedSeek(t, h, records...)
		}
	}
	for _, version := range bothForms {
		checkSealedSeek(t, headOf(version, 3, 7, 5), frameRecords()...)
	}
}

func TestSeekingInASealedFileWithoutRecords(t *testing.T) {
	for _, h := range rightHeads() {
		b := slowSeal(h)
		checkListIn(t, b, nil, true)
		for _, i := range []int{h.Base - 1, h.Base, h.Base + 1, 0, -1, math.MaxInt, math.MinInt} {
			checkFound(t, b, i, foundNowhere)
		}
	}
	for _, h := range sealedHeads() {
		checkSealedSeek(t, h)
	}
}

// Among them 1, and those that are above how many records there are.
func TestSeekingInFilesOfEachStride(t *testing.T) {
	for _, version := range bothForms {
		for stride := 1; stride <= 20; stride++ {
			for _, many := range []int{1, 2, stride - 1, stride, stride + 1, 2 * stride, 2*stride + 1} {
				for _, base := range []int{0, 7} {
					h := headOf(version, stride, base, 5)
					checkSealedSeek(t, h, manyRecords(many)...)
					list, _ := impl.ListIn(slowSeal(h, manyRecords(many)...))
					if len(list) != (many+stride-1)/stride {
						t.Errorf("the list of %d records has %d places, of a stride of %d", many, len(list), stride)
					}
				}
			}
		}
	}
}

// Just at a place of the list one frame is read, and one ahead of the next place as many as the stride.
func TestReadsForAtAPlaceAndAheadOfTheNext(t *testing.T) {
	for _, version := range bothForms {
		for _, base := range []int{0, 7, 123456789} {
			for _, stride := range []int{1, 2, 3, 20} {
				b := slowSeal(headOf(version, stride, base, 5), manyRecords(3*stride)...)
				for n := range 3 {
					checkReadsFor(t, b, base+n*stride, 1)
					checkReadsFor(t, b, base+(n+1)*stride-1, stride)
				}
				checkReadsFor(t, b, base-1, 0)
				checkReadsFor(t, b, base+3*stride, 0)
			}
		}
	}
}

func checkReadsFor(t *testing.T, b string, i, want int) {
	t.Helper()
	if got := impl.ReadsFor(b, i); got != want {
		t.Errorf("ReadsFor(%.200q, %d) = %d; want %d", b, i, got, want)
	}
}

func TestSeekingRecordsWithoutBytesAndOfMaxRecordBytes(t *testing.T) {
	most := strings.Repeat("r", 60)
	for _, h := range append(scanHeads(), sealedHeads()...) {
		checkSealedSeek(t, h, make([]string, 25)...)
		checkSealedSeek(t, h, most)
		checkSealedSeek(t, h, most, "", most, "", strings.Repeat("\xff", 60), strings.Repeat("\x00", 60))
	}
}

func TestSeekingInFilesOfThousandRecordsAndOneMore(t *testing.T) {
	records := manyRecords(1001)
	for _, version := range bothForms {
		for _, stride := range []int{1, 20} {
			h := headOf(version, stride, 7, 5)
			b := slowSeal(h, records[:1000]...)
			checkSeek(t, b)
			checkFound(t, b, 1006, found{records[999], true, 999%stride + 1, scanOf(h, true, records...).Offsets[999]})
			checkFound(t, b, 1007, foundNowhere)
			// One record more, and the file is not sealed, though its foot is right.
			more := footedFile(h, records...)
			checkSeek(t, more)
			checkUnsealedFound(t, more, 1007, scanOf(h, true, records...).Offsets[1000])
		}
	}
}

func TestSeekingNearMaxNumber(t *testing.T) {
	for _, version := range bothForms {
		for many := range 5 {
			h := headOf(version, 2, impl.MaxNumber-many, 5)
			checkSealedSeek(t, h, manyRecords(many)...)
			// The record of the place MaxNumber can be scanned, but not sealed.
			b := slowFrames(h, manyRecords(many+1))
			checkSeek(t, b)
			checkUnsealedFound(t, b, impl.MaxNumber, last(impl.PlacesOf(1, scanOf(h, false, manyRecords(many+1)...).Offsets)).At)
			checkUnsealedFound(t, b, impl.MaxNumber+1, -1)
		}
	}
}

func TestSeekingInOpenFiles(t *testing.T) {
	for _, h := range append(scanHeads(), sealedHeads()...) {
		for _, records := range append(scanRows()[:len(scanRows())-1], sealedRows()...) {
			place := h.Base + len(records)
			offsets := scanOf(h, false, records...).Offsets
			for _, behind := range []string{"", "\x00", slowMark(h.Version, place), slowMark(h.Version, place) + "x", slowFrame(3-h.Version, place, "ab"), slowFrame(2, place+1, "ab"), strings.Repeat("\xff", 40)} {
				b := slowFile(h, records...) + behind
				checkListIn(t, b, nil, false)
				for count, offset := range offsets {
					checkUnsealedFound(t, b, h.Base+count, offset)
				}
				checkUnsealedFound(t, b, h.Base-1, -1)
				checkUnsealedFound(t, b, place, -1)
				checkSeek(t, b)
			}
		}
	}
	for _, h := range rightHeads() {
		checkListIn(t, slowHeadText(h), nil, false)
		checkUnsealedFound(t, slowHeadText(h), h.Base, -1)
	}
}

func TestSeekingInASealedFileWithBytesBehindItsEnd(t *testing.T) {
	for _, h := range sealedHeads() {
		for _, records := range sealedRows() {
			b := slowSeal(h, records...)
			for _, behind := range []string{"\x00", "x", "\n", "IDX!", b, b[len(b)-20:], b[scanOf(h, true, records...).End:], slowFrame(h.Version, h.Base+len(records), "c")} {
				checkListIn(t, b+behind, nil, false)
				for count, offset := range scanOf(h, true, records...).Offsets {
					checkUnsealedFound(t, b+behind, h.Base+count, offset)
				}
				checkSeek(t, b+behind)
			}
		}
	}
}

func TestSeekingInTextsWithoutAHead(t *testing.T) {
	texts := []string{"", "S", "SEGM", "IDX!", impl.MarkOld, slowTrailer(24, 0, 1, 0), slowFoot(headOf(1, 1, 0, 0), nil, 24), strings.Repeat("\x00", 50), strings.Repeat("\xff", 58), strings.Repeat("IDX!", 30), allBytes()}
	for _, h := range sealedHeads() {
		b := slowSeal(h, "c", "", "ab")
		texts = append(texts, b[24:], b[:23], "x"+b)
		for at := range 24 {
			texts = append(texts, withByte(b, at, b[at]^1), b[:at]+b[24:])
		}
	}
	for _, b := range texts {
		checkListIn(t, b, nil, false)
		for _, i := range []int{0, 1, 5, 7, 8, 24, -1, 123456789, impl.MaxNumber, math.MaxInt, math.MinInt} {
			checkFound(t, b, i, foundNowhere)
		}
	}
}

// The sums stand, so that what the head tells is all that is wrong.
func TestSeekingInFilesWhoseHeadIsNotRight(t *testing.T) {
	for _, h := range wrongHeads() {
		head := slowHeadText(h)
		if _, ok := slowReadHead(head); ok {
			// The bytes have no room for what is wrong, and tell another head.
			continue
		}
		for _, version := range bothForms {
			b := head + footedFile(headOf(version, int(head[5]), h.Base, h.Link), "ab", "c")[24:]
			checkListIn(t, b, nil, false)
			for _, i := range []int{0, 1, h.Base, h.Base + 1, 24, -1, math.MaxInt, math.MinInt} {
				checkFound(t, b, i, foundNowhere)
			}
		}
	}
}

func TestSeekingInASealedFileThatIsCutOff(t *testing.T) {
	for _, h := range sealedHeads() {
		records := []string{"c", "", "ab", strings.Repeat("r", 60), "d"}
		b := slowSeal(h, records...)
		for cut := range len(b) {
			checkListIn(t, b[:cut], nil, false)
			checkSeek(t, b[:cut])
			// Whole frames are told as long as they are whole.
			offsets := append(scanOf(h, true, records...).Offsets, scanOf(h, true, records...).End)
			for count := range records {
				if offsets[count+1] <= cut {
					checkUnsealedFound(t, b[:cut], h.Base+count, offsets[count])
				} else {
					checkUnsealedFound(t, b[:cut], h.Base+count, -1)
				}
			}
		}
	}
}

func TestSeekingInASealedFileWithAByteChanged(t *testing.T) {
	for _, h := range []impl.Head{headOf(1, 1, 0, 0), headOf(2, 2, 7, 5)} {
		b := slowSeal(h, "c", "", "ab")
		for at := range b {
			for _, bits := range []byte{1, 2, 0x80, 0xff} {
				other := withByte(b, at, b[at]^bits)
				checkListIn(t, other, nil, false)
				checkSeek(t, other)
			}
		}
	}
}

// A foot whose sum stands, but whose list is another one, is not asked.
func TestSeekingByAListThatIsNotThatOfTheFrames(t *testing.T) {
	records := []string{"c", "", "ab"}
	for _, h := range sealedHeads() {
		scan := scanOf(h, true, records...)
		mark := slowMark(h.Version, h.Base+3)
		for _, list := range [][]impl.Place{nil, placesOf(0, 24), placesOf(1, 24), placesOf(0, 25), placesOf(0, scan.Offsets[1]), placesOf(1, scan.Offsets[1]), placesOf(0, 24, 1, scan.Offsets[2]), placesOf(0, 0, 0, 0), slowPlacesOf(3-h.Stride, scan.Offsets)} {
			if slices.Equal(list, slowPlacesOf(h.Stride, scan.Offsets)) {
				continue
			}
			b := withFoot(h, records, mark, slowPlacesText(list), scan.End, 3, h.Stride)
			checkListIn(t, b, nil, false)
			for count, offset := range scan.Offsets {
				checkUnsealedFound(t, b, h.Base+count, offset)
			}
		}
	}
}

func TestSeekingWhatLooksLikeFramesAndMarks(t *testing.T) {
	for _, h := range append(scanHeads(), sealedHeads()...) {
		records := []string{slowMark(2, h.Base), slowMark(1, 0), slowFrame(h.Version, h.Base+1, "in"), slowFrame(h.Version, h.Base+3, "in"), "IDX!", slowTrailer(24, 3, h.Stride, 0), slowMark(2, h.Base+7)}
		checkSealedSeek(t, h, records...)
	}
}

// Half of the files are sealed, and then cut, changed or followed by something else.
func TestSeekingInWhateverFile(t *testing.T) {
	pick := picks(1300)
	for range 3000 {
		h := sealedHeads()[pick(5)]
		h.Stride = 1 + pick(4)
		b := slowFile(h, manyRecords(pick(8))...)
		if pick(3) > 0 {
			b = slowSeal(h, manyRecords(pick(8))...)
		}
		switch pick(5) {
		case 0:
			b = b[:pick(len(b)+1)]
		case 1:
			at := pick(len(b))
			b = withByte(b, at, byte(pick(256)))
		case 2:
			b += []string{"\x00", "IDX!", slowMark(h.Version, h.Base+2)}[pick(3)]
		}
		checkSeek(t, b)
	}
}

func TestListsOfFilesAreNewMemory(t *testing.T) {
	for _, h := range sealedHeads() {
		records := manyRecords(45)
		b := slowSeal(h, records...)
		want := slowPlacesOf(h.Stride, scanOf(h, true, records...).Offsets)
		for range 2 {
			list, _ := impl.ListIn(b)
			if !slices.Equal(list, want) {
				t.Fatalf("ListIn(%.200q) = %v", b, list)
			}
			list[0] = impl.Place{Count: -1, At: -1}
			_ = append(list[:1], impl.Place{}, impl.Place{})
		}
		checkFound(t, b, h.Base, found{records[0], true, 1, 24})
	}
	room := manyPlaces(9)
	for i := -1; i < 30; i++ {
		impl.PlaceFor(room[:5], i)
	}
	if !slices.Equal(room, manyPlaces(9)) {
		t.Errorf("PlaceFor leaves %v", room)
	}
}
