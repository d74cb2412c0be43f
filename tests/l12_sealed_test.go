package tests

import (
	"math"
	"slices"
	"strings"
	"testing"

	"loop.example/g00971/impl"
)

// canSeal has each limit told in numbers, and is asked ahead of the slow ways, which write whatever there is.
func canSeal(h impl.Head, records []string) bool {
	for _, record := range records {
		if len(record) > 60 {
			return false
		}
	}
	right := (h.Version == 1 || h.Version == 2) && h.Stride >= 1 && h.Stride <= 20 && h.Link >= 0 && h.Link <= maxLink
	return right && h.Base >= 0 && h.Base <= 1000000000-len(records) && len(records) <= 1000
}

// slowFrames is slowFile for many records, too.
func slowFrames(h impl.Head, records []string) string {
	var b strings.Builder
	b.WriteString(slowHeadText(h))
	for i, record := range records {
		b.WriteString(slowFrame(h.Version, h.Base+i, record))
	}
	return b.String()
}

// footedFile has the foot of its frames, however many there are, and whatever they have.
func footedFile(h impl.Head, records ...string) string {
	scan := scanOf(h, true, records...)
	return slowFrames(h, records) + slowFoot(h, scan.Offsets, scan.End)
}

func slowSeal(h impl.Head, records ...string) string {
	if !canSeal(h, records) {
		return ""
	}
	return footedFile(h, records...)
}

// slowReadSealed takes the foot from behind the frames, where the program writes all anew.
func slowReadSealed(b string) (impl.Head, []string, bool) {
	scan := slowScan(b)
	if !scan.Ok || !scan.Marked || len(scan.Records) > 1000 || b[scan.End:] != slowFoot(scan.Head, scan.Offsets, scan.End) {
		return impl.Head{}, nil, false
	}
	return scan.Head, scan.Records, true
}

func slowResealed(b string, version int) string {
	scan := slowScan(b)
	if !scan.Ok {
		return ""
	}
	if version != 0 {
		scan.Head.Version = version
	}
	return slowSeal(scan.Head, scan.Records...)
}

// checkSealText asks both functions that write, and that they leave their argument as it is.
func checkSealText(t *testing.T, h impl.Head, records []string, want string) {
	t.Helper()
	kept := slices.Clone(records)
	if got := impl.SealText(h, records); got != want {
		t.Errorf("SealText(%v, %.200q) = %.200q; want %.200q", h, records, got, want)
	}
	if got := impl.SealedSize(h, records); got != len(want) {
		t.Errorf("SealedSize(%v, %.200q) = %d; want %d", h, records, got, len(want))
	}
	if !slices.Equal(records, kept) {
		t.Errorf("SealText of %v changes its records", h)
	}
}

// checkReadSealed asks every function that says whether a text is sealed, and as what.
func checkReadSealed(t *testing.T, b string, h impl.Head, records []string, ok bool) {
	t.Helper()
	gotHead, gotRecords, gotOk := impl.ReadSealed(b)
	if gotHead != h || !slices.Equal(gotRecords, records) || gotOk != ok {
		t.Errorf("ReadSealed(%.200q) = %v, %.200q, %v; want %v, %.200q, %v", b, gotHead, gotRecords, gotOk, h, records, ok)
	}
	if got := impl.SealedOk(b); got != ok {
		t.Errorf("SealedOk(%.200q) = %v", b, got)
	}
	if gotHead, gotOk := impl.HeadIn(b); gotHead != h || gotOk != ok {
		t.Errorf("HeadIn(%.200q) = %v, %v; want %v, %v", b, gotHead, gotOk, h, ok)
	}
	for version := -1; version <= 4; version++ {
		checkSealedAs(t, b, version, ok && version == h.Version)
	}
}

func checkSealedAs(t *testing.T, b string, version int, want bool) {
	t.Helper()
	if got := impl.SealedAs(b, version); got != want {
		t.Errorf("SealedAs(%.200q, %d) = %v", b, version, got)
	}
}

func checkNotSealed(t *testing.T, b string) {
	t.Helper()
	checkReadSealed(t, b, impl.Head{}, nil, false)
}

func checkResealed(t *testing.T, b string, version int, want string) {
	t.Helper()
	if got := impl.Resealed(b, version); got != want {
		t.Errorf("Resealed(%.200q, %d) = %.200q; want %.200q", b, version, got, want)
	}
}

// checkEachResealed asks for the file's own version, for both, and for those that are none.
func checkEachResealed(t *testing.T, b string, h impl.Head, records ...string) {
	t.Helper()
	checkResealed(t, b, 0, slowSeal(h, records...))
	for _, version := range bothForms {
		h.Version = version
		checkResealed(t, b, version, slowSeal(h, records...))
	}
	for _, version := range wrongVersions {
		if version != 0 {
			checkResealed(t, b, version, "")
		}
	}
}

func checkNoneResealed(t *testing.T, b string) {
	t.Helper()
	for _, version := range append([]int{0, 1, 2}, wrongVersions...) {
		checkResealed(t, b, version, "")
	}
}

// checkSealed is for what can be sealed: it is written, read back, and sealed anew.
func checkSealed(t *testing.T, h impl.Head, records ...string) {
	t.Helper()
	b := slowSeal(h, records...)
	if b == "" {
		t.Errorf("%v with %.200q is not to be sealed", h, records)
	}
	checkSealText(t, h, records, b)
	checkReadSealed(t, b, h, records, true)
	checkEachResealed(t, b, h, records...)
}

// checkUnsealable is for what cannot be sealed.
func checkUnsealable(t *testing.T, h impl.Head, records ...string) {
	t.Helper()
	if slowSeal(h, records...) != "" {
		t.Errorf("%v with %.200q is to be sealed", h, records)
	}
	checkSealText(t, h, records, "")
}

func checkAsSlow(t *testing.T, b string) {
	t.Helper()
	h, records, ok := slowReadSealed(b)
	checkReadSealed(t, b, h, records, ok)
	for version := -1; version <= 3; version++ {
		checkResealed(t, b, version, slowResealed(b, version))
	}
}

func manyRecords(many int) []string {
	var records []string
	for i := range many {
		records = append(records, strings.Repeat(string(rune('a'+i%26)), i%7)+impl.Decimal(i%100))
	}
	return records
}

// Some sealed files of both forms, the first ones without records.
func sealedHeads() []impl.Head {
	return []impl.Head{headOf(1, 1, 0, 0), headOf(2, 1, 0, 0), headOf(1, 2, 7, 5), headOf(2, 2, 7, 5), headOf(2, 20, 123456789, maxLink)}
}

func sealedRows() [][]string {
	return [][]string{nil, {""}, {"ab"}, {"c", "", "ab", "defg", ""}}
}

func TestKnownSealedFiles(t *testing.T) {
	older := "SEGM\x01\x01\x00\x00\x00\x00\x00\x00\x00\x00\x00\x00\x00\x00\x00\x00"
	older += fix32(castagnoli(older)) + "\x01a" + fix32(castagnoli("a"))
	foot := "\xff\xff\xff\xff\x0f" + "\x01\x00\x18" + "\x1e\x00\x00\x00\x01\x00\x00\x00\x01\x00\x00\x00"
	older += foot + fix32(castagnoli(foot)) + "IDX!"
	if len(older) != 58 {
		t.Errorf("the older file has %d bytes", len(older))
	}
	checkSealText(t, headOf(1, 1, 0, 0), []string{"a"}, older)
	checkReadSealed(t, older, headOf(1, 1, 0, 0), []string{"a"}, true)

	newer := "SEGM\x02\x02\x00\x00\x07\x00\x00\x00\x00\x00\x00\x00\x05\x00\x00\x00"
	newer += fix32(castagnoli(newer))
	newer += "\x09\x00\x00\x00" + fix32(castagnoli("\x07\x00\x00\x00\x00\x00\x00\x00\x09\x00\x00\x00")) + "123456789\x83\x92\x06\xe3"
	newer += "\x00\x00\x00\x00" + fix32(castagnoli("\x08\x00\x00\x00\x00\x00\x00\x00\x00\x00\x00\x00")) + "\x00\x00\x00\x00"
	newer += "\x02\x00\x00\x00" + fix32(castagnoli("\x09\x00\x00\x00\x00\x00\x00\x00\x02\x00\x00\x00")) + "ab" + fix32(castagnoli("ab"))
	foot = "\xff\xff\xff\xff" + fix32(castagnoli("\x0a\x00\x00\x00\x00\x00\x00\x00\xff\xff\xff\xff"))
	foot += "\x02\x00\x18\x02\x21" + "\x47\x00\x00\x00\x03\x00\x00\x00\x02\x00\x00\x00"
	newer += foot + fix32(castagnoli(foot)) + "IDX!"
	checkSealText(t, headOf(2, 2, 7, 5), []string{"123456789", "", "ab"}, newer)
	checkReadSealed(t, newer, headOf(2, 2, 7, 5), []string{"123456789", "", "ab"}, true)
}

func TestASealedFileWithoutRecords(t *testing.T) {
	foot := "\xff\xff\xff\xff\x0f" + "\x00" + "\x18\x00\x00\x00\x00\x00\x00\x00\x03\x00\x00\x00"
	b := slowHeadText(headOf(1, 3, 7, 5)) + foot + fix32(castagnoli(foot)) + "IDX!"
	checkSealText(t, headOf(1, 3, 7, 5), nil, b)
	checkSealText(t, headOf(1, 3, 7, 5), []string{}, b)
	for _, h := range rightHeads() {
		checkSealed(t, h)
		if got, want := impl.SealedSize(h, nil), map[int]int{1: 50, 2: 53}[h.Version]; got != want {
			t.Errorf("SealedSize(%v, nil) = %d; want %d", h, got, want)
		}
	}
}

func TestHeadAndRecordsComeBackFromASealedFile(t *testing.T) {
	for _, h := range append(scanHeads(), sealedHeads()...) {
		for _, records := range append(scanRows(), sealedRows()...) {
			checkSealed(t, h, records...)
		}
	}
	for _, h := range rightHeads() {
		// Behind the base there must be places for as many.
		if h.Base <= impl.MaxNumber-2 {
			checkSealed(t, h, "ab", "")
		}
	}
}

func TestSealedFilesOfEachStride(t *testing.T) {
	for _, version := range bothForms {
		for stride := 1; stride <= 20; stride++ {
			for _, many := range []int{0, 1, 2, stride - 1, stride, stride + 1, 2 * stride, 2*stride + 1, 45} {
				checkSealed(t, headOf(version, stride, 7, 5), manyRecords(many)...)
			}
		}
	}
}

func TestSealedRecordsWithoutBytes(t *testing.T) {
	for _, h := range scanHeads() {
		for many := range 30 {
			checkSealed(t, h, make([]string, many)...)
		}
	}
}

func TestSealedRecordsOfMaxRecordBytesAndMore(t *testing.T) {
	for _, h := range scanHeads() {
		for _, b := range []string{"r", "\x00", "\xff"} {
			most := strings.Repeat(b, 60)
			checkSealed(t, h, most)
			checkSealed(t, h, most, "", most)
			checkUnsealable(t, h, most+b)
		}
		for _, long := range longRecords() {
			for _, records := range [][]string{{long}, {long, "ab"}, {"ab", long}, {"ab", long, "c"}, {long, long}} {
				checkUnsealable(t, h, records...)
			}
		}
		records := manyRecords(1000)
		records[999] = strings.Repeat("l", 61)
		checkUnsealable(t, h, records...)
	}
}

// What is written as if longer records could be sealed is none.
func TestFilesWithLongRecordsAreNotSealed(t *testing.T) {
	for _, h := range scanHeads() {
		for _, long := range longRecords() {
			if len(long) < 1000 {
				for _, records := range [][]string{{long}, {"ab", long}, {"ab", long, "c"}} {
					checkNotSealed(t, footedFile(h, records...))
				}
				checkEachResealed(t, footedFile(h, "ab", long, "c"), h, "ab")
			}
		}
	}
}

func TestThousandRecordsAndOneMore(t *testing.T) {
	for _, h := range scanHeads() {
		records := manyRecords(1001)
		checkSealed(t, h, records[:999]...)
		checkSealed(t, h, records[:1000]...)
		checkUnsealable(t, h, records...)
		checkNotSealed(t, footedFile(h, records...))
		checkNoneResealed(t, footedFile(h, records...))
		checkNoneResealed(t, slowFrames(h, records))
		checkEachResealed(t, slowFrames(h, records[:1000]), h, records[:1000]...)
		checkEachResealed(t, slowFrames(h, records[:1000])+"\x01", h, records[:1000]...)
	}
	for _, many := range []int{1002, 2000, 5000, 1 << 16} {
		for _, version := range bothForms {
			checkSealText(t, headOf(version, 20, 0, 0), make([]string, many), "")
		}
	}
}

func TestHeadsThatAreNotRightAreNotSealed(t *testing.T) {
	for _, h := range wrongHeads() {
		for _, records := range [][]string{nil, {""}, {"ab", "c"}, manyRecords(1000), manyRecords(1001), {strings.Repeat("l", 61)}} {
			checkUnsealable(t, h, records...)
		}
	}
}

// The sums stand, so that what the head tells is all that is wrong.
func TestFilesWhoseHeadIsNotRightAreNotSealed(t *testing.T) {
	for _, h := range wrongHeads() {
		head := slowHeadText(h)
		if _, ok := slowReadHead(head); ok {
			// The bytes have no room for what is wrong, and tell another head.
			continue
		}
		for _, version := range bothForms {
			told := headOf(version, int(head[5]), h.Base, h.Link)
			for _, records := range [][]string{nil, {"ab", "c"}} {
				b := head + footedFile(told, records...)[24:]
				checkNotSealed(t, b)
				checkNoneResealed(t, b)
			}
		}
	}
}

func TestABaseFromWhichRecordsComeToMaxNumberAndOneMore(t *testing.T) {
	records := manyRecords(1000)
	for _, version := range bothForms {
		for _, many := range []int{0, 1, 2, 3, 20, 21, 999, 1000} {
			h := headOf(version, 3, impl.MaxNumber-many, 5)
			checkSealed(t, h, records[:many]...)
			if many < 1000 {
				checkUnsealable(t, h, records[:many+1]...)
				checkNotSealed(t, footedFile(h, records[:many+1]...))
				// The record of the place MaxNumber is scanned, but behind it there is no mark.
				checkNoneResealed(t, slowFrames(h, records[:many+1]))
				checkEachResealed(t, slowFrames(h, records[:many]), h, records[:many]...)
			}
			checkUnsealable(t, h, manyRecords(1001)...)
			checkUnsealable(t, headOf(version, 3, impl.MaxNumber+1, 5), records[:many]...)
			checkUnsealable(t, headOf(version, 3, math.MaxInt, 5), records[:many]...)
			checkUnsealable(t, headOf(version, 3, math.MaxInt-many, 5), records[:many]...)
		}
	}
}

func TestASealedFileWithBytesBehindItsEnd(t *testing.T) {
	for _, h := range sealedHeads() {
		for _, records := range sealedRows() {
			b := slowSeal(h, records...)
			for i := range 256 {
				checkNotSealed(t, b+string([]byte{byte(i)}))
			}
			scan := scanOf(h, true, records...)
			for _, behind := range []string{"IDX!", b, b[len(b)-20:], b[scan.End:], slowFrame(h.Version, h.Base+len(records), "c"), "\n", strings.Repeat("\x00", 500), "a newer text"} {
				checkNotSealed(t, b+behind)
				checkNotSealed(t, behind+b)
				checkEachResealed(t, b+behind, h, records...)
			}
		}
	}
}

// The trailer and the sum stand at the end, but between them and the places there is something else.
func TestASealedFileWithBytesBetweenItsParts(t *testing.T) {
	for _, h := range sealedHeads() {
		for _, records := range sealedRows() {
			b := slowSeal(h, records...)
			end := scanOf(h, true, records...).End
			for _, between := range []string{"\x00", "\x01", "\xff", "IDX!", "ab", b[end : len(b)-20]} {
				for at := range len(b) {
					checkNotSealed(t, b[:at]+between+b[at:])
				}
				summed := b[end:len(b)-20] + between + b[len(b)-20:len(b)-8]
				checkNotSealed(t, b[:end]+summed+fix32(castagnoli(summed))+"IDX!")
			}
		}
	}
}

func TestASealedFileThatIsCutOff(t *testing.T) {
	for _, h := range sealedHeads() {
		for _, records := range sealedRows() {
			b := slowSeal(h, records...)
			for cut := range len(b) {
				checkNotSealed(t, b[:cut])
				checkAsSlow(t, b[:cut])
				if cut > 0 {
					checkNotSealed(t, b[cut:])
				}
				for _, many := range []int{1, 2, 5, 20} {
					if cut+many <= len(b) {
						checkNotSealed(t, b[:cut]+b[cut+many:])
					}
				}
			}
		}
	}
}

func TestASealedFileWithAnyByteChanged(t *testing.T) {
	for _, h := range []impl.Head{headOf(1, 1, 0, 0), headOf(2, 2, 7, 5)} {
		for _, records := range [][]string{nil, {"ab", "", "c"}} {
			b := slowSeal(h, records...)
			for at := range b {
				for i := range 256 {
					if byte(i) != b[at] {
						checkNotSealed(t, withByte(b, at, byte(i)))
					}
				}
			}
		}
	}
}

func TestASealedFileWithAnyOneBitTurned(t *testing.T) {
	for _, h := range append(scanHeads(), sealedHeads()...) {
		for _, records := range append(sealedRows(), manyRecords(25), []string{impl.MarkOld, slowMark(2, h.Base+1), "IDX!"}) {
			b := slowSeal(h, records...)
			for at := range 8 * len(b) {
				checkNotSealed(t, turned(b, at, 1))
			}
		}
	}
}

func TestBitsOfASealedFileTurnedWithin32InARow(t *testing.T) {
	pick := picks(12)
	for _, h := range sealedHeads() {
		b := slowSeal(h, "c", "", "ab")
		for at := range 8 * len(b) {
			patterns := []uint32{3, 0x80000001, math.MaxUint32}
			for range 10 {
				patterns = append(patterns, uint32(pick(1<<16)<<16|pick(1<<16)|1))
			}
			for _, bits := range patterns {
				checkNotSealed(t, turned(b, at, bits))
			}
		}
	}
}

// sealParts cuts a sealed file into its head, its frames, its mark, its places, its trailer up to the sum, the sum, and what is last.
func sealParts(h impl.Head, records ...string) []string {
	b := slowSeal(h, records...)
	end := scanOf(h, true, records...).End
	var parts []string
	from := 0
	for _, to := range []int{24, end, end + len(slowMark(h.Version, 0)), len(b) - 20, len(b) - 8, len(b) - 4, len(b)} {
		parts = append(parts, b[from:to])
		from = to
	}
	return parts
}

func TestOnePartOfAnotherSealedFile(t *testing.T) {
	for _, h := range sealedHeads() {
		parts := sealParts(h, "c", "", "ab")
		for _, other := range []impl.Head{h, headOf(3-h.Version, h.Stride, h.Base, h.Link), headOf(h.Version, h.Stride%20+1, h.Base, h.Link), headOf(h.Version, h.Stride, h.Base+1, h.Link), headOf(h.Version, h.Stride, h.Base, h.Link/2+1)} {
			for _, records := range [][]string{nil, {"c"}, {"c", ""}, {"c", "", "a"}, {"c", "", "ba"}, {"c", "", "ab"}, {"c", "", "ab", "d"}, {"cd", "", "ab"}, {"", "c", "ab"}} {
				for i, part := range sealParts(other, records...) {
					mixed := slices.Clone(parts)
					mixed[i] = part
					checkAsSlow(t, strings.Join(mixed, ""))
					if i > 1 && part != parts[i] {
						checkNotSealed(t, strings.Join(mixed, ""))
						checkEachResealed(t, strings.Join(mixed, ""), h, "c", "", "ab")
					}
				}
			}
		}
	}
}

// withFoot lays parts of a foot behind the frames, with the sum that they have.
func withFoot(h impl.Head, records []string, mark, places string, end, count, stride int) string {
	summed := mark + places + fix32(end) + fix32(count) + fix32(stride)
	return slowFrames(h, records) + summed + fix32(castagnoli(summed)) + "IDX!"
}

func TestAFootThatTellsSomethingElseThoughItsSumStands(t *testing.T) {
	records := []string{"c", "", "ab"}
	for _, h := range sealedHeads() {
		scan := scanOf(h, true, records...)
		mark, list, end := slowMark(h.Version, h.Base+3), slowPlacesOf(h.Stride, scan.Offsets), scan.End
		places := slowPlacesText(list)
		if withFoot(h, records, mark, places, end, 3, h.Stride) != slowSeal(h, records...) {
			t.Fatalf("the foot of %v is not built right", h)
		}
		for _, more := range []int{-1, 1, -3, 3, 20, 1 << 16, 1<<31 - 1} {
			checkNotSealed(t, withFoot(h, records, mark, places, end+more, 3, h.Stride))
			checkNotSealed(t, withFoot(h, records, mark, places, end, 3+more, h.Stride))
			checkNotSealed(t, withFoot(h, records, mark, places, end, 3, h.Stride+more))
			checkNotSealed(t, withFoot(h, records, slowMark(2, h.Base+3+more), places, end, 3, h.Stride))
		}
		checkNotSealed(t, withFoot(h, records, "", places, end, 3, h.Stride))
		checkNotSealed(t, withFoot(h, records, mark+mark, places, end, 3, h.Stride))
		checkNotSealed(t, withFoot(h, records, slowMark(3-h.Version, h.Base+3), places, end, 3, h.Stride))
		for _, other := range [][]impl.Place{nil, list[:len(list)-1], append(slices.Clone(list), impl.Place{Count: 3, At: end}), slowPlacesOf(h.Stride+2, append([]int{24}, scan.Offsets...)), placesOf(0, 25), placesOf(1, 24), slowPlacesOf(h.Stride, []int{0, 6, 11})} {
			if !slices.Equal(other, list) {
				checkNotSealed(t, withFoot(h, records, mark, slowPlacesText(other), end, 3, h.Stride))
			}
		}
	}
}

func TestPlacesOfASealedFileThatAreWrittenInAnotherWay(t *testing.T) {
	for _, h := range sealedHeads() {
		records := []string{"ab"}
		end := scanOf(h, true, records...).End
		mark := slowMark(h.Version, h.Base+1)
		for _, places := range []string{"", "\x00", "\x01", "\x01\x00", "\x81\x00\x00\x18", "\x01\x80\x00\x18", "\x01\x00\x98\x00", "\x01\x00\x18\x00", "\x02\x00\x18\x00\x00", "\x01\x00\x18\x01\x00\x18"} {
			checkNotSealed(t, withFoot(h, records, mark, places, end, 1, h.Stride))
		}
		checkReadSealed(t, withFoot(h, records, mark, "\x01\x00\x18", end, 1, h.Stride), h, records, true)
	}
}

func TestASealedFileWhoseFramesAreOfTheOtherForm(t *testing.T) {
	for _, h := range sealedHeads() {
		for _, records := range [][]string{{""}, {"ab"}, {"c", "", "ab"}} {
			other := headOf(3-h.Version, h.Stride, h.Base, h.Link)
			frames := slowFrames(other, records)[24:]
			scan := scanOf(other, true, records...)
			for _, version := range bothForms {
				told := headOf(version, h.Stride, h.Base, h.Link)
				b := slowHeadText(h) + frames + slowFoot(told, scan.Offsets, scan.End)
				checkAsSlow(t, b)
				checkNotSealed(t, b)
			}
			// One frame of the other form alone, in the middle, with a foot that fits.
			mixed := slowFrames(h, records) + slowFrame(3-h.Version, h.Base+len(records), "more")
			offsets := append(slices.Clone(scanOf(h, true, records...).Offsets), scanOf(h, true, records...).End)
			checkNotSealed(t, mixed+slowFoot(h, offsets, len(mixed)))
			checkEachResealed(t, mixed+slowFoot(h, offsets, len(mixed)), h, records...)
		}
	}
}

// Of the newer form each frame tells its place; of the older one none does, and any base fits.
func TestFramesOfOtherPlacesInASealedFile(t *testing.T) {
	records := []string{"c", "", "ab"}
	for _, h := range sealedHeads() {
		for _, more := range []int{1, 2, 256} {
			other := headOf(h.Version, h.Stride, h.Base+more, h.Link)
			b := slowHeadText(other) + slowSeal(h, records...)[24:]
			if h.Version == impl.VsOld {
				checkReadSealed(t, b, other, records, true)
			} else {
				checkNotSealed(t, b)
			}
		}
	}
}

func TestAnOpenFileIsNotSealed(t *testing.T) {
	for _, h := range append(scanHeads(), sealedHeads()...) {
		for _, records := range append(scanRows(), sealedRows()...) {
			b := slowFile(h, records...)
			checkNotSealed(t, b)
			checkNotSealed(t, b+slowMark(h.Version, h.Base+len(records)))
			checkEachResealed(t, b, h, records...)
		}
	}
	for _, h := range rightHeads() {
		checkNotSealed(t, slowHeadText(h))
		checkResealed(t, slowHeadText(h), 0, slowSeal(h))
	}
}

func TestFilesWithoutAHeadAreNotSealed(t *testing.T) {
	for _, b := range []string{"", "S", "SEGM", "IDX!", impl.MarkOld, slowTrailer(24, 0, 1, 0), slowFoot(headOf(1, 1, 0, 0), nil, 24), strings.Repeat("\x00", 50), strings.Repeat("\xff", 58), strings.Repeat("IDX!", 30), allBytes()} {
		checkNotSealed(t, b)
		checkNoneResealed(t, b)
	}
	for _, h := range sealedHeads() {
		for _, records := range sealedRows() {
			b := slowSeal(h, records...)
			checkNotSealed(t, b[24:])
			checkNoneResealed(t, b[24:])
			for at := range 24 {
				other := withByte(b, at, b[at]^1)
				checkNotSealed(t, other)
				checkNoneResealed(t, other)
				checkNoneResealed(t, b[:at]+b[24:])
			}
		}
	}
}

func TestResealedOfAFileWithBytesBehindItsFrames(t *testing.T) {
	for _, h := range append(scanHeads(), sealedHeads()...) {
		for _, records := range sealedRows() {
			place := h.Base + len(records)
			next := slowFrame(h.Version, place, "next")
			mark := slowMark(h.Version, place)
			for _, behind := range []string{"\x00", "x", next[:len(next)-1], withByte(next, len(next)-1, next[len(next)-1]^1), mark, mark + "x", mark + next, slowMark(3-h.Version, place), strings.Repeat("\xff", 40), slowTrailer(24, 0, 1, 0), slowSeal(h, records...)} {
				b := slowFile(h, records...) + behind
				checkNotSealed(t, b)
				checkEachResealed(t, b, h, records...)
			}
			checkEachResealed(t, slowFile(h, records...)+next, h, append(slices.Clone(records), "next")...)
		}
	}
}

// By the program's own words alone: who seals twice has sealed once, and the older form comes back from the newer one.
func TestResealedOfASealedFile(t *testing.T) {
	for _, h := range append(scanHeads(), sealedHeads()...) {
		for _, records := range append(scanRows(), sealedRows()...) {
			b := impl.SealText(h, records)
			other := impl.Resealed(b, 3-h.Version)
			if !impl.SealedAs(other, 3-h.Version) || impl.SealedAs(other, h.Version) || !impl.SealedAs(b, h.Version) {
				t.Errorf("the versions of %.200q and of %.200q are not told", b, other)
			}
			checkResealed(t, b, 0, b)
			checkResealed(t, b, h.Version, b)
			checkResealed(t, other, h.Version, b)
			checkResealed(t, other, 0, other)
			got, gotRecords, ok := impl.ReadSealed(other)
			if got != headOf(3-h.Version, h.Stride, h.Base, h.Link) || !slices.Equal(gotRecords, records) || !ok {
				t.Errorf("ReadSealed(%.200q) = %v, %.200q, %v", other, got, gotRecords, ok)
			}
			open := b[:impl.SizeScanned(b)]
			checkResealed(t, open, 0, b)
			checkResealed(t, open, 3-h.Version, other)
		}
	}
}

func TestSealedAsOfVersionsThatAreNone(t *testing.T) {
	for _, b := range []string{"", slowSeal(headOf(1, 1, 0, 0)), slowSeal(headOf(2, 3, 7, 5), "ab"), slowFile(headOf(2, 3, 7, 5), "ab"), slowSeal(headOf(1, 1, 0, 0), "ab") + "x"} {
		for _, version := range wrongVersions {
			checkSealedAs(t, b, version, false)
		}
	}
}

// What is read is the one head and the one row whose text it is, so that no two of them share a text.
func TestThereIsOneFormAlone(t *testing.T) {
	type sealed struct{ head, records string }
	seen := map[string]sealed{}
	rows := append(append(scanRows()[1:], sealedRows()...), []string{"a", "b"}, []string{"b", "a"}, []string{"a"}, []string{"a", ""}, []string{"", "a"}, []string{"\x01a"}, []string{"ab", ""})
	for _, version := range bothForms {
		for _, stride := range []int{1, 2, 3, 20} {
			for _, base := range []int{0, 1, 256} {
				for _, link := range []int{0, 1, maxLink} {
					for _, records := range rows {
						h := headOf(version, stride, base, link)
						text := impl.SealText(h, records)
						said := sealed{slowHeadText(h), strings.Join(records, "\x00\x01\x02") + impl.Decimal(len(records))}
						if other, isThere := seen[text]; isThere && other != said || text == "" {
							t.Errorf("%v and %.200q have a text that %q has", h, records, other)
						}
						seen[text] = said
					}
				}
			}
		}
	}
}

// A sealed file as the chapters ahead tell it.
func TestASealedFileIsScannedAndItsFootIsRead(t *testing.T) {
	for _, h := range append(scanHeads(), sealedHeads()...) {
		for _, records := range append(scanRows(), sealedRows()...) {
			b := impl.SealText(h, records)
			want := scanOf(h, true, records...)
			checkScan(t, b, want)
			foot := impl.TailOf(b)
			if foot != impl.FootText(h, want.Offsets, want.End) {
				t.Errorf("the foot of %.200q is %.200q", b, foot)
			}
			checkReadTrailer(t, b, [4]int{want.End, len(records), h.Stride, castagnoli(foot[:len(foot)-8])}, true)
			begin := want.End + len(slowMark(h.Version, 0))
			checkReadPlaces(t, b, begin, slowPlacesOf(h.Stride, want.Offsets), len(b)-20, true)
		}
	}
}

// Half of the files are sealed, and then cut, changed or followed by something else.
func TestWhateverIsSealed(t *testing.T) {
	pick := picks(1200)
	for range 4000 {
		h := sealedHeads()[pick(5)]
		records := manyRecords(pick(6))
		b := slowFile(h, records...)
		pieces := []string{"", slowMark(h.Version, h.Base+len(records)), slowMark(1, 0), slowFoot(h, nil, 24), slowTrailer(len(b), len(records), h.Stride, 0), "IDX!", "\x00"}
		if pick(3) > 0 {
			b = footedFile(h, records...)
		}
		b += pieces[pick(len(pieces))]
		switch pick(4) {
		case 0:
			b = b[:pick(len(b)+1)]
		case 1:
			at := pick(len(b))
			b = withByte(b, at, byte(pick(256)))
		}
		checkAsSlow(t, b)
		if gotHead, gotRecords, ok := impl.ReadSealed(b); ok && impl.SealText(gotHead, gotRecords) != b {
			t.Errorf("%.200q is read as %v and %.200q, which have another text", b, gotHead, gotRecords)
		}
	}
}

func TestRecordsOfASealedFileAreNewMemory(t *testing.T) {
	for _, h := range sealedHeads() {
		whole := []string{"c", "", "ab", "behind"}
		before := slices.Clone(whole)
		b := impl.SealText(h, whole[:3])
		impl.SealedSize(h, whole[:2])
		if !slices.Equal(whole, before) {
			t.Fatalf("SealText leaves %q", whole)
		}
		for range 2 {
			_, records, _ := impl.ReadSealed(b)
			if !slices.Equal(records, before[:3]) {
				t.Fatalf("ReadSealed(%q) has %q", b, records)
			}
			records[0] = "spoiled"
			_ = append(records[:1], "x", "y", "z")
		}
		checkReadSealed(t, b, h, before[:3], true)
	}
}
