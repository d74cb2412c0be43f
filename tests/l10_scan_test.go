package tests

import (
	"math"
	"slices"
	"strings"
	"testing"

	"loop.example/g00971/impl"
)

// slowFile has neither a mark nor anything else behind the last frame.
func slowFile(h impl.Head, records ...string) string {
	b := slowHeadText(h)
	for i, record := range records {
		b += slowFrame(h.Version, h.Base+i, record)
	}
	return b
}

// slowScan is built on the slow ways of heads, frames and marks alone.
func slowScan(b string) impl.Scan {
	h, ok := slowReadHead(b)
	if !ok {
		return impl.Scan{}
	}
	scan := impl.Scan{Ok: true, Head: h, End: 24}
	for {
		place := h.Base + len(scan.Records)
		if place <= 1000000000 && strings.HasPrefix(b[scan.End:], slowMark(h.Version, place)) {
			scan.Marked = true
			return scan
		}
		record, next, ok := slowReadFrame(h.Version, place, b, scan.End)
		if !ok {
			return scan
		}
		scan.Records = append(scan.Records, record)
		scan.Offsets = append(scan.Offsets, scan.End)
		scan.End = next
	}
}

// scanOf is what is wanted of a file with these records and no other ones.
func scanOf(h impl.Head, marked bool, records ...string) impl.Scan {
	scan := impl.Scan{Ok: true, Head: h, Records: records, End: 24, Marked: marked}
	for _, record := range records {
		scan.Offsets = append(scan.Offsets, scan.End)
		scan.End += len(slowFrame(h.Version, 0, record))
	}
	return scan
}

func sameScan(a, b impl.Scan) bool {
	return a.Ok == b.Ok && a.Head == b.Head && slices.Equal(a.Records, b.Records) && slices.Equal(a.Offsets, b.Offsets) && a.End == b.End && a.Marked == b.Marked
}

// checkScan asks every function of the chapter, of which the wanted scan tells the answers.
func checkScan(t *testing.T, b string, want impl.Scan) {
	t.Helper()
	if got := impl.ScanText(b); !sameScan(got, want) {
		t.Errorf("ScanText(%.200q) = %#v; want %#v", b, got, want)
	}
	if got := impl.RecordsIn(b); !slices.Equal(got, want.Records) {
		t.Errorf("RecordsIn(%.200q) = %.300q; want %.300q", b, got, want.Records)
	}
	link := want.Head.Link
	for _, record := range want.Records {
		link = slowLink(link, record)
	}
	if got := impl.LinkAfter(b); got != link {
		t.Errorf("LinkAfter(%.200q) = %d; want %d", b, got, link)
	}
	checkGoesOn(t, b, want.Head.Base, want.Head.Link, want.Ok)
	if got := impl.SizeScanned(b); got != want.End {
		t.Errorf("SizeScanned(%.200q) = %d; want %d", b, got, want.End)
	}
	if got := impl.TailOf(b); got != b[want.End:] {
		t.Errorf("TailOf(%.200q) = %.200q; want %.200q", b, got, b[want.End:])
	}
	if got := impl.OpenOk(b); got != (want.Ok && want.End == len(b)) {
		t.Errorf("OpenOk(%.200q) = %v", b, got)
	}
	checkBytesComeBack(t, b)
}

func checkNoScan(t *testing.T, b string) {
	t.Helper()
	checkScan(t, b, impl.Scan{})
}

func checkGoesOn(t *testing.T, b string, base, link int, want bool) {
	t.Helper()
	if got := impl.GoesOn(b, base, link); got != want {
		t.Errorf("GoesOn(%.200q, %d, %d) = %v", b, base, link, got)
	}
}

// checkBytesComeBack writes anew what is told, by the program's own words alone.
func checkBytesComeBack(t *testing.T, b string) {
	t.Helper()
	scan := impl.ScanText(b)
	text := impl.HeadText(scan.Head)
	for i, record := range scan.Records {
		if scan.Offsets[i] != len(text) {
			t.Errorf("the frame %d of %.200q begins at %d; told is %d", i, b, len(text), scan.Offsets[i])
		}
		text += impl.FrameText(scan.Head.Version, scan.Head.Base+i, record)
	}
	if len(text) != scan.End || text+impl.TailOf(b) != b {
		t.Errorf("%.200q comes back as %.200q up to %d, and behind it %.200q", b, text, scan.End, impl.TailOf(b))
	}
	if impl.OpenOk(b) != (scan.Ok && impl.TailOf(b) == "") {
		t.Errorf("OpenOk(%.200q) = %v; behind what is scanned is %.200q", b, impl.OpenOk(b), impl.TailOf(b))
	}
}

// Heads of both forms, of places at which many records follow.
func scanHeads() []impl.Head {
	return []impl.Head{headOf(1, 1, 0, 0), headOf(2, 1, 0, 0), headOf(1, 3, 7, 5), headOf(2, 3, 7, 5), headOf(1, 20, 255, maxLink), headOf(2, 20, 123456789, 0xe3069283)}
}

func scanRows() [][]string {
	return [][]string{nil, {""}, {"ab"}, {"", ""}, {"ab", "c"}, {"c", "", "ab"}, {impl.MarkOld, "SEGM", "IDX!"}, {slowFrame(1, 7, "in"), slowFrame(2, 7, "in"), slowMark(2, 7), slowMark(2, 8)}, {strings.Repeat("\xff", 60), strings.Repeat("\x00", 60), strings.Repeat("r", 59)}, frameRecords()}
}

func TestKnownScans(t *testing.T) {
	older := "SEGM\x01\x01\x00\x00\x00\x00\x00\x00\x00\x00\x00\x00\x00\x00\x00\x00"
	older += fix32(castagnoli(older)) + "\x09123456789\x83\x92\x06\xe3" + "\x00\x00\x00\x00\x00" + "\x02ab" + fix32(castagnoli("ab"))
	checkScan(t, older, impl.Scan{Ok: true, Head: headOf(1, 1, 0, 0), Records: []string{"123456789", "", "ab"}, Offsets: []int{24, 38, 43}, End: 50})
	checkScan(t, older+"\xff\xff\xff\xff\x0f", impl.Scan{Ok: true, Head: headOf(1, 1, 0, 0), Records: []string{"123456789", "", "ab"}, Offsets: []int{24, 38, 43}, End: 50, Marked: true})

	newer := "SEGM\x02\x03\x00\x00\x07\x00\x00\x00\x00\x00\x00\x00\x05\x00\x00\x00"
	newer += fix32(castagnoli(newer))
	newer += "\x09\x00\x00\x00" + fix32(castagnoli("\x07\x00\x00\x00\x00\x00\x00\x00\x09\x00\x00\x00")) + "123456789\x83\x92\x06\xe3"
	newer += "\x02\x00\x00\x00" + fix32(castagnoli("\x08\x00\x00\x00\x00\x00\x00\x00\x02\x00\x00\x00")) + "ab" + fix32(castagnoli("ab"))
	checkScan(t, newer, impl.Scan{Ok: true, Head: headOf(2, 3, 7, 5), Records: []string{"123456789", "ab"}, Offsets: []int{24, 45}, End: 59})
	mark := "\xff\xff\xff\xff" + fix32(castagnoli("\x09\x00\x00\x00\x00\x00\x00\x00\xff\xff\xff\xff"))
	checkScan(t, newer+mark, impl.Scan{Ok: true, Head: headOf(2, 3, 7, 5), Records: []string{"123456789", "ab"}, Offsets: []int{24, 45}, End: 59, Marked: true})
}

func TestRowsOfRecordsAreScanned(t *testing.T) {
	for _, h := range scanHeads() {
		for _, records := range scanRows() {
			b := slowFile(h, records...)
			mark := slowMark(h.Version, h.Base+len(records))
			checkScan(t, b, scanOf(h, false, records...))
			checkScan(t, b+mark, scanOf(h, true, records...))
			checkScan(t, b+mark+"a list, and a trailer", scanOf(h, true, records...))
			checkScan(t, b+mark+mark, scanOf(h, true, records...))
		}
	}
}

func TestTextsWithoutAHead(t *testing.T) {
	checkNoScan(t, "")
	for _, h := range scanHeads() {
		frames := slowFrame(h.Version, h.Base, "ab") + slowMark(h.Version, h.Base+1)
		head := slowHeadText(h)
		for cut := range len(head) {
			checkNoScan(t, head[:cut])
			checkNoScan(t, head[:cut]+frames)
			checkNoScan(t, head[cut+1:]+frames)
		}
		for at := range len(head) {
			for _, bits := range []byte{1, 0x80, 0xff} {
				checkNoScan(t, withByte(head, at, head[at]^bits)+frames)
			}
		}
		checkNoScan(t, frames)
		checkNoScan(t, "z"+head+frames)
		checkNoScan(t, frames+head+frames)
	}
	for _, b := range []string{"S", "SEGM", "IDX!", impl.MarkOld, slowMark(2, 0), slowFrame(1, 0, "ab"), slowFrame(2, 0, "ab"), strings.Repeat("\x00", 24), strings.Repeat("\xff", 300), allBytes()} {
		checkNoScan(t, b)
	}
}

// The sums of these heads stand, so that what they tell is all that is wrong.
func TestHeadsThatAreNotRightAreNotScanned(t *testing.T) {
	for _, h := range wrongHeads() {
		head := slowHeadText(h)
		if _, ok := slowReadHead(head); ok {
			// The bytes have no room for what is wrong, and tell another head.
			continue
		}
		checkNoScan(t, head)
		for _, version := range bothForms {
			checkNoScan(t, head+slowFrame(version, h.Base, "ab"))
			checkNoScan(t, head+slowMark(version, h.Base))
		}
		checkGoesOn(t, head, h.Base, h.Link, false)
	}
}

func TestAHeadAndNothingBehind(t *testing.T) {
	for _, h := range rightHeads() {
		b := impl.HeadText(h)
		checkScan(t, b, impl.Scan{Ok: true, Head: h, End: 24})
		if !impl.OpenOk(b) || impl.LinkAfter(b) != h.Link || impl.TailOf(b) != "" {
			t.Errorf("OpenOk, LinkAfter, TailOf of %q are %v, %d, %q", b, impl.OpenOk(b), impl.LinkAfter(b), impl.TailOf(b))
		}
	}
}

func TestAFileWithoutRecordsWithAMarkAndWithout(t *testing.T) {
	for _, h := range rightHeads() {
		b, mark := slowHeadText(h), slowMark(h.Version, h.Base)
		checkScan(t, b+mark, impl.Scan{Ok: true, Head: h, End: 24, Marked: true})
		checkScan(t, b+mark+slowFrame(h.Version, h.Base, "ab"), impl.Scan{Ok: true, Head: h, End: 24, Marked: true})
		checkScan(t, b+"\x00"+mark, impl.Scan{Ok: true, Head: h, End: 24})
		checkScan(t, b+mark[1:], impl.Scan{Ok: true, Head: h, End: 24})
		checkScan(t, b+mark[:len(mark)-1], impl.Scan{Ok: true, Head: h, End: 24})
		if impl.OpenOk(b + mark) {
			t.Errorf("OpenOk(%q) = true; a mark is behind the head", b+mark)
		}
	}
}

func TestWhatStandsBehindTheMarkIsNotScanned(t *testing.T) {
	for _, h := range scanHeads() {
		for _, records := range [][]string{nil, {"ab"}, {"ab", "c"}} {
			place := h.Base + len(records)
			b := slowFile(h, records...) + slowMark(h.Version, place)
			for _, behind := range []string{slowFrame(h.Version, place, "more"), slowFrame(h.Version, place+1, "more"), slowFrame(h.Version, place, "") + slowMark(h.Version, place+1), slowFile(h, records...)} {
				checkScan(t, b+behind, scanOf(h, true, records...))
			}
		}
	}
}

func TestAMarkBetweenFrames(t *testing.T) {
	for _, h := range scanHeads() {
		ahead := slowFile(h, "ab")
		behind := slowFrame(h.Version, h.Base+1, "c") + slowMark(h.Version, h.Base+2)
		for other := -2; other <= 4; other++ {
			mark := slowMark(h.Version, h.Base+other)
			marked := other == 1 || h.Version == impl.VsOld
			checkScan(t, ahead+mark+behind, scanOf(h, marked, "ab"))
			checkScan(t, ahead+mark, scanOf(h, marked, "ab"))
			checkScan(t, ahead+mark+slowMark(h.Version, h.Base+1), scanOf(h, marked, "ab"))
		}
		checkScan(t, ahead+slowMark(3-h.Version, h.Base+1), scanOf(h, false, "ab"))
		checkScan(t, ahead+behind, scanOf(h, true, "ab", "c"))
	}
}

func TestAMarkThatIsAlmostOneBehindTheLastFrame(t *testing.T) {
	for _, h := range []impl.Head{headOf(1, 1, 0, 0), headOf(2, 3, 7, 5)} {
		for _, records := range [][]string{nil, {"ab"}, {"ab", "", "c"}} {
			b := slowFile(h, records...)
			mark := slowMark(h.Version, h.Base+len(records))
			for at := range mark {
				for i := range 256 {
					other := b + withByte(mark, at, byte(i))
					if byte(i) == mark[at] {
						checkScan(t, other, scanOf(h, true, records...))
					} else {
						checkScan(t, other, slowScan(other))
						checkMarked(t, other, false)
					}
				}
				checkScan(t, b+mark[:at], scanOf(h, false, records...))
				checkScan(t, b+mark[:at]+mark[at+1:], scanOf(h, false, records...))
				checkScan(t, b+mark[:at]+mark, scanOf(h, at == 0, records...))
			}
		}
	}
}

func checkMarked(t *testing.T, b string, want bool) {
	t.Helper()
	if got := impl.ScanText(b).Marked; got != want {
		t.Errorf("Marked of %.200q is %v", b, got)
	}
}

func TestMarksInsideRecordsAreNone(t *testing.T) {
	for _, h := range scanHeads() {
		marks := []string{slowMark(1, 0), slowMark(2, h.Base), slowMark(2, h.Base+1), slowMark(2, h.Base+2), slowMark(2, h.Base) + slowMark(2, h.Base+1)}
		checkScan(t, slowFile(h, marks...), scanOf(h, false, marks...))
		for _, mark := range marks {
			checkScan(t, slowFile(h, mark), scanOf(h, false, mark))
			checkScan(t, slowFile(h, mark)+slowMark(h.Version, h.Base+1), scanOf(h, true, mark))
		}
	}
}

func TestAFileThatIsCutOff(t *testing.T) {
	records := []string{"ab", "", "c", strings.Repeat("r", 60), impl.MarkOld, "\x00\x00\x00\x00"}
	for _, h := range scanHeads() {
		whole := slowFile(h, records...) + slowMark(h.Version, h.Base+len(records)) + "foot"
		offsets := scanOf(h, true, records...).Offsets
		end := scanOf(h, true, records...).End
		for cut := range len(whole) + 1 {
			if cut < 24 {
				checkNoScan(t, whole[:cut])
				continue
			}
			many := 0
			for _, next := range append(slices.Clone(offsets[1:]), end) {
				if next <= cut {
					many++
				}
			}
			marked := cut >= end+len(slowMark(h.Version, 0))
			checkScan(t, whole[:cut], scanOf(h, marked, records[:many]...))
		}
	}
}

func TestAFileThatIsFollowedByOtherBytes(t *testing.T) {
	for _, h := range scanHeads() {
		for _, records := range [][]string{nil, {""}, {"ab", "c"}} {
			b := slowFile(h, records...)
			for i := range 256 {
				checkScan(t, b+string([]byte{byte(i)}), scanOf(h, false, records...))
			}
			for _, other := range []string{"SEGM", "IDX!", slowHeadText(h), slowFile(h, records...), strings.Repeat("\xff", 100), "\x01a\x00\x00\x00\x00", allBytes()[1:]} {
				checkScan(t, b+other, scanOf(h, false, records...))
			}
		}
	}
}

func TestFramesOfTheNewerFormOfAnotherPlaceEndTheScan(t *testing.T) {
	for _, h := range []impl.Head{headOf(2, 1, 0, 0), headOf(2, 3, 7, 5), headOf(2, 20, 123456789, maxLink)} {
		for other := -2; other <= 5; other++ {
			place := h.Base + 1 + other
			behind := slowFrame(2, place, "c") + slowFrame(2, place+1, "d") + slowMark(2, place+2)
			if other == 0 {
				checkScan(t, slowFile(h, "ab")+behind, scanOf(h, true, "ab", "c", "d"))
			} else {
				checkScan(t, slowFile(h, "ab")+behind, scanOf(h, false, "ab"))
			}
		}
		first := slowHeadText(h) + slowFrame(2, h.Base+1, "ab") + slowFrame(2, h.Base+1, "c")
		checkScan(t, first, scanOf(h, false))
		twice := slowFile(h, "ab") + slowFrame(2, h.Base, "ab")
		checkScan(t, twice, scanOf(h, false, "ab"))
		// Places are those among all records, not those in the file.
		if h.Base != 0 {
			checkScan(t, slowHeadText(h)+slowFrame(2, 0, "ab"), scanOf(h, false))
		}
	}
}

func TestFramesOfTheOlderFormTellNoPlace(t *testing.T) {
	h := headOf(1, 3, 7, 5)
	b := slowHeadText(h) + slowFrame(1, 0, "ab") + slowFrame(1, 0, "c") + slowFrame(1, 99, "ab")
	checkScan(t, b, scanOf(h, false, "ab", "c", "ab"))
	for _, base := range []int{0, 1, 99, impl.MaxNumber - 3} {
		other := headOf(1, 3, base, 5)
		checkScan(t, slowHeadText(other)+b[24:]+impl.MarkOld, scanOf(other, true, "ab", "c", "ab"))
	}
}

func TestFramesOfTheOtherFormEndTheScan(t *testing.T) {
	for _, h := range scanHeads() {
		for _, record := range []string{"a", "ab", impl.MarkOld, strings.Repeat("r", 60)} {
			other := slowFrame(3-h.Version, h.Base+1, record)
			checkScan(t, slowFile(h, "ab")+other, scanOf(h, false, "ab"))
			checkScan(t, slowFile(h, "ab")+other+slowFrame(h.Version, h.Base+1, "c"), scanOf(h, false, "ab"))
			checkScan(t, slowHeadText(h)+slowFrame(3-h.Version, h.Base, record), scanOf(h, false))
		}
	}
}

func TestRecordsThatAreTooLongEndTheScan(t *testing.T) {
	for _, h := range scanHeads() {
		for _, record := range longRecords() {
			b := slowFile(h, "ab", record, "c")
			checkScan(t, b, scanOf(h, false, "ab"))
			checkScan(t, slowFile(h, record), scanOf(h, false))
		}
	}
}

func TestGoesOnBesideTheBaseAndTheLink(t *testing.T) {
	for _, h := range append(scanHeads(), headOf(2, 9, 5, 5), headOf(1, 1, impl.MaxNumber, maxLink), headOf(2, 1, 0, maxLink), headOf(2, 1, impl.MaxNumber, 0)) {
		for _, records := range [][]string{nil, {"ab", "c"}} {
			for _, behind := range []string{"", slowMark(h.Version, h.Base+len(records)), "other bytes"} {
				b := slowFile(h, records...) + behind
				checkGoesOn(t, b, h.Base, h.Link, true)
				for _, more := range []int{-1, 1, -2, 2, -256, 256, 1 << 31, 1 << 32, -1 << 32, 1 << 33, math.MinInt} {
					checkGoesOn(t, b, h.Base+more, h.Link, false)
					checkGoesOn(t, b, h.Base, h.Link+more, false)
					checkGoesOn(t, b, h.Base+more, h.Link+more, false)
				}
				checkGoesOn(t, b, h.Link, h.Base, h.Link == h.Base)
				checkGoesOn(t, b, h.Base+2, slowLink(slowLink(h.Link, "ab"), "c"), false)
				checkGoesOn(t, "z"+b, h.Base, h.Link, false)
				checkGoesOn(t, b[:23], h.Base, h.Link, false)
			}
		}
	}
	for _, b := range []string{"", "SEGM", strings.Repeat("\x00", 24), allBytes()} {
		for _, n := range []int{0, 1, -1, math.MaxInt, math.MinInt} {
			checkGoesOn(t, b, n, n, false)
			checkGoesOn(t, b, 0, n, false)
			checkGoesOn(t, b, n, 0, false)
		}
	}
}

func TestEachFileGoesOnFromTheOneAhead(t *testing.T) {
	records := frameRecords()
	for _, version := range bothForms {
		for cut := range len(records) + 1 {
			first := impl.HeadText(headOf(version, 1, 0, 0))
			for i, record := range records[:cut] {
				first += impl.FrameText(version, i, record)
			}
			second := headOf(3-version, 2, len(impl.RecordsIn(first)), impl.LinkAfter(first))
			b := slowFile(second, records[cut:]...)
			checkGoesOn(t, b, cut, impl.LinkOf(records[:cut]), true)
			if got, want := impl.LinkAfter(b), impl.LinkOf(records); got != want {
				t.Errorf("LinkAfter the second file, from %d on, = %d; want %d", cut, got, want)
			}
		}
	}
}

func TestLinkAfterCountsOnlyWhatIsScanned(t *testing.T) {
	for _, h := range scanHeads() {
		want := slowLink(slowLink(h.Link, "ab"), "c")
		next := slowFrame(h.Version, h.Base+2, "more")
		for _, behind := range []string{"", "x", next[:len(next)-1], slowMark(h.Version, h.Base+2) + next} {
			if got := impl.LinkAfter(slowFile(h, "ab", "c") + behind); got != want {
				t.Errorf("LinkAfter of %v with %q behind = %d; want %d", h, behind, got, want)
			}
		}
	}
}

// A record has a place up to MaxNumber, and behind that one there is neither a record nor a mark.
func TestABaseNearMaxNumber(t *testing.T) {
	records := []string{"ab", "", "c", impl.MarkOld, "d", "e"}
	for _, version := range bothForms {
		for below := range 5 {
			h := headOf(version, 3, impl.MaxNumber-below, 5)
			whole := slowFile(h, records...)
			checkScan(t, whole, scanOf(h, false, records[:below+1]...))
			checkScan(t, whole+slowMark(version, h.Base+len(records)), scanOf(h, false, records[:below+1]...))
			for many := range len(records) + 1 {
				b := slowFile(h, records[:many]...) + slowMark(version, h.Base+many)
				checkScan(t, b, scanOf(h, many <= below, records[:min(many, below+1)]...))
			}
		}
	}
}

func TestScansOfManyRecords(t *testing.T) {
	for _, h := range []impl.Head{headOf(1, 20, 0, 0), headOf(2, 20, 0, 0), headOf(2, 1, impl.MaxNumber-1500, 5)} {
		var records []string
		for i := range 1500 {
			records = append(records, strings.Repeat(impl.Decimal(i), i%12))
		}
		var b strings.Builder
		b.WriteString(slowHeadText(h))
		for i, record := range records {
			b.WriteString(slowFrame(h.Version, h.Base+i, record))
		}
		mark := slowMark(h.Version, h.Base+len(records))
		checkScan(t, b.String(), scanOf(h, false, records...))
		checkScan(t, b.String()+mark, scanOf(h, true, records...))
	}
}

func TestAFileWithAnyByteChanged(t *testing.T) {
	for _, h := range []impl.Head{headOf(1, 1, 0, 0), headOf(2, 3, 7, 5)} {
		b := slowFile(h, "ab", "", "c") + slowMark(h.Version, h.Base+3) + "foot"
		for at := range b {
			for i := range 256 {
				other := withByte(b, at, byte(i))
				checkScan(t, other, slowScan(other))
			}
		}
	}
}

// Of the newer form just the frames are whole that are ahead of the first bit that was turned.
func TestBitsOfAFileTurnedWithin32InARow(t *testing.T) {
	pick := picks(10)
	h, records := headOf(2, 3, 7, 5), []string{"ab", "", impl.MarkOld, "c"}
	whole := scanOf(h, true, records...)
	b := slowFile(h, records...) + slowMark(2, h.Base+len(records))
	nexts := append(slices.Clone(whole.Offsets[1:]), whole.End)
	for at := range 8 * len(b) {
		patterns := []uint32{1, 3, 0x80000001, math.MaxUint32}
		for range 40 {
			patterns = append(patterns, uint32(pick(1<<16)<<16|pick(1<<16)|1))
		}
		for _, bits := range patterns {
			many, hit := 0, at/8
			for many < len(nexts) && nexts[many] <= hit {
				many++
			}
			if hit < 24 {
				checkNoScan(t, turned(b, at, bits))
			} else {
				checkScan(t, turned(b, at, bits), scanOf(h, false, records[:many]...))
			}
		}
	}
}

// Half of the pieces are the next frame, so that some files go on for many records.
func TestWhateverStandsInAFile(t *testing.T) {
	pick := picks(100)
	for range 20000 {
		h := scanHeads()[pick(4)]
		b, place := slowHeadText(h), h.Base
		for range pick(8) {
			next := slowFrame(h.Version, place, "ab")
			pieces := []string{slowFrame(h.Version, place, ""), slowFrame(h.Version, place+1, "c"), slowFrame(1, 0, "z"), slowFrame(2, place, "z"), slowFrame(h.Version, place, strings.Repeat("l", 61)), slowMark(h.Version, place), slowMark(2, place), slowMark(2, place+1), "\x00", "\x01a", "\xff\xff\xff\xff", strings.Repeat("\x00", 5), next[1:]}
			if pick(2) == 0 {
				next = pieces[pick(len(pieces))]
			}
			b += next
			place++
		}
		if pick(4) == 0 {
			b = b[:pick(len(b)+1)]
		}
		checkScan(t, b, slowScan(b))
	}
}

func TestListsOfAScanAreApart(t *testing.T) {
	for _, h := range scanHeads() {
		b := slowFile(h, "ab", "c", "d") + slowMark(h.Version, h.Base+3)
		want := scanOf(h, true, "ab", "c", "d")
		for range 2 {
			scan, records := impl.ScanText(b), impl.RecordsIn(b)
			scan.Records[0], scan.Offsets[0], records[1] = "spoiled", -1, "spoiled"
			scan.Records, scan.Offsets = append(scan.Records[:1], "x", "y"), append(scan.Offsets[:1], 1, 2)
			checkScan(t, b, want)
		}
	}
}
