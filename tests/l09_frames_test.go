package tests

import (
	"encoding/binary"
	"math"
	"slices"
	"strings"
	"testing"

	"loop.example/g00971/impl"
)

var bothForms = []int{impl.VsOld, impl.VsNew}

var wrongVersions = []int{0, 3, 4, -1, -2, 255, 256, 257, 258, 1<<32 + 1, 1<<32 + 2, math.MaxInt, math.MinInt, math.MinInt + 1, math.MinInt + 2}

var framePlaces = []int{0, 1, 2, 7, 8, 255, 256, 65535, 65536, 1 << 24, 1 << 29, impl.MaxNumber - 1, impl.MaxNumber}

var wrongPlaces = []int{-1, -2, -7, -impl.MaxNumber, impl.MaxNumber + 1, impl.MaxNumber + 2, math.MaxUint32, 1 << 32, 1<<32 + 7, 1 << 62, math.MaxInt, math.MinInt, math.MinInt + 1, math.MinInt + 7}

// Among them what looks like a mark, or like a frame.
func frameRecords() []string {
	records := []string{"", "a", "ab", "\x00", "\x00\x00\x00\x00", "\xff", "\x3c", impl.MarkOld, "SEGM", "IDX!", slowFrame(1, 0, "ab"), slowFrame(2, 7, "ab"), slowMark(2, 7), allBytes()[:60], allBytes()[196:]}
	for size := range impl.MaxRecord + 1 {
		records = append(records, strings.Repeat("r", size), strings.Repeat("\x00", size), strings.Repeat("\xff", size))
	}
	return records
}

func longRecords() []string {
	records := []string{allBytes()[:61], allBytes(), strings.Repeat("long", 20000)}
	for _, size := range []int{61, 62, 63, 64, 120, 127, 128, 129, 255, 256, 257, 300, 65536, 65537} {
		records = append(records, strings.Repeat("r", size), strings.Repeat("\x00", size))
	}
	return records
}

func fix32(n int) string { return string(binary.LittleEndian.AppendUint32(nil, uint32(n))) }

func fix64(n int) string { return string(binary.LittleEndian.AppendUint64(nil, uint64(n))) }

// told has the length behind which, in the newer form, is the sum that it has with the place.
func told(place int, length int) string {
	return fix32(length) + fix32(castagnoli(fix64(place)+fix32(length)))
}

// slowFrame writes records of any length, at any place.
func slowFrame(version, place int, record string) string {
	behind := record + fix32(castagnoli(record))
	if version == impl.VsOld {
		return string(binary.AppendUvarint(nil, uint64(len(record)))) + behind
	}
	return told(place, len(record)) + behind
}

func slowMark(version, place int) string {
	if version == impl.VsOld {
		return "\xff\xff\xff\xff\x0f"
	}
	return told(place, math.MaxUint32)
}

// slowReadFrame tries each length that a record may have, where the program reads the length.
func slowReadFrame(version, place int, b string, at int) (string, int, bool) {
	if at < 0 || at > len(b) || place < 0 || place > 1000000000 {
		return "", 0, false
	}
	ahead := map[int]int{impl.VsOld: 1, impl.VsNew: 8}[version]
	for size := range 61 {
		end := at + ahead + size + 4
		if ahead == 0 || end > len(b) {
			return "", 0, false
		}
		record := b[at+ahead : at+ahead+size]
		if slowFrame(version, place, record) == b[at:end] {
			return record, end, true
		}
	}
	return "", 0, false
}

func checkReadFrame(t *testing.T, version, place int, b string, at int, record string, next int, ok bool) {
	t.Helper()
	gotRecord, gotNext, gotOk := impl.ReadFrame(version, place, b, at)
	if gotRecord != record || gotNext != next || gotOk != ok {
		t.Errorf("ReadFrame(%d, %d, %.90q, %d) = %q, %d, %v; want %q, %d, %v", version, place, b, at, gotRecord, gotNext, gotOk, record, next, ok)
	}
}

func checkNoFrame(t *testing.T, version, place int, b string, at int) {
	t.Helper()
	checkReadFrame(t, version, place, b, at, "", 0, false)
}

func checkMarkAt(t *testing.T, version, place int, b string, at int, want bool) {
	t.Helper()
	if got := impl.MarkAt(version, place, b, at); got != want {
		t.Errorf("MarkAt(%d, %d, %.90q, %d) = %v", version, place, b, at, got)
	}
}

func TestNumbersOfFrames(t *testing.T) {
	if impl.MaxRecord != 60 || impl.MarkOld != "\xff\xff\xff\xff\x0f" {
		t.Errorf("MaxRecord, MarkOld are %d, %q", impl.MaxRecord, impl.MarkOld)
	}
}

func TestKnownFrames(t *testing.T) {
	sixty := strings.Repeat("r", 60)
	cases := []struct {
		version, place int
		record, want   string
	}{
		{1, 0, "", "\x00\x00\x00\x00\x00"},
		{1, 0, "123456789", "\x09123456789\x83\x92\x06\xe3"},
		{1, 0, sixty, "\x3c" + sixty + fix32(castagnoli(sixty))},
		{2, 0, "", "\x00\x00\x00\x00" + fix32(castagnoli(strings.Repeat("\x00", 12))) + "\x00\x00\x00\x00"},
		{2, 7, "ab", "\x02\x00\x00\x00" + fix32(castagnoli("\x07\x00\x00\x00\x00\x00\x00\x00\x02\x00\x00\x00")) + "ab" + fix32(castagnoli("ab"))},
		{2, 258, "123456789", "\x09\x00\x00\x00" + fix32(castagnoli("\x02\x01\x00\x00\x00\x00\x00\x00\x09\x00\x00\x00")) + "123456789\x83\x92\x06\xe3"},
		{2, impl.MaxNumber, sixty, "\x3c\x00\x00\x00" + fix32(castagnoli("\x00\xca\x9a\x3b\x00\x00\x00\x00\x3c\x00\x00\x00")) + sixty + fix32(castagnoli(sixty))},
	}
	for _, c := range cases {
		if got := impl.FrameText(c.version, c.place, c.record); got != c.want {
			t.Errorf("FrameText(%d, %d, %q) = %q; want %q", c.version, c.place, c.record, got, c.want)
		}
		checkReadFrame(t, c.version, c.place, c.want, 0, c.record, len(c.want), true)
	}
}

func TestRecordsComeBackFromTheirFrames(t *testing.T) {
	for _, version := range bothForms {
		for _, place := range framePlaces {
			for _, record := range frameRecords() {
				frame := impl.FrameText(version, place, record)
				if want := slowFrame(version, place, record); frame != want {
					t.Errorf("FrameText(%d, %d, %q) = %q; want %q", version, place, record, frame, want)
				}
				checkReadFrame(t, version, place, frame, 0, record, len(frame), true)
				checkReadFrame(t, version, place, "ahead"+frame+"behind", 5, record, 5+len(frame), true)
			}
		}
	}
}

func TestWhateverIsAheadOfAFrameAndBehindIt(t *testing.T) {
	for _, version := range bothForms {
		for _, record := range []string{"", "ab", impl.MarkOld, strings.Repeat("r", 60)} {
			frame := impl.FrameText(version, 7, record)
			around := []string{"", frame, slowFrame(1, 7, "z"), slowFrame(2, 7, "z"), slowMark(1, 7), slowMark(2, 7), strings.Repeat("\xff", 200), strings.Repeat("\x00", 5000), allBytes()}
			for i := range 256 {
				around = append(around, string([]byte{byte(i)}))
			}
			for _, other := range around {
				checkReadFrame(t, version, 7, other+frame, len(other), record, len(other)+len(frame), true)
				checkReadFrame(t, version, 7, frame+other, 0, record, len(frame), true)
				checkReadFrame(t, version, 7, other+frame+other, len(other), record, len(other)+len(frame), true)
			}
		}
	}
}

func TestFramesOneBehindTheOther(t *testing.T) {
	for _, version := range bothForms {
		for _, base := range []int{0, 300, impl.MaxNumber - 250} {
			records, text := frameRecords()[:190], "head"
			for i, record := range records {
				text += impl.FrameText(version, base+i, record)
			}
			text += impl.EndMark(version, base+len(records)) + "behind"
			at := 4
			for i, record := range records {
				next := at + impl.FrameSize(version, record)
				checkReadFrame(t, version, base+i, text, at, record, next, true)
				checkMarkAt(t, version, base+i, text, at, false)
				at = next
			}
			checkMarkAt(t, version, base+len(records), text, at, true)
			checkNoFrame(t, version, base+len(records), text, at)
		}
	}
}

func TestSizesOfFrames(t *testing.T) {
	for _, record := range frameRecords() {
		if got := impl.FrameSize(impl.VsOld, record); got != len(record)+5 {
			t.Errorf("FrameSize(VsOld, %q) = %d; want %d", record, got, len(record)+5)
		}
		if got := impl.FrameSize(impl.VsNew, record); got != len(record)+12 || got != len(record)+impl.FrameCost {
			t.Errorf("FrameSize(VsNew, %q) = %d; want %d", record, got, len(record)+12)
		}
		for _, version := range bothForms {
			for _, place := range framePlaces {
				if got := len(impl.FrameText(version, place, record)); got != impl.FrameSize(version, record) {
					t.Errorf("FrameText(%d, %d, %q) has %d bytes; FrameSize is %d", version, place, record, got, impl.FrameSize(version, record))
				}
			}
		}
		for _, version := range wrongVersions {
			if got := impl.FrameSize(version, record); got != 0 {
				t.Errorf("FrameSize(%d, %q) = %d; want 0", version, record, got)
			}
		}
	}
	for _, record := range longRecords() {
		for _, version := range append(wrongVersions, bothForms...) {
			if got := impl.FrameSize(version, record); got != 0 {
				t.Errorf("FrameSize(%d, %d bytes) = %d; want 0", version, len(record), got)
			}
		}
	}
}

func checkNothingWritten(t *testing.T, version, place int, record string) {
	t.Helper()
	if got := impl.FrameText(version, place, record); got != "" {
		t.Errorf("FrameText(%d, %d, %.70q) = %.90q; want nothing", version, place, record, got)
	}
}

func TestAVersionThatIsNoneOfBoth(t *testing.T) {
	for _, version := range wrongVersions {
		for _, place := range append(framePlaces, wrongPlaces...) {
			for _, record := range []string{"", "ab", strings.Repeat("r", 60), strings.Repeat("r", 61)} {
				checkNothingWritten(t, version, place, record)
				for _, b := range []string{"", slowFrame(1, place, record), slowFrame(2, place, record)} {
					checkNoFrame(t, version, place, b, 0)
					checkNoFrame(t, version, place, b, len(b))
				}
			}
			if got := impl.EndMark(version, place); got != "" {
				t.Errorf("EndMark(%d, %d) = %q; want nothing", version, place, got)
			}
			for _, b := range []string{"", slowMark(1, place), slowMark(2, place), slowMark(2, place) + slowMark(1, place)} {
				checkMarkAt(t, version, place, b, 0, false)
				checkMarkAt(t, version, place, b, len(b), false)
			}
		}
	}
}

func TestAPlaceThatNoRecordHas(t *testing.T) {
	for _, version := range bothForms {
		for _, place := range wrongPlaces {
			for _, record := range []string{"", "ab", strings.Repeat("r", 60), strings.Repeat("r", 61)} {
				checkNothingWritten(t, version, place, record)
				b := slowFrame(version, place, record)
				checkNoFrame(t, version, place, b, 0)
				checkNoFrame(t, version, place, "z"+b, 1)
				checkNoFrame(t, version, place, b, len(b))
			}
			if got := impl.EndMark(version, place); got != "" {
				t.Errorf("EndMark(%d, %d) = %q; want nothing", version, place, got)
			}
			b := slowMark(version, place)
			checkMarkAt(t, version, place, b, 0, false)
			checkMarkAt(t, version, place, b, len(b), false)
		}
	}
}

func TestRecordsThatAreTooLong(t *testing.T) {
	for _, version := range bothForms {
		for _, place := range []int{0, 7, impl.MaxNumber} {
			for _, record := range longRecords() {
				checkNothingWritten(t, version, place, record)
				// All sums of this one stand.
				checkNoFrame(t, version, place, slowFrame(version, place, record), 0)
				checkNoFrame(t, version, place, slowFrame(version, place, record)+"behind", 0)
			}
		}
	}
}

func TestAFrameOfTheNewerFormIsOfOnePlaceAlone(t *testing.T) {
	places := slices.Clone(framePlaces)
	for place := range 600 {
		places = append(places, place, impl.MaxNumber-place)
	}
	for i := range 30 {
		places = append(places, min(1<<i, impl.MaxNumber), min(1<<i^7, impl.MaxNumber), min(1<<i-1, impl.MaxNumber))
	}
	for _, place := range []int{0, 7, 255, 1 << 24, impl.MaxNumber} {
		frames := map[string]string{"": slowFrame(2, place, ""), "ab": slowFrame(2, place, "ab")}
		for _, other := range places {
			for record, frame := range frames {
				if other == place {
					checkReadFrame(t, impl.VsNew, other, frame, 0, record, len(frame), true)
				} else {
					checkNoFrame(t, impl.VsNew, other, frame, 0)
				}
			}
			checkMarkAt(t, impl.VsNew, other, slowMark(2, place), 0, other == place)
		}
		for _, other := range wrongPlaces {
			checkNoFrame(t, impl.VsNew, other, frames["ab"], 0)
		}
	}
}

func TestAFrameOfTheOlderFormHasNoPlace(t *testing.T) {
	for _, record := range frameRecords() {
		frame := impl.FrameText(impl.VsOld, 0, record)
		for _, place := range framePlaces {
			if got := impl.FrameText(impl.VsOld, place, record); got != frame {
				t.Errorf("FrameText(VsOld, %d, %q) = %q; at 0 it is %q", place, record, got, frame)
			}
			checkReadFrame(t, impl.VsOld, place, frame, 0, record, len(frame), true)
		}
	}
}

func TestAFrameOfTheOtherForm(t *testing.T) {
	for _, place := range framePlaces {
		for _, record := range frameRecords() {
			for _, version := range bothForms {
				b := slowFrame(3-version, place, record)
				want, next, ok := slowReadFrame(version, place, b, 0)
				checkReadFrame(t, version, place, b, 0, want, next, ok)
			}
			if record != "" {
				checkNoFrame(t, impl.VsOld, place, slowFrame(2, place, record), 0)
			}
			checkNoFrame(t, impl.VsNew, place, slowFrame(1, place, record), 0)
		}
	}
}

func TestAFrameThatIsCutOff(t *testing.T) {
	for _, version := range bothForms {
		for _, record := range []string{"", "a", "ab", impl.MarkOld, strings.Repeat("\x00", 8), strings.Repeat("r", 59), strings.Repeat("r", 60)} {
			frame := impl.FrameText(version, 7, record)
			for cut := range len(frame) {
				checkNoFrame(t, version, 7, frame[:cut], 0)
				checkNoFrame(t, version, 7, "ahead"+frame[:cut], 5)
				checkNoFrame(t, version, 7, frame+frame[:cut], len(frame))
			}
			ahead := strings.Repeat("z", 100)
			checkReadFrame(t, version, 7, ahead+frame, 100, record, 100+len(frame), true)
		}
	}
}

func TestFramesAtPlacesThatAreNone(t *testing.T) {
	for _, version := range bothForms {
		for _, record := range []string{"", "ab", strings.Repeat("r", 60)} {
			b := impl.FrameText(version, 0, record)
			for _, at := range placesOutside(b) {
				checkNoFrame(t, version, 0, b, at)
				checkNoFrame(t, version, 0, "", at)
				checkMarkAt(t, version, 0, impl.EndMark(version, 0), at, false)
			}
			for _, back := range []int{1, 4, 5, 8, 12} {
				checkNoFrame(t, version, 0, b, math.MaxInt-back)
				checkMarkAt(t, version, 0, b, math.MaxInt-back, false)
			}
		}
		for _, at := range []int{-13, -8, -5, -1, 0, 1, 5, 8, 13} {
			checkNoFrame(t, version, 0, "", at)
			checkMarkAt(t, version, 0, "", at, false)
		}
	}
}

func TestFramesBesideWhereTheyStand(t *testing.T) {
	for _, version := range bothForms {
		for _, record := range frameRecords() {
			b := "ah" + impl.FrameText(version, 7, record) + "be"
			for at := range len(b) {
				want, next, ok := slowReadFrame(version, 7, b, at)
				checkReadFrame(t, version, 7, b, at, want, next, ok)
			}
		}
	}
}

func TestAFrameWithAnyByteChanged(t *testing.T) {
	for _, version := range bothForms {
		for _, record := range []string{"", "ab", impl.MarkOld, strings.Repeat("\x00", 60)} {
			frame := impl.FrameText(version, 7, record)
			for at := range frame {
				for i := range 256 {
					b := withByte(frame, at, byte(i)) + strings.Repeat("\x00", 64)
					want, next, ok := slowReadFrame(version, 7, b, 0)
					checkReadFrame(t, version, 7, b, 0, want, next, ok)
					if version == impl.VsNew && byte(i) != frame[at] {
						checkNoFrame(t, version, 7, b, 0)
					}
				}
			}
		}
	}
}

func TestLengthsThatAreWrittenInAnotherWay(t *testing.T) {
	for _, record := range []string{"", "ab", strings.Repeat("r", 60)} {
		behind := record + fix32(castagnoli(record)) + strings.Repeat("\x00", 80)
		size := byte(len(record))
		for _, ahead := range [][]byte{{size | 128, 0}, {size | 128, 128, 0}, {size | 128, 128, 128, 128, 0}, {size | 128, 128, 128, 128, 16}, {size | 128, 1}, {size | 128}} {
			checkNoFrame(t, impl.VsOld, 7, string(ahead)+behind, 0)
		}
		// The length and its sum stand, but are not of these bytes.
		for _, length := range []int{len(record) + 1, len(record) + 2, 60 + 1, 256 + len(record), 1<<24 + len(record), 1<<31 + len(record), math.MaxUint32 - 1, math.MaxUint32} {
			checkNoFrame(t, impl.VsNew, 7, told(7, length)+behind, 0)
		}
		checkReadFrame(t, impl.VsNew, 7, told(7, len(record))+behind, 0, record, 12+len(record), true)
	}
}

func TestSumsOfFramesThatDoNotStand(t *testing.T) {
	for _, record := range []string{"a", "ab", strings.Repeat("r", 60)} {
		size, sum := fix32(len(record)), fix32(castagnoli(record))
		for _, other := range []int{0, math.MaxUint32, castagnoli(size), castagnoli(size + fix64(7)), castagnoli(fix32(7) + size), castagnoli(fix64(7) + size + record), castagnoli(fix64(7) + size + record + sum), castagnoli(fix64(8) + size)} {
			checkNoFrame(t, impl.VsNew, 7, size+fix32(other)+record+sum, 0)
		}
		for _, other := range []int{0, math.MaxUint32, castagnoli(record) ^ math.MaxUint32, castagnoli(size + record), castagnoli(fix64(7) + record), castagnoli(record + sum), castagnoli(told(7, len(record)) + record)} {
			checkNoFrame(t, impl.VsNew, 7, told(7, len(record))+record+fix32(other), 0)
			checkNoFrame(t, impl.VsOld, 7, size[:1]+record+fix32(other), 0)
		}
		checkReadFrame(t, impl.VsNew, 7, told(7, len(record))+record+sum, 0, record, 12+len(record), true)
		checkReadFrame(t, impl.VsOld, 7, size[:1]+record+sum, 0, record, 5+len(record), true)
	}
}

func TestWhateverStandsThereIsAFrameOrNone(t *testing.T) {
	pick := picks(9)
	pieces := append(shortTexts("\x00\x01\xff"), fix32(castagnoli("a")), "\x01a", "\x00\x00\x00", told(7, 0), told(7, 1), told(7, 60), told(8, 1), slowFrame(1, 7, "ab"), slowFrame(2, 7, "ab"), slowMark(1, 7), slowMark(2, 7))
	for range 20000 {
		b := ""
		for range 1 + pick(6) {
			b += pieces[pick(len(pieces))]
		}
		at := pick(len(b) + 1)
		for _, version := range bothForms {
			want, next, ok := slowReadFrame(version, 7, b, at)
			checkReadFrame(t, version, 7, b, at, want, next, ok)
			checkMarkAt(t, version, 7, b, at, strings.HasPrefix(b[at:], slowMark(version, 7)))
		}
	}
}

// checkTurnedFrame wants no frame and no mark of place 7 at the 5th byte, when what is written there was hit, and it whole when it was not.
func checkTurnedFrame(t *testing.T, b string, written string, record string, at int, bits uint32) {
	t.Helper()
	other := turned(b, at, bits)
	if other[5:5+len(written)] != written {
		checkNoFrame(t, impl.VsNew, 7, other, 5)
		checkMarkAt(t, impl.VsNew, 7, other, 5, false)
	} else {
		checkReadFrame(t, impl.VsNew, 7, other, 5, record, 5+len(written), true)
	}
}

func TestBitsOfAFrameTurnedWithin32InARow(t *testing.T) {
	pick := picks(90)
	for _, record := range []string{"", "a", "ab", impl.MarkOld, strings.Repeat("\x00", 9), allBytes()[100:160]} {
		frame := impl.FrameText(impl.VsNew, 7, record)
		for _, behind := range []string{impl.EndMark(impl.VsNew, 8), strings.Repeat("\x00", 64)} {
			b := "ahead" + frame + behind
			for at := 0; at < 8*(5+len(frame)+1); at++ {
				for bits := range uint32(128) {
					checkTurnedFrame(t, b, frame, record, at, bits)
				}
				for i := range 32 {
					checkTurnedFrame(t, b, frame, record, at, 1|1<<i)
					checkTurnedFrame(t, b, frame, record, at, math.MaxUint32>>i)
					checkTurnedFrame(t, b, frame, record, at, math.MaxUint32<<i)
				}
				for range 100 {
					checkTurnedFrame(t, b, frame, record, at, uint32(pick(1<<16)<<16|pick(1<<16)))
				}
			}
		}
	}
}

func TestBitsOfAMarkTurnedWithin32InARow(t *testing.T) {
	pick := picks(91)
	for _, place := range framePlaces {
		mark := impl.EndMark(impl.VsNew, place)
		b := mark + strings.Repeat("\x00", 72)
		for at := range 8 * len(mark) {
			for range 300 {
				other := turned(b, at, uint32(pick(1<<16)<<16|pick(1<<16)|1))
				checkMarkAt(t, impl.VsNew, place, other, 0, false)
				checkNoFrame(t, impl.VsNew, place, other, 0)
			}
			for i := range 32 {
				for _, bits := range []uint32{1 | 1<<i, math.MaxUint32 >> i} {
					checkMarkAt(t, impl.VsNew, place, turned(b, at, bits), 0, false)
					checkNoFrame(t, impl.VsNew, place, turned(b, at, bits), 0)
				}
			}
		}
	}
}

func TestKnownMarks(t *testing.T) {
	cases := []struct {
		place int
		ahead string
	}{
		{0, "\x00\x00\x00\x00\x00\x00\x00\x00"},
		{7, "\x07\x00\x00\x00\x00\x00\x00\x00"},
		{258, "\x02\x01\x00\x00\x00\x00\x00\x00"},
		{impl.MaxNumber, "\x00\xca\x9a\x3b\x00\x00\x00\x00"},
	}
	for _, c := range cases {
		if got := impl.EndMark(impl.VsOld, c.place); got != "\xff\xff\xff\xff\x0f" {
			t.Errorf("EndMark(VsOld, %d) = %q", c.place, got)
		}
		want := "\xff\xff\xff\xff" + fix32(castagnoli(c.ahead+"\xff\xff\xff\xff"))
		if got := impl.EndMark(impl.VsNew, c.place); got != want {
			t.Errorf("EndMark(VsNew, %d) = %q; want %q", c.place, got, want)
		}
	}
}

func TestMarksStandWhereTheyAreAndAreNoFrames(t *testing.T) {
	for _, version := range bothForms {
		for _, place := range framePlaces {
			mark := impl.EndMark(version, place)
			if want := slowMark(version, place); mark != want {
				t.Errorf("EndMark(%d, %d) = %q; want %q", version, place, mark, want)
			}
			for _, around := range []string{"", "z", "\xff", mark, slowMark(3-version, place), allBytes(), strings.Repeat("\x00", 80)} {
				b := around + mark + around
				checkMarkAt(t, version, place, b, len(around), true)
				checkMarkAt(t, version, place, around+mark, len(around), true)
				checkNoFrame(t, version, place, b, len(around))
			}
			checkMarkAt(t, 3-version, place, mark, 0, false)
			checkNoFrame(t, 3-version, place, mark+strings.Repeat("\x00", 80), 0)
			for _, record := range frameRecords() {
				checkMarkAt(t, version, place, impl.FrameText(version, place, record)+mark, 0, false)
			}
		}
	}
}

func TestWhatIsAlmostAMark(t *testing.T) {
	for _, version := range bothForms {
		for _, place := range []int{0, 7, impl.MaxNumber} {
			mark := impl.EndMark(version, place)
			for at := range mark {
				for i := range 256 {
					b := withByte(mark, at, byte(i))
					checkMarkAt(t, version, place, b, 0, b == mark)
					checkMarkAt(t, version, place, "z"+b+"z", 1, b == mark)
				}
				checkMarkAt(t, version, place, mark[:at], 0, false)
				checkMarkAt(t, version, place, "z"+mark[:at], 1, false)
				checkMarkAt(t, version, place, mark[:at]+mark[at+1:], 0, false)
				checkMarkAt(t, version, place, mark+"z", at+1, false)
			}
			checkMarkAt(t, version, place, "z"+mark, 0, false)
		}
	}
	for _, almost := range []string{"\xff\xff\xff\xff", "\xff\xff\xff\xff\xff\xff\xff\xff", "\xff\xff\xff\xff\x00\x00\x00\x00", told(7, math.MaxUint32-1), told(7, 0), fix32(math.MaxUint32) + fix32(castagnoli(fix32(math.MaxUint32))), fix32(math.MaxUint32) + fix32(castagnoli(fix32(math.MaxUint32)+fix64(7)))} {
		checkMarkAt(t, impl.VsNew, 7, almost, 0, false)
		checkMarkAt(t, impl.VsOld, 7, almost, 0, false)
	}
}
