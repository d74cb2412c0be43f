package tests

import (
	"encoding/binary"
	"hash/crc32"
	"math"
	"slices"
	"strings"
	"testing"

	"loop.example/g00971/impl"
)

const maxLink = math.MaxUint32

func headOf(version, stride, base, link int) impl.Head {
	return impl.Head{Version: version, Stride: stride, Base: base, Link: link}
}

// Of each field of a head, what it may be at its limits and what it may not be past them.
var headEdges = []struct {
	name         string
	right, wrong []int
	with         func(h impl.Head, n int) impl.Head
}{
	{
		"Version", []int{1, 2}, []int{0, 3, 4, 255, 256, 257, 258, -1, -2, 1<<32 + 1, math.MaxInt, math.MinInt, math.MinInt + 1},
		func(h impl.Head, n int) impl.Head { h.Version = n; return h },
	},
	{
		"Stride", []int{1, 2, 3, 10, 19, 20}, []int{0, 21, 22, 255, 256, 257, -1, -20, 1<<32 + 1, math.MaxInt, math.MinInt, math.MinInt + 1},
		func(h impl.Head, n int) impl.Head { h.Stride = n; return h },
	},
	{
		"Base", []int{0, 1, 255, 256, 65536, impl.MaxNumber - 1, impl.MaxNumber}, []int{-1, -2, impl.MaxNumber + 1, impl.MaxNumber + 2, math.MaxUint32, 1 << 32, 1 << 62, math.MaxInt, math.MinInt, math.MinInt + 1},
		func(h impl.Head, n int) impl.Head { h.Base = n; return h },
	},
	{
		"Link", []int{0, 1, 255, 256, impl.MaxNumber + 1, 1 << 31, maxLink - 1, maxLink}, []int{-1, -2, maxLink + 1, maxLink + 2, 1 << 33, math.MaxInt, math.MinInt, math.MinInt + 1},
		func(h impl.Head, n int) impl.Head { h.Link = n; return h },
	},
}

func rightHeads() []impl.Head {
	var list []impl.Head
	for _, version := range headEdges[0].right {
		for _, stride := range headEdges[1].right {
			for _, base := range headEdges[2].right {
				for _, link := range headEdges[3].right {
					list = append(list, headOf(version, stride, base, link))
				}
			}
		}
	}
	return list
}

// Heads of which one field is past its limits, and some of which more are.
func wrongHeads() []impl.Head {
	list := []impl.Head{{}, headOf(3, 21, impl.MaxNumber+1, maxLink+1), headOf(-1, -1, -1, -1), headOf(0, 0, 7, 5), headOf(1, 0, -1, 5)}
	for _, h := range []impl.Head{headOf(1, 1, 0, 0), headOf(2, 3, 7, 5), headOf(2, 20, impl.MaxNumber, maxLink)} {
		for _, edge := range headEdges {
			for _, n := range edge.wrong {
				list = append(list, edge.with(h, n))
			}
		}
	}
	return list
}

func someHeads() []impl.Head {
	return []impl.Head{headOf(1, 1, 0, 0), headOf(2, 3, 7, 5), headOf(1, 20, 123456789, 0xe3069283), headOf(2, 20, impl.MaxNumber, maxLink)}
}

func castagnoli(text string) int {
	return int(crc32.Checksum([]byte(text), crc32.MakeTable(crc32.Castagnoli)))
}

// withSum puts behind the first 20 bytes the sum that they have.
func withSum(text string) string {
	ahead := []byte(text[:20])
	return string(binary.LittleEndian.AppendUint32(ahead, uint32(castagnoli(text[:20]))))
}

// slowHeadText writes whatever the bytes have room for, right or not.
func slowHeadText(h impl.Head) string {
	text := []byte{'S', 'E', 'G', 'M', byte(h.Version), byte(h.Stride), 0, 0}
	text = binary.LittleEndian.AppendUint64(text, uint64(h.Base))
	text = binary.LittleEndian.AppendUint32(text, uint32(h.Link))
	return withSum(string(text))
}

// slowReadHead takes the bytes field by field, where the program writes the head anew.
func slowReadHead(b string) (impl.Head, bool) {
	if len(b) < 24 || b[:4] != "SEGM" || b[6] != 0 || b[7] != 0 || withSum(b) != b[:24] {
		return impl.Head{}, false
	}
	base := binary.LittleEndian.Uint64([]byte(b[8:16]))
	h := headOf(int(b[4]), int(b[5]), int(base), int(binary.LittleEndian.Uint32([]byte(b[16:20]))))
	if h.Version < 1 || h.Version > 2 || h.Stride < 1 || h.Stride > 20 || base > 1000000000 {
		return impl.Head{}, false
	}
	return h, true
}

func slowLink(link int, record string) int {
	text := binary.LittleEndian.AppendUint32(nil, uint32(len(record)))
	return int(crc32.Update(uint32(link), crc32.MakeTable(crc32.Castagnoli), append(text, record...)))
}

func checkReadHead(t *testing.T, b string, want impl.Head, ok bool) {
	t.Helper()
	if got, gotOk := impl.ReadHead(b); got != want || gotOk != ok {
		t.Errorf("ReadHead(%.80q) = %v, %v; want %v, %v", b, got, gotOk, want, ok)
	}
}

func checkNoHead(t *testing.T, b string) {
	t.Helper()
	checkReadHead(t, b, impl.Head{}, false)
}

// withByte has another byte at a place of the text.
func withByte(text string, at int, b byte) string {
	return text[:at] + string([]byte{b}) + text[at+1:]
}

func TestNumbersOfHeads(t *testing.T) {
	if impl.VsOld != 1 || impl.VsNew != 2 || impl.HeadSize != 24 || impl.MaxStride != 20 {
		t.Error("VsOld, VsNew, HeadSize, MaxStride are", impl.VsOld, impl.VsNew, impl.HeadSize, impl.MaxStride)
	}
}

func TestHeadOkOnBothSidesOfItsLimits(t *testing.T) {
	for _, h := range rightHeads() {
		if !impl.HeadOk(h) {
			t.Errorf("HeadOk(%v) = false", h)
		}
	}
	for _, h := range wrongHeads() {
		if impl.HeadOk(h) {
			t.Errorf("HeadOk(%v) = true", h)
		}
	}
	for n := -300; n < 300; n++ {
		for i, right := range []bool{n == 1 || n == 2, n >= 1 && n <= 20, n >= 0, n >= 0} {
			if h := headEdges[i].with(headOf(2, 3, 7, 5), n); impl.HeadOk(h) != right {
				t.Errorf("HeadOk(%v) = %v; %s is %d", h, !right, headEdges[i].name, n)
			}
		}
	}
}

func TestHeadTextOfKnownHeads(t *testing.T) {
	cases := []struct {
		head  impl.Head
		ahead string
	}{
		{headOf(1, 1, 0, 0), "SEGM\x01\x01\x00\x00\x00\x00\x00\x00\x00\x00\x00\x00\x00\x00\x00\x00"},
		{headOf(2, 3, 7, 5), "SEGM\x02\x03\x00\x00\x07\x00\x00\x00\x00\x00\x00\x00\x05\x00\x00\x00"},
		{headOf(2, 20, 256, 0x01020304), "SEGM\x02\x14\x00\x00\x00\x01\x00\x00\x00\x00\x00\x00\x04\x03\x02\x01"},
		{headOf(1, 16, 0x00abcdef, 1<<31), "SEGM\x01\x10\x00\x00\xef\xcd\xab\x00\x00\x00\x00\x00\x00\x00\x00\x80"},
		{headOf(2, 20, impl.MaxNumber, maxLink), "SEGM\x02\x14\x00\x00\x00\xca\x9a\x3b\x00\x00\x00\x00\xff\xff\xff\xff"},
	}
	for _, c := range cases {
		want := c.ahead + impl.FixText(castagnoli(c.ahead), 4)
		if got := impl.HeadText(c.head); got != want {
			t.Errorf("HeadText(%v) = %q; want %q", c.head, got, want)
		}
		checkReadHead(t, want, c.head, true)
	}
}

func TestHeadTextOfAWrongHeadIsEmpty(t *testing.T) {
	for _, h := range wrongHeads() {
		if got := impl.HeadText(h); got != "" {
			t.Errorf("HeadText(%v) = %q; want nothing", h, got)
		}
	}
}

func TestHeadsComeBackFromTheirBytes(t *testing.T) {
	for _, h := range rightHeads() {
		text := impl.HeadText(h)
		if want := slowHeadText(h); text != want || len(text) != impl.HeadSize {
			t.Errorf("HeadText(%v) = %q; want %q", h, text, want)
		}
		checkReadHead(t, text, h, true)
	}
	for stride := 1; stride <= 20; stride++ {
		h := headOf(1+stride%2, stride, stride*49999999, stride*214748364)
		checkReadHead(t, impl.HeadText(h), h, true)
	}
}

func TestWhateverIsBehindAHead(t *testing.T) {
	for _, h := range someHeads() {
		text := impl.HeadText(h)
		for i := range 256 {
			checkReadHead(t, text+string([]byte{byte(i)}), h, true)
		}
		for _, behind := range []string{"SEGM", text, impl.HeadText(headOf(1, 9, 9, 9)), strings.Repeat("\x00", 300), strings.Repeat("\xff", 5000), allBytes()} {
			checkReadHead(t, text+behind, h, true)
		}
	}
}

func TestFewerBytesThanAHeadHas(t *testing.T) {
	for _, h := range someHeads() {
		text := impl.HeadText(h)
		for cut := range impl.HeadSize {
			checkNoHead(t, text[:cut])
			checkNoHead(t, text[impl.HeadSize-cut:])
		}
	}
	for many := range 60 {
		for _, b := range []string{"\x00", "\xff", "S"} {
			checkNoHead(t, strings.Repeat(b, many))
		}
	}
}

func TestAHeadThatDoesNotBeginAtTheFirstByte(t *testing.T) {
	for _, h := range someHeads() {
		text := impl.HeadText(h)
		for i := range 256 {
			checkNoHead(t, string([]byte{byte(i)})+text)
		}
		for at := 1; at < impl.HeadSize; at++ {
			checkNoHead(t, text[at:]+text[:at])
			checkNoHead(t, text[at:]+text)
			checkNoHead(t, text[:at]+text)
			checkNoHead(t, text[:at]+"\x00"+text[at:])
			checkNoHead(t, text[:at-1]+text[at:]+"\x00")
		}
	}
}

// The sum stands, so that the byte alone tells that this is no head.
func TestBytesThatMustBeZero(t *testing.T) {
	for _, h := range someHeads() {
		text := impl.HeadText(h)
		for i := 1; i < 256; i++ {
			b := byte(i)
			checkNoHead(t, withSum(withByte(text, 6, b)))
			checkNoHead(t, withSum(withByte(text, 7, b)))
			checkNoHead(t, withSum(withByte(withByte(text, 6, b), 7, b)))
			checkNoHead(t, withSum(withByte(text, 6, b))+text)
			checkNoHead(t, withByte(text, 6, b))
			checkNoHead(t, withByte(text, 7, b))
		}
		checkReadHead(t, withSum(withByte(withByte(text, 6, 0), 7, 0)), h, true)
	}
}

func TestBytesOfTheMark(t *testing.T) {
	text := impl.HeadText(headOf(2, 3, 7, 5))
	for at := range 4 {
		for i := range 256 {
			if b := byte(i); b != text[at] {
				checkNoHead(t, withSum(withByte(text, at, b)))
			}
		}
	}
	for _, mark := range []string{"segm", "MGES", "SEG\x00", "\x00\x00\x00\x00", "IDX!"} {
		checkNoHead(t, withSum(mark+text[4:]))
	}
}

func TestASumThatDoesNotStand(t *testing.T) {
	for _, h := range someHeads() {
		text := impl.HeadText(h)
		for at := 20; at < 24; at++ {
			for i := range 256 {
				if b := byte(i); b != text[at] {
					checkNoHead(t, withByte(text, at, b))
					checkNoHead(t, withByte(text, at, b)+text)
				}
			}
		}
		sum := castagnoli(text[:20])
		for _, other := range []int{0, maxLink, sum ^ maxLink, castagnoli(text), castagnoli(text[:16]), castagnoli(text[4:20])} {
			checkNoHead(t, text[:20]+impl.FixText(other, 4))
		}
		checkNoHead(t, text[:20]+string([]byte{text[23], text[22], text[21], text[20]}))
		checkReadHead(t, text[:20]+impl.FixText(sum, 4), h, true)
	}
}

func TestAWrongHeadWhoseSumStands(t *testing.T) {
	text := impl.HeadText(headOf(2, 3, 7, 5))
	for i := range 256 {
		b := byte(i)
		ofVersion, ofStride := withSum(withByte(text, 4, b)), withSum(withByte(text, 5, b))
		if i == 1 || i == 2 {
			checkReadHead(t, ofVersion, headOf(i, 3, 7, 5), true)
		} else {
			checkNoHead(t, ofVersion)
		}
		if i >= 1 && i <= 20 {
			checkReadHead(t, ofStride, headOf(2, i, 7, 5), true)
		} else {
			checkNoHead(t, ofStride)
		}
	}
	bases := []uint64{1000000001, 1000000002, math.MaxUint32, 1 << 32, 1<<32 + 7, 1 << 40, 1 << 62, math.MaxInt64, 1 << 63, 1<<63 + 7, 1<<63 + 1000000000, math.MaxUint64 - 1, math.MaxUint64}
	for _, rest := range []impl.Head{headOf(1, 1, 0, 0), headOf(2, 20, 0, maxLink)} {
		ahead, behind := slowHeadText(rest)[:8], slowHeadText(rest)[16:]
		for _, base := range bases {
			checkNoHead(t, withSum(ahead+string(binary.LittleEndian.AppendUint64(nil, base))+behind))
		}
		for _, base := range []int{0, 999999999, 1000000000} {
			rest.Base = base
			checkReadHead(t, withSum(ahead+string(binary.LittleEndian.AppendUint64(nil, uint64(base)))+behind), rest, true)
		}
	}
}

func TestAHeadWithAnyByteChanged(t *testing.T) {
	for _, h := range someHeads() {
		text := impl.HeadText(h)
		for at := range impl.HeadSize {
			for i := range 256 {
				b := byte(i)
				if b != text[at] {
					checkNoHead(t, withByte(text, at, b))
				}
				summed := withSum(withByte(text, at, b))
				want, ok := slowReadHead(summed)
				checkReadHead(t, summed, want, ok)
			}
		}
	}
}

// turned has the bits turned that are told by a number of 32 bits, from one bit on, each byte from its lowest bit on.
func turned(text string, at int, bits uint32) string {
	b := []byte(text)
	for i := range 32 {
		if k := at + i; bits>>i&1 == 1 && k < 8*len(b) {
			b[k/8] ^= 1 << (k % 8)
		}
	}
	return string(b)
}

func checkTurned(t *testing.T, text string, at int, bits uint32) {
	t.Helper()
	other := turned(text, at, bits)
	if other == text {
		return
	}
	if got, ok := impl.ReadHead(other); ok || got != (impl.Head{}) {
		t.Errorf("ReadHead(%q) = %v, %v, with the bits %x turned at %d of %q", other, got, ok, bits, at, text)
	}
}

func TestBitsTurnedWithin32InARow(t *testing.T) {
	pick := picks(8)
	for _, h := range someHeads() {
		text := impl.HeadText(h)
		for at := range 8 * impl.HeadSize {
			for bits := range uint32(512) {
				checkTurned(t, text, at, bits)
			}
			for i := range 32 {
				checkTurned(t, text, at, 1|1<<i)
				checkTurned(t, text, at, math.MaxUint32>>i)
				checkTurned(t, text, at, math.MaxUint32<<i)
			}
			for range 300 {
				checkTurned(t, text, at, uint32(pick(1<<16)<<16|pick(1<<16)))
			}
		}
	}
}

func TestBitsTurnedBehindAHead(t *testing.T) {
	h := headOf(2, 3, 7, 5)
	text := impl.HeadText(h) + "a frame, and more"
	for at := 8 * impl.HeadSize; at < 8*len(text); at++ {
		checkReadHead(t, turned(text, at, math.MaxUint32), h, true)
	}
}

func linkRecords() []string {
	return []string{"", "a", "ab", "\x00", "\x00\x00\x00\x00", "\x01\x00\x00\x00", "\xff\xff\xff\xff\x0f", "append 617a\n", strings.Repeat("r", 60), strings.Repeat("r", 61), allBytes(), strings.Repeat("\xfe", 255), strings.Repeat("long", 20000)}
}

func TestLinkMoreIsASumOfLengthAndRecord(t *testing.T) {
	if got, want := impl.LinkMore(0, ""), castagnoli("\x00\x00\x00\x00"); got != want {
		t.Errorf("LinkMore(0, %q) = %d; want %d", "", got, want)
	}
	if got, want := impl.LinkMore(0, allBytes()), castagnoli("\x00\x01\x00\x00"+allBytes()); got != want {
		t.Errorf("LinkMore of 256 bytes = %d; want %d", got, want)
	}
	for _, record := range linkRecords() {
		for _, link := range sumStarts() {
			got := impl.LinkMore(link, record)
			if want := slowLink(link, record); got != want {
				t.Errorf("LinkMore(%d, %.40q) = %d; want %d", link, record, got, want)
			}
			if got != impl.LinkMore(lowest32(link), record) {
				t.Errorf("LinkMore(%d, %.40q) hangs on bits that do not count", link, record)
			}
		}
	}
}

func TestLinkOfKnownRecords(t *testing.T) {
	cases := []struct {
		records []string
		bytes   string
	}{
		{nil, ""},
		{[]string{}, ""},
		{[]string{""}, "\x00\x00\x00\x00"},
		{[]string{"a"}, "\x01\x00\x00\x00a"},
		{[]string{"", ""}, "\x00\x00\x00\x00\x00\x00\x00\x00"},
		{[]string{"ab", "c"}, "\x02\x00\x00\x00ab\x01\x00\x00\x00c"},
		{[]string{"a", "bc"}, "\x01\x00\x00\x00a\x02\x00\x00\x00bc"},
		{[]string{"bc", "a"}, "\x02\x00\x00\x00bc\x01\x00\x00\x00a"},
		{[]string{"abc"}, "\x03\x00\x00\x00abc"},
		{[]string{"a", "", "bc", ""}, "\x01\x00\x00\x00a\x00\x00\x00\x00\x02\x00\x00\x00bc\x00\x00\x00\x00"},
	}
	links := map[int]bool{}
	for _, c := range cases {
		got := impl.LinkOf(c.records)
		if want := castagnoli(c.bytes); got != want {
			t.Errorf("LinkOf(%q) = %d; want %d", c.records, got, want)
		}
		links[got] = true
	}
	// The first two of them are the same row.
	if len(links) != len(cases)-1 {
		t.Errorf("%d rows of records have only %d links", len(cases)-1, len(links))
	}
}

func TestTheLinkOfAllIsThatOfThoseAheadAndThenOfTheOthers(t *testing.T) {
	records := append(linkRecords(), linkRecords()...)
	for i := range 40 {
		records = append(records, strings.Repeat("x", i), impl.Decimal(i))
	}
	whole := impl.LinkOf(records)
	for cut := range len(records) + 1 {
		link, slow := impl.LinkOf(records[:cut]), 0
		for _, record := range records[:cut] {
			slow = slowLink(slow, record)
		}
		if link != slow {
			t.Errorf("LinkOf the first %d = %d; want %d", cut, link, slow)
		}
		if link < 0 || link > maxLink || !impl.HeadOk(headOf(2, 1, cut, link)) {
			t.Errorf("LinkOf the first %d = %d, which no head has", cut, link)
		}
		for _, record := range records[cut:] {
			link = impl.LinkMore(link, record)
		}
		if link != whole {
			t.Errorf("the link of all is %d; that of the first %d, and then of the others, %d", whole, cut, link)
		}
	}
}

func TestLinkOfLeavesItsRecordsAsTheyAre(t *testing.T) {
	records := []string{"a", "", "bc", "behind"}
	first, second := impl.LinkOf(records[:3]), impl.LinkOf(records[:3])
	if first != second || !slices.Equal(records, []string{"a", "", "bc", "behind"}) {
		t.Errorf("LinkOf answers %d and %d, and leaves %q", first, second, records)
	}
}
