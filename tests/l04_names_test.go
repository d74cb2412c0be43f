package tests

import (
	"fmt"
	"maps"
	"math"
	"slices"
	"strings"
	"testing"

	"loop.example/g00971/impl"
)

// Bases of which SegmentName is known, among them the last one of each number of figures and the first one of the next.
var knownNames = []struct {
	base int
	name string
}{
	{0, "s00000000.seg"}, {1, "s00000001.seg"}, {9, "s00000009.seg"}, {10, "s0000000a.seg"}, {15, "s0000000f.seg"},
	{16, "s00000010.seg"}, {255, "s000000ff.seg"}, {256, "s00000100.seg"}, {4095, "s00000fff.seg"}, {4096, "s00001000.seg"},
	{65535, "s0000ffff.seg"}, {65536, "s00010000.seg"}, {1048575, "s000fffff.seg"}, {1048576, "s00100000.seg"},
	{11259375, "s00abcdef.seg"}, {16777215, "s00ffffff.seg"}, {16777216, "s01000000.seg"}, {19088743, "s01234567.seg"},
	{268435455, "s0fffffff.seg"}, {268435456, "s10000000.seg"},
	{impl.MaxNumber - 1, "s3b9ac9ff.seg"}, {impl.MaxNumber, "s3b9aca00.seg"},
}

var notABase = []int{-1, -2, -10, -impl.MaxNumber, impl.MaxNumber + 1, impl.MaxNumber + 2, math.MaxInt32, math.MaxUint32, math.MaxUint32 + 1, 1<<32 + 10, 1 << 36, math.MaxInt, math.MinInt, math.MinInt + 1}

// Names of no file with a base, nor of what is to become one.
var otherNames = []string{
	"", "s", "s.seg", ".seg", ".tmp", ".seg.tmp", "seg", "0", "00000000", "s00000000",
	"s0000000A.seg", "S0000000a.seg", "s0000000a.SEG", "s0000000a.Seg", "s0000000a.segG", "s0000000a.seg.TMP", "s0000000a.seg.Tmp", "s0000000A.seg.tmp", "s0000000a.SEG.tmp", "s000000aA.seg", "sABCDEF00.seg", "s3B9ACA00.seg", "s3b9aCa00.seg.tmp",
	"s3b9aca01.seg", "s3b9aca01.seg.tmp", "s3b9acaff.seg", "s40000000.seg", "s7fffffff.seg", "s80000000.seg", "sffffffff.seg", "sffffffff.seg.tmp",
	"s000000a.seg", "sa.seg", "s000000000.seg", "s00000000a.seg", "s10000000a.seg", "s000000000000000a.seg", "s13b9aca00.seg",
	"s-0000001.seg", "s+0000001.seg", "s 0000001.seg", "s0000001 .seg", "s0x00000a.seg", "s0X00000a.seg", "s0b000001.seg.tmp.", "s0_00000a.seg", "s0000000g.seg", "s0000000/.seg", "s0000000:.seg", "s0000000`.seg", "s0000000\x00.seg", "s000000\xc3\xa9.seg", "s-0000000.seg", "s+0000000.seg.tmp",
	" s0000000a.seg", "s0000000a.seg ", "s0000000a.seg\n", "\x00s0000000a.seg", "ss0000000a.seg", "s0000000a.segg", "s0000000a..seg", "s0000000a.sef", "s0000000a.seh", "s0000000aaseg", "s0000000a-seg", "r0000000a.seg", "t0000000a.seg", "x0000000a.seg", "00000000a.seg", "0000000a.seg",
	"s0000000a.tmp", "s0000000a", "s0000000a.seg.", "s0000000a.seg.tm", "s0000000a.seg.tmpp", "s0000000a.seg-tmp", "s0000000a.segtmp", "s0000000a.tmp.seg", "s0000000a.seg.seg", "s0000000a.seg.tmp.tmp", "s0000000a.seg.tmp.seg", "s0000000a.seg.tmp ", ".tmps0000000a.seg", "s0000000a.tmp.tmp",
	"s0000000a.segs0000000a.seg", "s0000000a.seg/s0000000a.seg", strings.Repeat("0", 13), strings.Repeat("s", 17), strings.Repeat("0", 10000) + "a.seg",
}

func basesToName() []int {
	var list []int
	for base := range 70000 {
		list = append(list, base, impl.MaxNumber-base)
	}
	for base := 7; base <= impl.MaxNumber; base = base*3 + 1 {
		list = append(list, base, impl.MaxNumber-base)
	}
	return list
}

func checkReadName(t *testing.T, name string, kind, base int) {
	t.Helper()
	if gotKind, gotBase := impl.ReadName(name); gotKind != kind || gotBase != base {
		t.Errorf("ReadName(%.40q) = %d, %d; want %d, %d", name, gotKind, gotBase, kind, base)
	}
}

func checkNameOk(t *testing.T, name string, want bool) {
	t.Helper()
	if got := impl.NameOk(name); got != want {
		t.Errorf("NameOk(%.60q) = %v; want %v", name, got, want)
	}
}

func checkNextName(t *testing.T, base, many int, want string) {
	t.Helper()
	if got := impl.NextName(base, many); got != want {
		t.Errorf("NextName(%d, %d) = %q; want %q", base, many, got, want)
	}
}

func TestKindsOfNames(t *testing.T) {
	if impl.NmOther != 0 || impl.NmSegment != 1 || impl.NmTemp != 2 {
		t.Error("NmOther, NmSegment, NmTemp are", impl.NmOther, impl.NmSegment, impl.NmTemp)
	}
}

func TestNamesOfKnownBases(t *testing.T) {
	for _, c := range knownNames {
		if got := impl.SegmentName(c.base); got != c.name {
			t.Errorf("SegmentName(%d) = %q; want %q", c.base, got, c.name)
		}
		if got := impl.TempName(c.base); got != c.name+".tmp" {
			t.Errorf("TempName(%d) = %q; want %q", c.base, got, c.name+".tmp")
		}
		checkReadName(t, c.name, impl.NmSegment, c.base)
		checkReadName(t, c.name+".tmp", impl.NmTemp, c.base)
	}
}

func TestBasesComeBackFromTheirNames(t *testing.T) {
	for _, base := range basesToName() {
		segment, temp := impl.SegmentName(base), impl.TempName(base)
		if want := fmt.Sprintf("s%08x.seg", base); segment != want || temp != want+".tmp" {
			t.Errorf("the names of %d are %q and %q; want %q, and that with .tmp", base, segment, temp, want)
		}
		checkReadName(t, segment, impl.NmSegment, base)
		checkReadName(t, temp, impl.NmTemp, base)
		checkNameOk(t, segment, true)
		checkNameOk(t, temp, true)
	}
}

func TestNamesRiseWithTheirBases(t *testing.T) {
	bases := basesToName()
	slices.Sort(bases)
	bases = slices.Compact(bases)
	for i := 1; i < len(bases); i++ {
		a, b := impl.SegmentName(bases[i-1]), impl.SegmentName(bases[i])
		if a >= b {
			t.Errorf("%q of %d is not less than %q of %d", a, bases[i-1], b, bases[i])
		}
	}
}

func TestNoBaseHasNoName(t *testing.T) {
	for _, base := range notABase {
		if got := impl.SegmentName(base); got != "" {
			t.Errorf("SegmentName(%d) = %q; want nothing", base, got)
		}
		if got := impl.TempName(base); got != "" {
			t.Errorf("TempName(%d) = %q; want nothing", base, got)
		}
	}
}

func TestOtherNamesAreNeither(t *testing.T) {
	for _, name := range otherNames {
		checkReadName(t, name, impl.NmOther, 0)
	}
}

// A name with one byte changed is that of just the base, if any, whose names it is one of.
func TestReadNameWithAByteChanged(t *testing.T) {
	for _, base := range []int{0, 10, 0xabcdef, 0x3b9ac9ff, impl.MaxNumber} {
		for _, name := range []string{impl.SegmentName(base), impl.TempName(base)} {
			for i := range len(name) {
				for b := range 256 {
					changed := name[:i] + string([]byte{byte(b)}) + name[i+1:]
					kind, want := slowReadName(changed)
					checkReadName(t, changed, kind, want)
				}
			}
		}
	}
}

func TestReadNameWithAByteMoreOrLess(t *testing.T) {
	for _, name := range []string{impl.SegmentName(10), impl.TempName(10), impl.SegmentName(0), impl.TempName(impl.MaxNumber)} {
		for i := range len(name) {
			checkReadName(t, name[:i]+name[i+1:], impl.NmOther, 0)
		}
		for i := range len(name) + 1 {
			for b := range 256 {
				checkReadName(t, name[:i]+string([]byte{byte(b)})+name[i:], impl.NmOther, 0)
			}
		}
	}
}

func TestReadNameOfEachBeginning(t *testing.T) {
	const whole = "s0000000a.seg.tmp"
	for i := range len(whole) {
		if i == len(whole)-len(".tmp") {
			checkReadName(t, whole[:i], impl.NmSegment, 10)
			continue
		}
		checkReadName(t, whole[:i], impl.NmOther, 0)
	}
}

// Reads figure by figure what has the bytes of a name around them.
func slowReadName(name string) (int, int) {
	kind := impl.NmSegment
	if len(name) == 17 && name[13:] == ".tmp" {
		kind, name = impl.NmTemp, name[:13]
	}
	if len(name) != 13 || name[0] != 's' || name[9:] != ".seg" {
		return impl.NmOther, 0
	}
	base := 0
	for _, figure := range []byte(name[1:9]) {
		worth := strings.IndexByte("0123456789abcdef", figure)
		if worth < 0 {
			return impl.NmOther, 0
		}
		base = base*16 + worth
	}
	if base > impl.MaxNumber {
		return impl.NmOther, 0
	}
	return kind, base
}

func TestNameOkOfEachByte(t *testing.T) {
	const allowed = "abcdefghijklmnopqrstuvwxyz0123456789.-"
	for b := range 256 {
		text, want := string([]byte{byte(b)}), strings.IndexByte(allowed, byte(b)) >= 0
		checkNameOk(t, text, want)
		for _, rest := range []string{"a", "a.b-1", "s0000000a.seg", strings.Repeat("z", 19)} {
			checkNameOk(t, text+rest, want)
			checkNameOk(t, rest+text, want)
			checkNameOk(t, rest[:len(rest)/2]+text+rest[len(rest)/2:], want)
		}
	}
}

func TestNameOkLimits(t *testing.T) {
	checkNameOk(t, "", false)
	for _, part := range []string{"a", "z", "0", "9", ".", "-"} {
		for length := 1; length <= 20; length++ {
			checkNameOk(t, strings.Repeat(part, length), true)
		}
		for _, length := range []int{21, 22, 40, 256, 257, 276, 100000} {
			checkNameOk(t, strings.Repeat(part, length), false)
		}
	}
	checkNameOk(t, "abcdefghijklmnopqrst", true)
	checkNameOk(t, "abcdefghijklmnopqrstu", false)
	checkNameOk(t, "uvwxyz0123456789.-..", true)
}

func TestNameOkRefuses(t *testing.T) {
	for _, name := range []string{"A", "a.b-A", "Z9", "s0000000A.seg", "a b", " a", "a ", "a_b", "a/b", "a\\b", "a:b", "a+b", "a,b", "a\n", "\x00", "a\x00", "\u00e9", "a\u00e9", "\u017f", "\u212a", "\uff41", "\xff", "\xe1", "a\x80", strings.Repeat("\u00e9", 10), strings.Repeat("A", 20)} {
		checkNameOk(t, name, false)
	}
}

func TestNextNameIsThatOfBothTogether(t *testing.T) {
	checkNextName(t, 3, 7, "s0000000a.seg")
	checkNextName(t, 0, 0, "s00000000.seg")
	checkNextName(t, 10, 0, "s0000000a.seg")
	checkNextName(t, 0, 10, "s0000000a.seg")
	checkNextName(t, 15, 1, "s00000010.seg")
	checkNextName(t, 255, 1, "s00000100.seg")
	for base := range 300 {
		for many := range 300 {
			checkNextName(t, base, many, impl.SegmentName(base+many))
		}
	}
	for _, base := range basesToName()[:2000] {
		checkNextName(t, base, impl.MaxNumber-base, "s3b9aca00.seg")
		checkNextName(t, base, impl.MaxNumber-base+1, "")
	}
}

func TestNextNameLimits(t *testing.T) {
	const most = impl.MaxNumber
	for _, c := range [][2]int{{most, 0}, {0, most}, {most - 1, 1}, {1, most - 1}, {most / 2, most / 2}} {
		checkNextName(t, c[0], c[1], "s3b9aca00.seg")
		checkNextName(t, c[0]+1, c[1], "")
		checkNextName(t, c[0], c[1]+1, "")
	}
	for _, c := range [][2]int{
		{-1, 0}, {0, -1}, {-1, 1}, {1, -1}, {-1, -1}, {-3, 10}, {10, -3}, {-1, most}, {most, -1}, {-1, most + 1}, {most + 1, -1}, {most + 10, -10}, {-10, most + 10},
		{math.MaxInt, 0}, {0, math.MaxInt}, {math.MaxInt, 1}, {1, math.MaxInt}, {math.MaxInt, math.MaxInt}, {math.MinInt, 0}, {0, math.MinInt}, {math.MinInt, math.MinInt}, {math.MinInt, math.MaxInt}, {math.MaxInt, math.MinInt}, {math.MinInt, math.MinInt + 10},
		{math.MinInt, -1}, {-1, math.MinInt}, {math.MaxInt, most}, {most, math.MaxInt}, {-2, math.MaxInt}, {math.MinInt + 5, math.MaxInt}, {1 << 32, 0}, {0, 1 << 32}, {1 << 62, 1 << 62},
	} {
		checkNextName(t, c[0], c[1], "")
	}
}

func TestSortedNames(t *testing.T) {
	cases := []struct{ list, want []string }{
		{nil, nil},
		{[]string{}, nil},
		{[]string{""}, nil},
		{[]string{"a"}, []string{"a"}},
		{[]string{"a", "a"}, []string{"a"}},
		{[]string{"b", "a"}, []string{"a", "b"}},
		{[]string{"b", "a", "b", "a", "b"}, []string{"a", "b"}},
		{[]string{"a", "A", "b"}, []string{"a", "b"}},
		{[]string{"A", "B", "", "a b", "\xff"}, nil},
		{[]string{"aa", "a", "a.", "a-", "a0", "ab"}, []string{"a", "a-", "a.", "a0", "aa", "ab"}},
		{[]string{"a", "9", ".", "-", "z", "0"}, []string{"-", ".", "0", "9", "a", "z"}},
		{[]string{"10", "9", "1", "2"}, []string{"1", "10", "2", "9"}},
		{[]string{"s0000000a.seg.tmp", "s0000000b.seg", "s0000000A.seg", "s0000000a.seg", "s00000009.seg"}, []string{"s00000009.seg", "s0000000a.seg", "s0000000a.seg.tmp", "s0000000b.seg"}},
		{[]string{strings.Repeat("b", 21), strings.Repeat("b", 20), strings.Repeat("a", 21), strings.Repeat("b", 19)}, []string{strings.Repeat("b", 19), strings.Repeat("b", 20)}},
	}
	for _, c := range cases {
		if got := impl.SortedNames(c.list); !slices.Equal(got, c.want) {
			t.Errorf("SortedNames(%.200q) = %.200q; want %.200q", c.list, got, c.want)
		}
	}
}

func TestSortedNamesOfAnyOrder(t *testing.T) {
	list := shortTexts("Ab0.-_")
	want := slowSortedNames(list)
	for step := range 40 {
		moved := slices.Concat(list[step*len(list)/40:], list[:step*len(list)/40], list[:step])
		if step%2 == 1 {
			slices.Reverse(moved)
		}
		if got := impl.SortedNames(moved); !slices.Equal(got, want) {
			t.Errorf("SortedNames of %d names, step %d, has %d; want %d", len(moved), step, len(got), len(want))
		}
	}
}

func slowSortedNames(list []string) []string {
	names := map[string]bool{}
	for _, name := range list {
		if name != "" && strings.Trim(name, "abcdefghijklmnopqrstuvwxyz0123456789.-") == "" {
			names[name] = true
		}
	}
	return slices.Sorted(maps.Keys(names))
}

func TestSortedNamesLeavesItsArgument(t *testing.T) {
	room := []string{"d", "b", "B", "c", "b", "", "y", "x"}
	before := slices.Clone(room)
	for _, list := range [][]string{room[:6], room[:2], room[:1], room[3:4], room[:0]} {
		got := impl.SortedNames(list)
		for i := range got {
			got[i] = "other"
		}
		_ = append(got, "more")
		if !slices.Equal(room, before) {
			t.Fatalf("SortedNames, or a change of what it answers, writes into its argument: %q", room)
		}
	}
	rising := []string{"a", "b", "c"}
	got := impl.SortedNames(rising)
	rising[0] = "z"
	if !slices.Equal(got, []string{"a", "b", "c"}) {
		t.Errorf("SortedNames shares its memory with a list that is in order: %q", got)
	}
}
