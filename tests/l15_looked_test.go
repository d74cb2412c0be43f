package tests

import (
	"fmt"
	"math"
	"slices"
	"strings"
	"testing"

	"loop.example/g00971/impl"
)

// wrongCodes are those of no finding.
var wrongCodes = []int{0, 5, 6, 7, 10, -1, -2, -3, -4, -5, 255, 256, 257, 258, 1<<32 + 1, 1<<32 + 4, math.MaxInt, math.MinInt, math.MinInt + 1, math.MinInt + 4}

// seen is what the functions of the chapter answer of a disk.
type seen struct {
	findings []impl.Finding
	versions []int
}

// slowSeen is built on the slow ways of rows, scans and sealed files alone.
func slowSeen(d impl.Disk) seen {
	told := slowToldRow(d)
	var want seen
	for _, text := range told.texts {
		want.versions = append(want.versions, int(text[4]))
	}
	for _, entry := range d.Entries {
		kind, base := slowReadName(entry.Name)
		code := 0
		if kind == impl.NmTemp {
			code = 1
		} else if kind == impl.NmSegment {
			code = slowCodeAt(told, base)
		}
		if code != 0 {
			want.findings = append(want.findings, impl.Finding{Name: entry.Name, Code: code})
		}
	}
	return want
}

func slowCodeAt(told toldRow, base int) int {
	at := slices.Index(told.chain, base)
	if at < 0 {
		return 2
	}
	text := told.texts[at]
	if _, _, ok := slowReadSealed(text); ok {
		return 0
	}
	if slowScan(text).End == len(text) {
		return 3
	}
	return 4
}

func slowNamesWith(list []impl.Finding, code int) []string {
	var names []string
	for _, one := range list {
		if one.Code == code {
			names = append(names, one.Name)
		}
	}
	return names
}

// checkSeen asks every function of the chapter that looks at a disk.
func checkSeen(t *testing.T, what string, d impl.Disk, want seen) {
	t.Helper()
	if got := impl.Looked(d); !slices.Equal(got, want.findings) {
		t.Errorf("%s: Looked(%s) = %v; want %v", what, shown(d), got, want.findings)
	}
	if got := impl.CleanOn(d); got != (len(want.findings) == 0) {
		t.Errorf("%s: CleanOn(%s) = %v; what is found is %v", what, shown(d), got, want.findings)
	}
	for code := -1; code <= 5; code++ {
		checkNamesWith(t, d, code, slowNamesWith(want.findings, code)...)
	}
	checkVersions(t, what, d, want.versions...)
}

func checkNamesWith(t *testing.T, d impl.Disk, code int, want ...string) {
	t.Helper()
	if got := impl.NamesWith(d, code); !slices.Equal(got, want) {
		t.Errorf("NamesWith(%s, %d) = %q; want %q", shown(d), code, got, want)
	}
}

func checkVersions(t *testing.T, what string, d impl.Disk, want ...int) {
	t.Helper()
	if got := impl.VersionsOn(d); !slices.Equal(got, want) {
		t.Errorf("%s: VersionsOn(%s) = %v; want %v", what, shown(d), got, want)
	}
	old := 0
	for _, version := range want {
		if version == 1 {
			old++
		}
	}
	if got := impl.OldOn(d); got != old {
		t.Errorf("%s: OldOn(%s) = %d; want %d", what, shown(d), got, old)
	}
}

// checkLook is for findings that the test tells; the versions are held against the slow way.
func checkLook(t *testing.T, what string, d impl.Disk, findings ...impl.Finding) {
	t.Helper()
	checkSeen(t, what, d, seen{findings, slowSeen(d).versions})
}

func checkClean(t *testing.T, what string, d impl.Disk) {
	t.Helper()
	checkLook(t, what, d)
}

func tempName(base int) string { return nameOf(base) + ".tmp" }

func tempAt(base int) impl.Finding { return impl.Finding{Name: tempName(base), Code: 1} }

func looseAt(base int) impl.Finding { return impl.Finding{Name: nameOf(base), Code: 2} }

func openAt(base int) impl.Finding { return impl.Finding{Name: nameOf(base), Code: 3} }

func brokenAt(base int) impl.Finding { return impl.Finding{Name: nameOf(base), Code: 4} }

// findingsOf has a finding for each file whose code is not 0.
func findingsOf(files []rowFile, codes ...int) []impl.Finding {
	var list []impl.Finding
	for n, code := range codes {
		if code != 0 {
			list = append(list, impl.Finding{Name: files[n].name, Code: code})
		}
	}
	return list
}

// ended is a text that ends in some way behind the frames, and the code that is told of it when it is of the chain.
type ended struct {
	text string
	code int
}

// waysToEnd are ways in which the file of this sealed text may end; all of them have its frames.
func waysToEnd(sealed string) []ended {
	scan := slowScan(sealed)
	frames, foot := sealed[:scan.End], sealed[scan.End:]
	place := scan.Head.Base + len(scan.Records)
	mark := slowMark(scan.Head.Version, place)
	other := scan.Head
	other.Stride++
	return []ended{
		{sealed, 0},
		{frames, 3},
		{frames + "\x00", 4},
		{frames + "more bytes", 4},
		{frames + slowFrame(scan.Head.Version, place, "torn")[:7], 4},
		{frames + slowFrame(3-scan.Head.Version, place, "of the other form"), 4},
		{frames + slowMark(3-scan.Head.Version, place), 4},
		{frames + mark, 4},
		{frames + mark[:len(mark)-1], 4},
		{sealed[:len(sealed)-1], 4},
		{sealed[:len(sealed)-20], 4},
		{withByte(sealed, len(sealed)-1, '?'), 4},
		{withByte(sealed, scan.End+len(mark), '\x77'), 4},
		{withByte(sealed, scan.End, '\xfe'), 4},
		{frames + slowFoot(other, scan.Offsets, scan.End), 4},
		{sealed + "\x00", 4},
		{sealed + foot, 4},
		{sealed + sealed, 4},
	}
}

// endedIn is waysToEnd for a file that has these records behind those ahead, in both forms.
func endedIn(ahead []string, records ...string) []ended {
	var list []ended
	for _, sealed := range []ending{sealedNew, sealedOld} {
		list = append(list, waysToEnd(fileOf(ahead, sealed, records...).text)...)
	}
	return list
}

func TestAKnownLook(t *testing.T) {
	first := slowSeal(headOf(1, 1, 0, 0), "a", "b")
	link := slowLink(slowLink(0, "a"), "b")
	second := slowSeal(headOf(2, 3, 2, link), "c") + "behind"
	third := slowFile(headOf(1, 2, 3, slowLink(link, "c")), "", "d")
	d := rowDisk(fileAt(0, first), fileAt(2, second), fileAt(3, third), fileAt(9, second), emptyFile("s00000002.seg.tmp"), emptyFile("s00000007.seg.tmp"), emptyFile("readme"), emptyFile("a"))
	checkDiskOk(t, "a known look", d, true)
	checkSeen(t, "a known look", d, seen{
		findings: []impl.Finding{{Name: "s00000002.seg", Code: impl.LkBroken}, {Name: "s00000002.seg.tmp", Code: impl.LkTemp}, {Name: "s00000003.seg", Code: impl.LkOpen}, {Name: "s00000007.seg.tmp", Code: impl.LkTemp}, {Name: "s00000009.seg", Code: impl.LkLoose}},
		versions: []int{impl.VsOld, impl.VsNew, impl.VsOld},
	})
	checkNamesWith(t, d, impl.LkTemp, "s00000002.seg.tmp", "s00000007.seg.tmp")
	checkNamesWith(t, d, impl.LkLoose, "s00000009.seg")
	checkNamesWith(t, d, impl.LkOpen, "s00000003.seg")
	checkNamesWith(t, d, impl.LkBroken, "s00000002.seg")
}

func TestFindingName(t *testing.T) {
	codes := []int{impl.LkTemp, impl.LkLoose, impl.LkOpen, impl.LkBroken}
	if !slices.Equal(codes, []int{1, 2, 3, 4}) {
		t.Errorf("the codes of findings are %v", codes)
	}
	for n, want := range []string{"temp", "loose", "open", "broken"} {
		if got := impl.FindingName(codes[n]); got != want {
			t.Errorf("FindingName(%d) = %q; want %q", codes[n], got, want)
		}
	}
	for _, code := range wrongCodes {
		if got := impl.FindingName(code); got != "?" {
			t.Errorf("FindingName(%d) = %q; want ?", code, got)
		}
	}
}

func TestALookAtDisksWithoutFilesOfRecords(t *testing.T) {
	checkSeen(t, "a new disk", impl.DiskNew(9), seen{})
	checkSeen(t, "the zero value", impl.Disk{}, seen{})
	for _, d := range append(rightDisks(), brokenDisks()...) {
		checkSeen(t, "names that are none of both", d, seen{})
	}
	// Nodes without a name are not looked at.
	files := filesOf(threeParts, openNew)
	nameless := rowDisk(files...)
	nameless.Entries, nameless.Old = nil, nil
	checkDiskOk(t, "nodes without a name", nameless, true)
	checkSeen(t, "nodes without a name", nameless, seen{})
}

func TestALookAtNamesThatAreNoneOfBoth(t *testing.T) {
	files := filesOf(threeParts, sealedNew)
	begin := files[0].text
	for _, name := range otherNames {
		alone := diskInOrder(rowFile{name, begin})
		checkSeen(t, "another name alone", alone, seen{})
		checkDiskOk(t, name, alone, impl.NameOk(name))
		beside := rowDisk(append(files, rowFile{name, begin})...)
		checkSeen(t, "another name beside a row", beside, seen{nil, []int{2, 2, 2}})
		found := rowDisk(fileAt(1, ""), rowFile{name, "x"}, emptyFile(tempName(0)))
		checkSeen(t, "another name beside two that are told", found, seen{[]impl.Finding{tempAt(0), looseAt(1)}, nil})
	}
	checkClean(t, "many other names", rowDisk(append(files, emptyFile("a"), emptyFile("s00000002.seg.tm"), emptyFile("s3b9aca01.seg"), emptyFile("z"), emptyFile("s3b9aca01.seg.tmp"), emptyFile("s0000000.seg"), emptyFile("s0000000g.seg"))...))
}

func TestALookAtTemporaryNames(t *testing.T) {
	files := filesOf(threeParts, sealedOld, sealedNew)
	next := fileOf(slices.Concat(threeParts...), sealedNew, "next")
	for _, base := range []int{0, 1, 2, 3, 4, 6, 10, 255, impl.MaxNumber - 1, impl.MaxNumber} {
		// Whatever bytes it has: none, those of a file that would go on, or others.
		for _, text := range []string{"", "x", files[0].text, files[2].text, next.text} {
			temp := rowFile{tempName(base), text}
			checkLook(t, "a temporary name alone", rowDisk(temp), tempAt(base))
			checkLook(t, "a temporary name beside a row", rowDisk(append(files, temp)...), tempAt(base))
			if base != 0 && base != 2 && base != 3 && fileAt(base, text) != next {
				checkLook(t, "a temporary name of a base that is loose", rowDisk(append(files, temp, fileAt(base, text))...), looseAt(base), tempAt(base))
			}
		}
	}
	checkLook(t, "a next file, and its temporary name", rowDisk(append(files, next, rowFile{next.name + ".tmp", next.text})...), tempAt(6))
	checkLook(t, "the first file, with a temporary name", rowDisk(rowFile{tempName(0), files[0].text}, files[1], files[2]), tempAt(0), looseAt(2), looseAt(3))
	checkLook(t, "the next file, with a temporary name", rowDisk(files[0], rowFile{tempName(2), files[1].text}, files[2]), tempAt(2), looseAt(3))
	checkLook(t, "temporary names of all files", rowDisk(append(files, emptyFile(tempName(0)), emptyFile(tempName(2)), emptyFile(tempName(3)))...), tempAt(0), tempAt(2), tempAt(3))
	// Each of both is told, in the order of the names: the one that is a beginning of the other first.
	checkLook(t, "open files, each with a temporary name", rowDisk(append(filesOf(threeParts, openOld), emptyFile(tempName(0)), emptyFile(tempName(3)))...), openAt(0), tempAt(0), openAt(2), openAt(3), tempAt(3))
}

func TestALookAtFilesThatAreLoose(t *testing.T) {
	for _, end := range []ending{openNew, openOld, sealedNew, sealedOld, {2, true, "x"}, {1, false, "\x00"}} {
		own := 3
		if end.sealed {
			own = 0
		}
		if end.behind != "" {
			own = 4
		}
		files := filesOf(threeParts, end)
		first := findingsOf(files, own)
		with := func(more ...impl.Finding) []impl.Finding { return append(slices.Clone(first), more...) }
		checkLook(t, "a gap behind the first file", rowDisk(files[0], files[2]), with(looseAt(3))...)
		checkLook(t, "a gap ahead of all", rowDisk(files[1], files[2]), looseAt(2), looseAt(3))
		link := slowLinkOf(threeParts[0])
		for _, version := range bothForms {
			h := headOf(version, 2, 2, link)
			texts := []string{"", "x", slowSeal(h), slowHeadText(h)[:23], slowSeal(headOf(version, 2, 2, link+1), "c"), slowSeal(headOf(version, 2, 3, link), "c"), slowSeal(headOf(version, 2, 1, link), "c"), slowFile(headOf(version, 2, 2, 0), "c"), slowFile(headOf(version, 2, 0, 0), "a", "b")}
			for _, behind := range noRecords(version, 2) {
				texts = append(texts, slowHeadText(h)+behind)
			}
			for _, text := range texts {
				checkLook(t, "a last file that does not go on", rowDisk(files[0], fileAt(2, text)), with(looseAt(2))...)
				checkLook(t, "a file in the middle that does not go on", rowDisk(files[0], fileAt(2, text), files[2]), with(looseAt(2), looseAt(3))...)
			}
			for _, text := range []string{"", slowSeal(headOf(version, 1, 0, 0)), slowSeal(headOf(version, 1, 0, 1), "a", "b"), slowSeal(headOf(version, 1, 1, 0), "a", "b"), files[0].text[1:]} {
				checkLook(t, "a first file that is none", rowDisk(fileAt(0, text), files[1], files[2]), looseAt(0), looseAt(2), looseAt(3))
			}
		}
		checkLook(t, "one of a far base", rowDisk(files[0], fileAt(impl.MaxNumber, files[1].text)), with(looseAt(impl.MaxNumber))...)
		checkLook(t, "one that is there twice", rowDisk(files[0], fileAt(1, files[0].text)), with(looseAt(1))...)
	}
}

// A sealed file without records is as it should be by its bytes, but goes on with nothing, so that it is loose.
func TestALookAtASealedFileWithoutRecords(t *testing.T) {
	for _, version := range bothForms {
		files := filesOf(threeParts, sealedNew)
		row := slices.Concat(threeParts...)
		empty := slowSeal(headOf(version, 1, len(row), slowLinkOf(row)))
		checkLook(t, "behind a row", rowDisk(append(files, fileAt(len(row), empty))...), looseAt(len(row)))
		checkLook(t, "alone", rowDisk(fileAt(0, slowSeal(headOf(version, 1, 0, 0)))), looseAt(0))
	}
}

func TestEachWayInWhichTheLastFileEnds(t *testing.T) {
	for _, last := range endedIn(nil, "a", "", "bc") {
		files := []rowFile{fileAt(0, last.text)}
		checkLook(t, "one file", rowDisk(files...), findingsOf(files, last.code)...)
	}
	for _, ahead := range endedIn(nil, threeParts[0]...) {
		for _, last := range endedIn(threeParts[0], threeParts[1]...) {
			files := []rowFile{fileAt(0, ahead.text), fileAt(2, last.text)}
			checkLook(t, "two files", rowDisk(files...), findingsOf(files, ahead.code, last.code)...)
		}
	}
}

// What is told of a file does not hang on where it is in the chain, nor on those beside it.
func TestEachWayInWhichAFileOfTheMiddleEnds(t *testing.T) {
	begins, ends := endedIn(nil, threeParts[0]...), endedIn([]string{"a", "b", "c"}, threeParts[2]...)
	for _, middle := range endedIn(threeParts[0], threeParts[1]...) {
		for n := range begins {
			first, last := begins[n], ends[(n*5+1)%len(ends)]
			files := []rowFile{fileAt(0, first.text), fileAt(2, middle.text), fileAt(3, last.text)}
			d := rowDisk(files...)
			checkLook(t, "three files", d, findingsOf(files, first.code, middle.code, last.code)...)
			checkVersions(t, "three files", d, int(first.text[4]), int(middle.text[4]), int(last.text[4]))
		}
	}
}

func TestALookAtChainsOfMaxFilesAndMore(t *testing.T) {
	for _, ends := range [][]ending{{sealedNew}, {sealedOld}, {sealedOld, sealedNew}, {sealedNew, sealedNew, sealedOld}} {
		files := filesOf(partsOfOne(18), ends...)
		for many := range 19 {
			var loose []impl.Finding
			for base := 16; base < many; base++ {
				loose = append(loose, looseAt(base))
			}
			d := rowDisk(files[:many]...)
			checkDiskOk(t, "so many files", d, many <= 16)
			checkLook(t, "so many files", d, loose...)
		}
		full := files[:16]
		for n, file := range full {
			for _, way := range waysToEnd(file.text) {
				changed := slices.Clone(full)
				changed[n].text = way.text
				codes := make([]int, 16)
				codes[n] = way.code
				checkLook(t, "one of MaxFiles files", rowDisk(changed...), findingsOf(changed, codes...)...)
			}
			changed := slices.Clone(full)
			changed[n].name = tempName(n)
			want := []impl.Finding{tempAt(n)}
			for base := n + 1; base < 16; base++ {
				want = append(want, looseAt(base))
			}
			checkLook(t, "one of MaxFiles files has a temporary name", rowDisk(changed...), want...)
		}
	}
	// All of them at once, each with another ending; with the limit of the chain, those behind it are loose, whatever they are.
	for shift := range 36 {
		var files []rowFile
		var codes []int
		var row []string
		for base, part := range partsOfOne(18) {
			ways := endedIn(row, part...)
			way := ways[(base*7+shift)%len(ways)]
			files, codes, row = append(files, fileAt(base, way.text)), append(codes, way.code), append(row, part...)
		}
		codes[16], codes[17] = 2, 2
		for many := range 19 {
			checkLook(t, "files of each ending", rowDisk(files[:many]...), findingsOf(files, codes[:many]...)...)
		}
	}
}

func TestALookAtAFileCutAtEachPlace(t *testing.T) {
	for _, end := range []ending{sealedNew, sealedOld, openNew, openOld} {
		for _, version := range bothForms {
			ahead := fileOf(nil, ending{version, true, ""}, "x")
			whole := fileOf([]string{"x"}, end, "a", "", "bcd")
			scan := slowScan(whole.text)
			for cut := range whole.text {
				want := []impl.Finding{brokenAt(1)}
				if cut < scan.Offsets[1] {
					want = []impl.Finding{looseAt(1)}
				} else if cut == scan.End || slices.Contains(scan.Offsets, cut) {
					want = []impl.Finding{openAt(1)}
				}
				checkLook(t, fmt.Sprint("cut at ", cut), rowDisk(ahead, fileAt(1, whole.text[:cut])), want...)
			}
		}
	}
}

func TestALookAtAFileOfWhichAByteIsTurned(t *testing.T) {
	for _, ends := range [][]ending{{sealedNew}, {sealedOld}, {sealedOld, sealedNew}, {sealedNew, sealedOld}} {
		files := filesOf(threeParts, ends...)
		for n, file := range files {
			scan := slowScan(file.text)
			for at := range file.text {
				for _, bits := range []byte{1, 0x80, 0xff} {
					codes := make([]int, 3)
					codes[n] = 4
					if len(scan.Offsets) == 1 && at < scan.End || len(scan.Offsets) > 1 && at < scan.Offsets[1] {
						codes[n] = 2
					}
					for behind := n + 1; at < scan.End && behind < 3; behind++ {
						codes[behind] = 2
					}
					changed := slices.Clone(files)
					changed[n].text = withByte(file.text, at, file.text[at]^bits)
					checkLook(t, fmt.Sprintf("the byte %d of the file %d", at, n), rowDisk(changed...), findingsOf(files, codes...)...)
				}
			}
		}
	}
}

// A foot is read by whoever wrote it: what it tells must be what stands ahead of it, though its sum stands.
func TestALookAtAFootThatTellsSomethingElse(t *testing.T) {
	for _, version := range bothForms {
		h, records := headOf(version, 2, 0, 0), []string{"a", "bc", ""}
		scan := scanOf(h, true, records...)
		mark, places := slowMark(version, 3), slowPlacesText(slowPlacesOf(2, scan.Offsets))
		checkClean(t, "the foot as it should be", rowDisk(fileAt(0, withFoot(h, records, mark, places, scan.End, 3, 2))))
		for _, text := range []string{
			withFoot(h, records, mark, places, scan.End+1, 3, 2), withFoot(h, records, mark, places, scan.End, 2, 2), withFoot(h, records, mark, places, scan.End, 3, 1),
			withFoot(h, records, mark, slowPlacesText(slowPlacesOf(1, scan.Offsets)), scan.End, 3, 2), withFoot(h, records, mark, "\x00", scan.End, 3, 2), withFoot(h, records, mark+mark, places, scan.End, 3, 2),
		} {
			checkLook(t, "a foot that tells something else", rowDisk(fileAt(0, text)), brokenAt(0))
		}
	}
}

// More records than can be sealed are broken when they have a foot, and open without one.
func TestALookAtAFileOfManyRecords(t *testing.T) {
	for _, version := range bothForms {
		h := headOf(version, 20, 0, 0)
		checkClean(t, "1000 records", rowDisk(fileAt(0, footedFile(h, manyRecords(1000)...))))
		checkLook(t, "1001 records", rowDisk(fileAt(0, footedFile(h, manyRecords(1001)...))), brokenAt(0))
		checkLook(t, "1001 records without a foot", rowDisk(fileAt(0, slowFrames(h, manyRecords(1001)))), openAt(0))
	}
}

func TestVersionsOfTheChain(t *testing.T) {
	checkVersions(t, "no names", impl.DiskNew(9))
	checkVersions(t, "no chain", rowDisk(fileAt(1, fileOf(nil, sealedOld, "a").text), emptyFile(tempName(0)), fileAt(0, slowSeal(headOf(1, 1, 0, 0)))))
	for many := range 17 {
		parts := partsOfOne(many)
		checkVersions(t, "the older form alone", rowDisk(filesOf(parts, sealedOld, openOld)...), slices.Repeat([]int{1}, many)...)
		checkVersions(t, "the newer form alone", rowDisk(filesOf(parts, sealedNew, openNew)...), slices.Repeat([]int{2}, many)...)
		checkVersions(t, "both forms in turn", rowDisk(filesOf(parts, sealedOld, openNew)...), slices.Repeat([]int{1, 2}, 8)[:many]...)
		checkVersions(t, "two newer ones and an older one, in turn", rowDisk(filesOf(parts, openNew, ending{2, true, "x"}, ending{1, false, "\x00"})...), slices.Repeat([]int{2, 2, 1}, 6)[:many]...)
	}
	for _, version := range bothForms {
		own, other := ending{version, true, ""}, ending{3 - version, true, ""}
		row, files := slices.Concat(threeParts...), filesOf(threeParts, own)
		loose := []rowFile{fileAt(1, fileOf([]string{"a"}, other, "b").text), fileAt(4, fileOf(row, other, "f").text), fileAt(20, fileOf(nil, other, "a").text), fileAt(len(row), slowSeal(headOf(3-version, 1, len(row), slowLinkOf(row))))}
		d := rowDisk(append(slices.Clone(files), append(loose, rowFile{tempName(len(row)), fileOf(row, other, "f").text})...)...)
		checkVersions(t, "loose files of the other form", d, version, version, version)
		// The one of the other form goes on when it gets its name.
		checkVersions(t, "a next file of the other form", rowDisk(append(slices.Clone(files), fileOf(row, other, "f"))...), version, version, version, 3-version)
	}
	checkVersions(t, "more than MaxFiles files", rowDisk(filesOf(partsOfOne(18), sealedOld)...), slices.Repeat([]int{1}, 16)...)
}

func TestNamesWith(t *testing.T) {
	parts := append(partsOfOne(6), []string{"x", "y"})
	files := filesOf(parts, openNew, ending{1, true, "x"}, sealedOld, ending{2, false, "\x00"}, openOld)
	all := append(files, emptyFile(tempName(9)), emptyFile(tempName(1)), fileAt(7, ""), fileAt(impl.MaxNumber, "x"), emptyFile("readme"))
	d := rowDisk(all...)
	checkDiskOk(t, "files of each code", d, true)
	for range 2 {
		checkNamesWith(t, d, impl.LkTemp, tempName(1), tempName(9))
		checkNamesWith(t, d, impl.LkLoose, nameOf(7), nameOf(impl.MaxNumber))
		checkNamesWith(t, d, impl.LkOpen, nameOf(0), nameOf(4), nameOf(5))
		checkNamesWith(t, d, impl.LkBroken, nameOf(1), nameOf(3), nameOf(6))
		for _, code := range wrongCodes {
			checkNamesWith(t, d, code)
		}
	}
	// Of each code alone the other ones are not found there.
	for alone, disk := range map[int]impl.Disk{
		0: rowDisk(filesOf(parts, sealedNew)...), impl.LkTemp: rowDisk(emptyFile(tempName(0))), impl.LkLoose: rowDisk(emptyFile(nameOf(0))),
		impl.LkOpen: rowDisk(filesOf(parts[:1], openNew)...), impl.LkBroken: rowDisk(filesOf(parts[:1], ending{1, true, "x"})...),
	} {
		for _, code := range append([]int{1, 2, 3, 4}, wrongCodes...) {
			if code != alone || code == 0 {
				checkNamesWith(t, disk, code)
			}
		}
	}
}

// None of these is asked whether it is right: the names are told as they stand, and each of them as often as it stands.
func TestALookAtDisksThatAreNotRight(t *testing.T) {
	files := filesOf(threeParts, sealedNew, openOld)
	changes := []func(d *impl.Disk){
		func(d *impl.Disk) { d.Room = 0 },
		func(d *impl.Disk) { d.Next = 0 },
		func(d *impl.Disk) { d.Nodes[0].Sure = -1 },
		func(d *impl.Disk) { d.Nodes[1].Sure = 10000 },
		func(d *impl.Disk) { d.Old = nil },
		func(d *impl.Disk) { d.Steps = []string{"-" + nameOf(0), "?"} },
		func(d *impl.Disk) { slices.Reverse(d.Nodes) },
		func(d *impl.Disk) { slices.Reverse(d.Entries) },
		func(d *impl.Disk) { d.Nodes = append(d.Nodes, impl.Node{Id: 1, Text: "x"}, impl.Node{Id: 2}) },
		func(d *impl.Disk) { d.Nodes[0].Id, d.Entries[0].Id = -7, -7 },
		func(d *impl.Disk) {
			d.Entries = append(d.Entries, impl.Entry{Name: "", Id: 2}, impl.Entry{Name: "S", Id: 3}, impl.Entry{Name: strings.ToUpper(nameOf(2)), Id: 2})
		},
	}
	for n, change := range changes {
		d := rowDisk(files...)
		change(&d)
		checkDiskOk(t, fmt.Sprint("change ", n), d, false)
		checkLook(t, fmt.Sprint("change ", n), d, openAt(2))
	}
	lost := rowDisk(files...)
	lost.Nodes = lost.Nodes[:1]
	checkLook(t, "names of no node", lost, looseAt(2), looseAt(3))
	lost.Nodes = nil
	checkLook(t, "no nodes at all", lost, looseAt(0), looseAt(2), looseAt(3))
	order := diskInOrder(files[2], emptyFile(nameOf(9)), emptyFile(tempName(0)), files[1], emptyFile("b"), emptyFile(nameOf(7)), files[0], emptyFile(tempName(8)))
	checkDiskOk(t, "names out of order", order, false)
	checkLook(t, "names out of order", order, looseAt(9), tempAt(0), openAt(2), looseAt(7), tempAt(8))
	twice := diskInOrder(append(filesOf(threeParts, sealedNew, openOld), files[1], emptyFile(tempName(0)), emptyFile(tempName(0)), emptyFile(nameOf(9)), emptyFile(nameOf(9)), files[0])...)
	checkLook(t, "names that stand twice", twice, openAt(2), openAt(2), tempAt(0), tempAt(0), looseAt(9), looseAt(9))
	ahead := rowDisk(files...)
	ahead.Entries = append([]impl.Entry{{Name: nameOf(2), Id: 99}}, ahead.Entries...)
	checkLook(t, "a name that stands twice, first for no node", ahead, looseAt(2), looseAt(2), looseAt(3))
	// Bytes that are laid behind another node count for that one alone.
	shared := rowDisk(files...)
	shared.Entries[2].Id = shared.Entries[0].Id
	checkLook(t, "two names of one node", shared, openAt(2), looseAt(3))
}

// Entries tell which files there are, and all their bytes count, sure or not.
func TestALookBehindDeeds(t *testing.T) {
	files := filesOf(threeParts, sealedNew, sealedOld)
	open := slowScan(files[1].text).End
	d := mustDo(t, impl.DiskNew(900), deed{toCreate, nameOf(0), ""}, deed{toAppend, nameOf(0), files[0].text})
	checkClean(t, "one file that is not sure", d)
	d = mustDo(t, d, deed{toCreate, nameOf(2), ""})
	checkLook(t, "a new file", d, looseAt(2))
	d = mustDo(t, d, deed{toAppend, nameOf(2), files[1].text[:open-1]})
	checkLook(t, "the file with a torn record", d, looseAt(2))
	d = mustDo(t, d, deed{toAppend, nameOf(2), files[1].text[open-1 : open]}, deed{toSync, nameOf(0), ""}, deed{toSync, nameOf(2), ""}, deed{toSyncNames, "", ""})
	checkLook(t, "the file with its record", d, openAt(2))
	sure := d
	d = mustDo(t, d, deed{toAppend, nameOf(2), files[1].text[open : open+9]})
	checkLook(t, "the file with half of its foot", d, brokenAt(2))
	d = mustDo(t, d, deed{toAppend, nameOf(2), files[1].text[open+9:]})
	checkClean(t, "the file with its foot", d)
	checkLook(t, "behind a fall that takes the foot", impl.Fallen(d, 0, nil), openAt(2))
	checkLook(t, "behind a fall that takes some of the foot", impl.Fallen(d, 0, []int{12}), brokenAt(2))
	checkClean(t, "behind a fall that leaves all", impl.Fallen(d, 0, []int{900}))
	d = mustDo(t, sure, deed{toCreate, tempName(2), ""}, deed{toAppend, tempName(2), files[1].text})
	checkLook(t, "the same file anew, with a temporary name", d, openAt(2), tempAt(2))
	d = mustDo(t, d, deed{toRename, tempName(2), nameOf(2)})
	checkClean(t, "with its own name", d)
	checkLook(t, "behind a fall that takes the new name", impl.Fallen(d, 1, nil), openAt(2), tempAt(2))
	d = mustDo(t, d, deed{toRemove, nameOf(0), ""})
	checkLook(t, "without the first file", d, looseAt(2))
	checkClean(t, "without both", mustDo(t, d, deed{toRemove, nameOf(2), ""}))
}

func TestALookAtWhateverStandsOnADisk(t *testing.T) {
	pick := picks(15)
	var many [5]int
	clean := 0
	for range 3000 {
		d := pickedDisk(pick)
		want := slowSeen(d)
		checkSeen(t, "whatever stands on a disk", d, want)
		checkToldOnceAndWhy(t, d)
		for _, one := range want.findings {
			many[one.Code]++
		}
		if len(want.findings) == 0 {
			clean++
		}
		if t.Failed() {
			return
		}
	}
	if clean < 50 || slices.Min(many[1:]) < 50 {
		t.Errorf("of so many disks %d were clean, and so many findings were told of each code: %v", clean, many[1:])
	}
}

// checkToldOnceAndWhy goes by the program's own words, name by name, in the order of the names.
func checkToldOnceAndWhy(t *testing.T, d impl.Disk) {
	t.Helper()
	list, chain := impl.Looked(d), impl.Chain(d)
	next := 0
	for _, name := range impl.FileNames(d) {
		kind, base := impl.ReadName(name)
		text := impl.TextAt(d, base)
		inChain := kind == impl.NmSegment && slices.Contains(chain, base)
		if kind == impl.NmOther || inChain && impl.SealedOk(text) {
			continue
		}
		why := map[bool]string{true: "broken", false: "loose"}[inChain]
		if inChain && impl.TailOf(text) == "" {
			why = "open"
		}
		if kind == impl.NmTemp {
			why = "temp"
		}
		if next == len(list) || list[next].Name != name || impl.FindingName(list[next].Code) != why {
			t.Errorf("Looked(%s) = %v, in which %q should be the number %d, and %s", shown(d), list, name, next, why)
			return
		}
		next++
	}
	if next != len(list) {
		t.Errorf("Looked(%s) = %v; only the first %d should be told", shown(d), list, next)
	}
	loose := append(impl.NamesWith(d, impl.LkTemp), impl.NamesWith(d, impl.LkLoose)...)
	if told := impl.LooseNames(d); !slices.Equal(slices.Sorted(slices.Values(loose)), slices.Sorted(slices.Values(told))) {
		t.Errorf("%q are temporary or loose; LooseNames(%s) = %q", loose, shown(d), told)
	}
}

func TestDisksThatAreLookedAtAreLeftAsTheyAre(t *testing.T) {
	for _, files := range [][]rowFile{filesOf(threeParts, sealedNew, sealedOld), append(filesOf(threeParts, openNew, ending{1, true, "x"}), fileAt(9, "x"), emptyFile(tempName(2)))} {
		whole, d := withRoomBehind(rowDisk(files...))
		before := copyOfDisk(whole)
		want := slowSeen(d)
		for range 2 {
			checkSeen(t, "a disk that is looked at again", d, want)
			spoilLists(impl.Looked(d))
			spoilLists(impl.VersionsOn(d))
			spoilLists(impl.NamesWith(d, impl.LkTemp), impl.NamesWith(d, impl.LkLoose), impl.NamesWith(d, impl.LkOpen))
		}
		if !sameDisks(whole, before) {
			t.Errorf("a disk that was looked at is %s; it was %s", shown(whole), shown(before))
		}
	}
}
