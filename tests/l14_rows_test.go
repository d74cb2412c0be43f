package tests

import (
	"fmt"
	"math"
	"slices"
	"strings"
	"testing"

	"loop.example/g00971/impl"
)

// rowFile is a file that a disk is to have.
type rowFile struct{ name, text string }

func shown(d impl.Disk) string { return fmt.Sprintf("%.300q", fmt.Sprint(d)) }

func nameOf(base int) string { return fmt.Sprintf("s%08x.seg", base) }

func fileAt(base int, text string) rowFile { return rowFile{nameOf(base), text} }

// emptyFile has no bytes, whatever its name is.
func emptyFile(name string) rowFile { return rowFile{name, ""} }

// diskInOrder has the files in this order, each one sure; it is not right when their names do not rise.
func diskInOrder(files ...rowFile) impl.Disk {
	var list []impl.Entry
	var nodes []impl.Node
	room := 0
	for i, file := range files {
		list = append(list, impl.Entry{Name: file.name, Id: i + 1})
		nodes = append(nodes, impl.Node{Id: i + 1, Text: file.text})
		room += len(file.text)
	}
	return calmDisk(room, len(files)+1, list, nodes...)
}

// rowDisk has the files by name.
func rowDisk(files ...rowFile) impl.Disk {
	files = slices.Clone(files)
	slices.SortFunc(files, func(a, b rowFile) int { return strings.Compare(a.name, b.name) })
	return diskInOrder(files...)
}

func slowLinkOf(records []string) int {
	link := 0
	for _, record := range records {
		link = slowLink(link, record)
	}
	return link
}

// slowTextAt reads the names, where the program writes the one that it looks for. A base that is none has the empty name.
func slowTextAt(d impl.Disk, base int) string {
	for _, entry := range d.Entries {
		kind, told := slowReadName(entry.Name)
		if kind == impl.NmSegment && told != base || kind != impl.NmSegment && (entry.Name != "" || 0 <= base && base <= impl.MaxNumber) {
			continue
		}
		for _, node := range d.Nodes {
			if node.Id == entry.Id {
				return node.Text
			}
		}
		return ""
	}
	return ""
}

// toldRow is what all functions of the chapter answer of a disk.
type toldRow struct {
	bases, chain      []int
	texts, row, loose []string
}

// slowToldRow takes the base and the link of each next file from all records ahead of it, beginning anew with the first one.
func slowToldRow(d impl.Disk) toldRow {
	var told toldRow
	for len(told.chain) < 16 {
		text := slowTextAt(d, len(told.row))
		scan := slowScan(text)
		if !scan.Ok || len(scan.Records) == 0 || scan.Head.Base != len(told.row) || scan.Head.Link != slowLinkOf(told.row) {
			break
		}
		told.chain = append(told.chain, len(told.row))
		told.texts = append(told.texts, text)
		told.row = append(told.row, scan.Records...)
	}
	for _, entry := range d.Entries {
		kind, base := slowReadName(entry.Name)
		if kind == impl.NmSegment {
			told.bases = withNumber(told.bases, base)
		}
		if kind == impl.NmTemp || kind == impl.NmSegment && !slices.Contains(told.chain, base) {
			told.loose = append(told.loose, entry.Name)
		}
	}
	return told
}

// withNumber puts one number more into a list that rises, ahead of the first one that is above it.
func withNumber(list []int, n int) []int {
	at := 0
	for at < len(list) && list[at] <= n {
		at++
	}
	return slices.Insert(slices.Clone(list), at, n)
}

// checkTold asks every function of the chapter.
func checkTold(t *testing.T, what string, d impl.Disk, want toldRow) {
	t.Helper()
	got := toldRow{impl.BasesOn(d), impl.Chain(d), impl.ChainTexts(d), impl.RowOf(d), impl.LooseNames(d)}
	if !slices.Equal(got.bases, want.bases) {
		t.Errorf("%s: BasesOn(%s) = %v; want %v", what, shown(d), got.bases, want.bases)
	}
	if !slices.Equal(got.chain, want.chain) {
		t.Errorf("%s: Chain(%s) = %v; want %v", what, shown(d), got.chain, want.chain)
	}
	if !slices.Equal(got.texts, want.texts) {
		t.Errorf("%s: ChainTexts(%s) = %.300q; want %.300q", what, shown(d), got.texts, want.texts)
	}
	if !slices.Equal(got.row, want.row) {
		t.Errorf("%s: RowOf(%s) = %.300q; want %.300q", what, shown(d), got.row, want.row)
	}
	if !slices.Equal(got.loose, want.loose) {
		t.Errorf("%s: LooseNames(%s) = %q; want %q", what, shown(d), got.loose, want.loose)
	}
	if got, link := impl.RowLink(d), slowLinkOf(want.row); got != link {
		t.Errorf("%s: RowLink(%s) = %d; want %d", what, shown(d), got, link)
	}
	for n, base := range want.chain {
		checkTextAt(t, d, base, want.texts[n])
		for _, beside := range []int{base - 1, base, base + 1} {
			checkBehind(t, d, beside, slowBehind(want.chain, beside))
		}
	}
	for _, base := range []int{math.MinInt, -1, len(want.row), math.MaxInt} {
		checkBehind(t, d, base, slowBehind(want.chain, base))
	}
}

func slowBehind(chain []int, base int) []int {
	var behind []int
	for _, one := range chain {
		if one > base {
			behind = append(behind, one)
		}
	}
	return behind
}

func checkBehind(t *testing.T, d impl.Disk, base int, want []int) {
	t.Helper()
	if got := impl.BasesBehind(d, base); !slices.Equal(got, want) {
		t.Errorf("BasesBehind(%s, %d) = %v; want %v", shown(d), base, got, want)
	}
}

func checkTextAt(t *testing.T, d impl.Disk, base int, want string) {
	t.Helper()
	if got := impl.TextAt(d, base); got != want {
		t.Errorf("TextAt(%s, %d) = %.200q; want %.200q", shown(d), base, got, want)
	}
}

func checkBases(t *testing.T, d impl.Disk, want ...int) {
	t.Helper()
	if got := impl.BasesOn(d); !slices.Equal(got, want) {
		t.Errorf("BasesOn(%s) = %v; want %v", shown(d), got, want)
	}
}

// checkRow is for a row that the test tells; what else is told is held against the slow way.
func checkRow(t *testing.T, what string, d impl.Disk, chain []int, row []string, loose ...string) {
	t.Helper()
	told := slowToldRow(d)
	told.chain, told.row, told.loose = chain, row, loose
	checkTold(t, what, d, told)
}

func checkNoRow(t *testing.T, what string, d impl.Disk, loose ...string) {
	t.Helper()
	checkRow(t, what, d, nil, nil, loose...)
}

// ending is the form of a file, whether it has its foot, and what stands behind that.
type ending struct {
	version int
	sealed  bool
	behind  string
}

var openNew, openOld = ending{impl.VsNew, false, ""}, ending{impl.VsOld, false, ""}

var sealedNew, sealedOld = ending{impl.VsNew, true, ""}, ending{impl.VsOld, true, ""}

// fileOf has these records, and goes on from the ones ahead.
func fileOf(ahead []string, end ending, records ...string) rowFile {
	h := headOf(end.version, 1+len(records)%3, len(ahead), slowLinkOf(ahead))
	text := slowFrames(h, records)
	if end.sealed {
		text = slowSeal(h, records...)
	}
	return fileAt(len(ahead), text+end.behind)
}

// filesOf has a file for each part; the endings are gone through again and again.
func filesOf(parts [][]string, ends ...ending) []rowFile {
	var files []rowFile
	var ahead []string
	for n, part := range parts {
		files = append(files, fileOf(ahead, ends[n%len(ends)], part...))
		ahead = append(ahead, part...)
	}
	return files
}

// partsOfOne has so many parts of one record each.
func partsOfOne(many int) [][]string {
	var parts [][]string
	for i := range many {
		parts = append(parts, []string{fmt.Sprint("r", i)})
	}
	return parts
}

var threeParts = [][]string{{"a", "b"}, {"c"}, {"d", "", "e"}}

func TestAKnownRow(t *testing.T) {
	first := slowSeal(headOf(1, 1, 0, 0), "a", "b")
	second := slowSeal(headOf(2, 3, 2, slowLink(slowLink(0, "a"), "b")), "c")
	third := slowFile(headOf(1, 2, 3, slowLink(slowLink(slowLink(0, "a"), "b"), "c")), "", "d") + "\x01torn"
	d := rowDisk(fileAt(0, first), fileAt(2, second), fileAt(3, third), fileAt(9, second), emptyFile("s00000002.seg.tmp"), emptyFile("readme"))
	checkDiskOk(t, "a known row", d, true)
	checkTold(t, "a known row", d, toldRow{
		bases: []int{0, 2, 3, 9},
		chain: []int{0, 2, 3},
		texts: []string{first, second, third},
		row:   []string{"a", "b", "c", "", "d"},
		loose: []string{"s00000002.seg.tmp", "s00000009.seg"},
	})
	for base, want := range map[int]string{0: first, 1: "", 2: second, 3: third, 4: "", 9: second} {
		checkTextAt(t, d, base, want)
	}
	for base, want := range map[int][]int{-1: {0, 2, 3}, 0: {2, 3}, 1: {2, 3}, 2: {3}, 3: nil, 9: nil} {
		checkBehind(t, d, base, want)
	}
	if got, want := impl.RowLink(d), impl.LinkAfter(third); got != want {
		t.Errorf("RowLink is %d; behind the last file of the row the link is %d", got, want)
	}
}

func TestDisksWithoutARow(t *testing.T) {
	for _, d := range append(rightDisks(), brokenDisks()...) {
		checkNoRow(t, "names that are none of a file of records", d)
		checkBases(t, d)
		for _, base := range []int{math.MinInt, -1, 0, 1, 2, impl.MaxNumber, impl.MaxNumber + 1, math.MaxInt} {
			checkTextAt(t, d, base, "")
		}
	}
}

func TestBasesOn(t *testing.T) {
	checkBases(t, impl.DiskNew(9))
	checkBases(t, rowDisk(emptyFile("a"), emptyFile("s.seg"), emptyFile("s0000000a.segs"), emptyFile("s000000a.seg"), emptyFile("s0000000g.seg"), emptyFile("t0000000a.seg"), emptyFile("s3b9aca01.seg"), emptyFile("sffffffff.seg")))
	checkBases(t, rowDisk(emptyFile("s0000000a.seg.tmp"), emptyFile("s00000000.seg.tmp")))
	checkBases(t, rowDisk(emptyFile(nameOf(impl.MaxNumber)), emptyFile("s00000000.seg"), emptyFile("s00000000.seg.tmp")), 0, impl.MaxNumber)
	checkBases(t, rowDisk(emptyFile("s00000000.seg")), 0)
	checkBases(t, rowDisk(emptyFile("s3b9aca00.seg")), impl.MaxNumber)
	checkBases(t, rowDisk(emptyFile("s0000000a.seg"), emptyFile("s00000009.seg"), emptyFile("s00000010.seg"), emptyFile("readme"), emptyFile("s000000ff.seg")), 9, 10, 16, 255)
	// Which bytes the files have does not matter, and neither does whether they are of the row.
	checkBases(t, rowDisk(filesOf(threeParts, openNew, sealedOld)...), 0, 2, 3)
	checkBases(t, rowDisk(fileAt(7, filesOf(threeParts, openNew)[1].text), fileAt(1, "other")), 1, 7)
}

func TestBasesOnOfDisksThatAreNotRight(t *testing.T) {
	d := diskInOrder(emptyFile("s0000000a.seg"), emptyFile("b"), emptyFile("s00000002.seg"), emptyFile("s3b9aca00.seg"), emptyFile("s00000000.seg"), emptyFile("a"))
	checkDiskOk(t, "names that stand out of order", d, false)
	checkBases(t, d, 0, 2, 10, impl.MaxNumber)
	checkBases(t, diskInOrder(emptyFile("s00000001.seg"), emptyFile("S00000002.seg"), emptyFile(""), emptyFile("s0000000A.seg"), emptyFile("s00000001.seg\x00"), emptyFile(strings.Repeat("s00000001.seg", 9))), 1)
	// Each name tells its base, also one that stands twice.
	checkBases(t, diskInOrder(emptyFile("s00000007.seg"), emptyFile("s00000003.seg"), emptyFile("s00000007.seg")), 3, 7, 7)
	lost := rowDisk(filesOf(threeParts, openNew)...)
	lost.Nodes, lost.Old, lost.Next, lost.Room = nil, nil, -1, -1
	checkBases(t, lost, 0, 2, 3)
	var files []rowFile
	var want []int
	for base := range 300 {
		files = append(files, fileAt(299-base, ""))
		want = append(want, base)
	}
	checkBases(t, diskInOrder(files...), want...)
}

// Entries tell which files there are, not Old.
func TestBasesOnOfNamesThatAreNotSure(t *testing.T) {
	d := mustDo(t, impl.DiskNew(900), deed{toCreate, nameOf(5), ""}, deed{toCreate, nameOf(1), ""}, deed{toSyncNames, "", ""}, deed{toCreate, nameOf(0), ""}, deed{toRemove, nameOf(5), ""}, deed{toRename, nameOf(1), nameOf(3)})
	checkBases(t, d, 0, 3)
	checkBases(t, impl.Fallen(d, 0, nil), 1, 5)
}

func TestTextAt(t *testing.T) {
	d := rowDisk(fileAt(0, "first"), fileAt(10, "ten"), fileAt(11, ""), fileAt(impl.MaxNumber, "last"), rowFile{"s00000001.seg.tmp", "temp"}, rowFile{"s00000002", "short"}, rowFile{"0", "figure"})
	checkDiskOk(t, "files of some bases", d, true)
	want := map[int]string{0: "first", 10: "ten", impl.MaxNumber: "last"}
	for _, base := range append([]int{0, 1, 2, 9, 10, 11, 12, 16, impl.MaxNumber - 1, impl.MaxNumber}, wrongPlaces...) {
		checkTextAt(t, d, base, want[base])
		checkTextAt(t, impl.DiskNew(9), base, "")
	}
}

// The bytes that are not sure are there, too.
func TestTextAtOfBytesThatAreNotSure(t *testing.T) {
	d := mustDo(t, impl.DiskNew(90), deed{toCreate, nameOf(4), ""}, deed{toAppend, nameOf(4), "sure"}, deed{toSync, nameOf(4), ""}, deed{toSyncNames, "", ""}, deed{toAppend, nameOf(4), " and more"})
	checkTextAt(t, d, 4, "sure and more")
	checkTextAt(t, impl.Fallen(d, 0, []int{4}), 4, "sure and")
	checkTextAt(t, impl.Fallen(d, 0, nil), 4, "sure")
}

func TestTextAtOfDisksThatAreNotRight(t *testing.T) {
	twice := diskInOrder(fileAt(3, "one"), fileAt(1, "two"), fileAt(3, "three"))
	checkTextAt(t, twice, 3, "one")
	checkTextAt(t, twice, 1, "two")
	twice.Entries[0].Id = 9
	checkTextAt(t, twice, 3, "")
	nodes := diskInOrder(fileAt(3, "one"), fileAt(4, "two"))
	nodes.Nodes[1].Id = 1
	checkTextAt(t, nodes, 3, "one")
	checkTextAt(t, nodes, 4, "")
	nodes.Nodes[0].Sure, nodes.Room, nodes.Next, nodes.Steps = -5, 0, 0, []string{"?"}
	checkTextAt(t, nodes, 3, "one")
}

// The SegmentName of a base that is none is the empty text, and of that name there may be a file, too.
func TestTextAtOfAFileOfTheEmptyName(t *testing.T) {
	for _, files := range [][]rowFile{{{"", "nameless"}}, {{"", "nameless"}, fileAt(0, "first")}, {fileAt(0, "first"), {"", "nameless"}, {"", "another"}}} {
		nameless := diskInOrder(files...)
		checkDiskOk(t, "a file of the empty name", nameless, false)
		for _, base := range wrongPlaces {
			checkTextAt(t, nameless, base, "nameless")
		}
		for _, base := range []int{0, 1, impl.MaxNumber} {
			checkTextAt(t, nameless, base, slowTextAt(nameless, base))
		}
	}
	known := impl.Disk{Nodes: []impl.Node{{Id: 1, Text: "some text", Sure: 9}}, Entries: []impl.Entry{{Name: "", Id: 1}}, Old: []impl.Entry{{Name: "", Id: 1}}, Room: 100, Next: 2}
	checkTextAt(t, known, -1, "some text")
	checkTextAt(t, known, 0, "")
	known.Entries[0].Id = 2
	checkTextAt(t, known, -1, "")
	known.Entries = nil
	checkTextAt(t, known, -1, "")
}

// Such a file has no base, so that it is not of the row, though it may go on from its last file.
func TestRowsBesideAFileOfTheEmptyName(t *testing.T) {
	files := filesOf(threeParts, openNew, sealedOld)
	for n := range files {
		changed := slices.Clone(files)
		changed[n].name = ""
		d := diskInOrder(changed...)
		checkTold(t, "a file of the empty name", d, slowToldRow(d))
	}
}

func TestRowsWithoutAFirstFile(t *testing.T) {
	files := filesOf(threeParts, sealedNew, openOld)
	checkNoRow(t, "no file of base 0", rowDisk(files[1:]...), nameOf(2), nameOf(3))
	checkNoRow(t, "the first file alone, but with a temporary name", rowDisk(rowFile{"s00000000.seg.tmp", files[0].text}), "s00000000.seg.tmp")
	checkNoRow(t, "the first file of another name", rowDisk(rowFile{"first", files[0].text}, files[1]), nameOf(2))
	checkNoRow(t, "the first file of another base", rowDisk(fileAt(1, files[0].text), files[1]), nameOf(1), nameOf(2))
	for _, end := range []ending{openNew, openOld, sealedNew, sealedOld} {
		for _, h := range []impl.Head{headOf(end.version, 1, 1, 0), headOf(end.version, 1, 0, 1), headOf(end.version, 1, 7, 5), headOf(end.version, 1, impl.MaxNumber-1, 0), headOf(end.version, 1, 0, maxLink), headOf(end.version, 1, 256, 0), headOf(end.version, 1, 0, 256), headOf(end.version, 1, 0, slowLink(0, "a"))} {
			first := slowFile(h, "a")
			if end.sealed {
				first = slowSeal(h, "a")
			}
			second := fileOf([]string{"a"}, end, "b")
			checkNoRow(t, "a first file that has another Base or Link", rowDisk(fileAt(0, first), second), nameOf(0), nameOf(1))
			// Under the name of its Base it begins nothing either.
			checkNoRow(t, "a file of another Base or Link", rowDisk(fileAt(max(h.Base, 1), first)), nameOf(max(h.Base, 1)))
		}
	}
	for _, text := range []string{"", "SEGM", files[0].text[1:], files[0].text[:23], withByte(files[0].text, 20, 'x')} {
		checkNoRow(t, "a first file without a head", rowDisk(fileAt(0, text), files[1], files[2]), nameOf(0), nameOf(2), nameOf(3))
	}
}

// What stands behind the head of a file without records, whose form and place are these.
func noRecords(version, place int) []string {
	frame := slowFrame(version, place, "z")
	return []string{"", "x", frame[:len(frame)-1], slowFrame(3-version, place, "ab"), slowFrame(version, place, strings.Repeat("l", 61)), slowMark(version, place), slowMark(version, place) + frame, slowFoot(headOf(version, 1, place, 0), nil, 24), "\x00\x00\x00\x00", strings.Repeat("\xff", 99)}
}

func TestAFirstFileWithoutRecords(t *testing.T) {
	for _, version := range bothForms {
		for _, behind := range noRecords(version, 0) {
			empty := fileAt(0, slowHeadText(headOf(version, 1, 0, 0))+behind)
			checkNoRow(t, "a first file without records", rowDisk(empty), nameOf(0))
			checkNoRow(t, "files behind one without records", rowDisk(empty, fileOf([]string{"a"}, openNew, "b"), fileOf([]string{"a", "b"}, openOld, "c")), nameOf(0), nameOf(1), nameOf(2))
		}
	}
	checkNoRow(t, "a sealed first file without records", rowDisk(fileAt(0, slowSeal(headOf(2, 3, 0, 0)))), nameOf(0))
}

// It has the base and the link that the next file would have, so that nothing can go on from it.
func TestAFileWithoutRecordsInTheMiddleAndAsTheLastOne(t *testing.T) {
	for _, first := range []ending{openNew, sealedNew, openOld, sealedOld} {
		for _, version := range bothForms {
			h := headOf(version, 2, 2, slowLinkOf(threeParts[0]))
			texts := []string{slowSeal(h)}
			for _, behind := range noRecords(version, 2) {
				texts = append(texts, slowHeadText(h)+behind)
			}
			for _, text := range texts {
				files := append(filesOf(threeParts[:1], first), fileAt(2, text))
				checkRow(t, "a last file without records", rowDisk(files...), []int{0}, threeParts[0], nameOf(2))
				for _, behind := range []rowFile{fileOf([]string{"a", "b", "c"}, openNew, "d"), fileAt(3, slowFile(h, "c")), fileAt(4, slowSeal(headOf(2, 1, 4, h.Link), "c"))} {
					checkRow(t, "a file without records in the middle", rowDisk(append(files, behind)...), []int{0}, threeParts[0], nameOf(2), behind.name)
				}
			}
		}
	}
	third := filesOf([][]string{{"a", "b"}, {"c"}, {}}, sealedOld, sealedNew)
	checkRow(t, "a third file without records", rowDisk(third...), []int{0, 2}, []string{"a", "b", "c"}, nameOf(3))
}

func TestAFileWhoseLinkIsNotThatOfTheOneAhead(t *testing.T) {
	for _, end := range []ending{openNew, sealedNew, openOld, sealedOld} {
		files := filesOf(threeParts, end)
		link := slowLinkOf([]string{"a", "b"})
		for _, other := range []int{0, 1, maxLink, link + 1, link - 1, link ^ 1<<31, slowLinkOf([]string{"a"}), slowLinkOf([]string{"b"}), slowLinkOf([]string{"b", "a"}), slowLinkOf([]string{"ab"}), slowLinkOf([]string{"a", "b", "c"}), slowLinkOf([]string{"a", "b", ""}), slowLinkOf([]string{"x", "b"})} {
			h := headOf(end.version, 2, 2, other)
			for _, text := range []string{slowFile(h, "c"), slowSeal(h, "c")} {
				d := rowDisk(files[0], fileAt(2, text), files[2])
				checkRow(t, "a file of another Link", d, []int{0}, threeParts[0], nameOf(2), nameOf(3))
			}
		}
		// The link is that of all files ahead, not of the last one alone.
		alone := headOf(end.version, 2, 3, slowLinkOf(threeParts[1]))
		d := rowDisk(files[0], files[1], fileAt(3, slowFile(alone, "d")))
		checkRow(t, "a third file that goes on from the second one alone", d, []int{0, 2}, []string{"a", "b", "c"}, nameOf(3))
	}
}

func TestAFileWhoseBaseIsNotTheOneBehind(t *testing.T) {
	for _, end := range []ending{openNew, sealedNew, openOld, sealedOld} {
		files := filesOf(threeParts, end)
		link := slowLinkOf(threeParts[0])
		for _, base := range []int{0, 1, 3, 4, 258, impl.MaxNumber - 1} {
			other := slowFile(headOf(end.version, 1, base, link), "c")
			checkRow(t, "a name that is right, and another Base", rowDisk(files[0], fileAt(2, other), files[2]), []int{0}, threeParts[0], nameOf(2), nameOf(3))
			if base == 0 {
				continue
			}
			checkRow(t, "a name and a Base that are not right", rowDisk(files[0], fileAt(base, other)), []int{0}, threeParts[0], nameOf(base))
			checkRow(t, "a Base that is right, and another name", rowDisk(files[0], fileAt(base, files[1].text)), []int{0}, threeParts[0], nameOf(base))
		}
		checkRow(t, "a gap", rowDisk(files[0], files[2]), []int{0}, threeParts[0], nameOf(3))
		checkRow(t, "a file that is there twice", rowDisk(append(files, fileAt(1, files[1].text), fileAt(4, files[2].text))...), []int{0, 2, 3}, slices.Concat(threeParts...), nameOf(1), nameOf(4))
	}
}

// One node may have both names, and goes on from nothing under the second one.
func TestAFileOfTwoNames(t *testing.T) {
	d := rowDisk(filesOf(threeParts[:2], openNew)...)
	d.Entries[1].Id, d.Old[1].Id = 1, 1
	checkDiskOk(t, "a node of two names", d, true)
	checkRow(t, "a node of two names", d, []int{0}, threeParts[0], nameOf(2))
}

// Whatever stands behind its frames, a file has the records that are whole, and the next one goes on from these.
func TestFilesOfEachFormAndEndingBesideEachOther(t *testing.T) {
	var ends []ending
	for _, version := range bothForms {
		for _, behind := range []string{"", "\x01torn", "\x00", slowMark(2, 99), slowFrame(3-version, 7, "ab")} {
			ends = append(ends, ending{version, false, behind}, ending{version, true, behind})
		}
	}
	row := slices.Concat(threeParts...)
	for _, first := range ends {
		for _, second := range ends {
			for _, third := range ends {
				d := rowDisk(filesOf(threeParts, first, second, third)...)
				checkRow(t, "three files", d, []int{0, 2, 3}, row)
			}
		}
	}
}

func TestAFileThatIsCutShortEndsTheRow(t *testing.T) {
	for _, end := range []ending{openNew, sealedNew, openOld, sealedOld} {
		files := filesOf([][]string{{"a", "b", "c"}, {"d"}}, end)
		scan := slowScan(files[0].text)
		other := fileOf([]string{"a", "b"}, end, "x")
		for cut := range files[0].text {
			many := 0
			for many < 3 && append(slices.Clone(scan.Offsets[1:]), scan.End)[many] <= cut {
				many++
			}
			short := fileAt(0, files[0].text[:cut])
			want := []string{"a", "b", "c", "d"}[:many]
			d := rowDisk(short, files[1], other)
			switch many {
			case 0:
				checkNoRow(t, "cut ahead of all records", d, nameOf(0), nameOf(2), nameOf(3))
			case 1:
				checkRow(t, "cut behind one", d, []int{0}, want, nameOf(2), nameOf(3))
			case 2:
				// What was loose goes on now, and what went on is loose.
				checkRow(t, "cut behind two", d, []int{0, 2}, []string{"a", "b", "x"}, nameOf(3))
			case 3:
				checkRow(t, "cut behind all", d, []int{0, 3}, []string{"a", "b", "c", "d"}, nameOf(2))
			}
		}
	}
}

func TestRowsOfMaxFilesAndOneMore(t *testing.T) {
	for _, ends := range [][]ending{{openNew}, {sealedOld}, {sealedNew, openOld, openNew, sealedOld}} {
		files := filesOf(partsOfOne(18), ends...)
		row := slices.Concat(partsOfOne(18)...)
		for many := range 19 {
			d := rowDisk(files[:many]...)
			checkDiskOk(t, "so many files", d, many <= 16)
			var chain []int
			var loose []string
			for base := range many {
				if base < 16 {
					chain = append(chain, base)
				} else {
					loose = append(loose, nameOf(base))
				}
			}
			checkRow(t, "so many files", d, chain, row[:min(many, 16)], loose...)
		}
	}
}

func TestLooseNames(t *testing.T) {
	files := filesOf(threeParts, sealedNew)
	row := slices.Concat(threeParts...)
	temp := func(base int) rowFile { return emptyFile(nameOf(base) + ".tmp") }
	checkRow(t, "nothing is loose", rowDisk(files...), []int{0, 2, 3}, row)
	checkRow(t, "names that are none of both", rowDisk(append(files, emptyFile("a"), emptyFile("s00000002.seg.tm"), emptyFile("s3b9aca01.seg"), emptyFile("z"), emptyFile("s3b9aca01.seg.tmp"))...), []int{0, 2, 3}, row)
	checkRow(t, "temporary ones of bases of the chain, and of others", rowDisk(append(files, temp(3), temp(0), temp(7), temp(impl.MaxNumber))...), []int{0, 2, 3}, row, nameOf(0)+".tmp", nameOf(3)+".tmp", nameOf(7)+".tmp", nameOf(impl.MaxNumber)+".tmp")
	checkRow(t, "one without records, and others behind a gap", rowDisk(append(files, fileAt(6, slowHeadText(headOf(2, 1, 6, slowLinkOf(row)))), fileAt(8, files[2].text), fileAt(impl.MaxNumber, ""), fileAt(1, ""), temp(1))...), []int{0, 2, 3}, row, nameOf(1), nameOf(1)+".tmp", nameOf(6), nameOf(8), nameOf(impl.MaxNumber))
	checkNoRow(t, "no file of the chain", rowDisk(temp(0), temp(2), fileAt(2, "x")), nameOf(0)+".tmp", nameOf(2), nameOf(2)+".tmp")
	// A temporary one has the bytes of the file that is to come, but is none of the row.
	checkRow(t, "the next file, with a temporary name", rowDisk(files[0], rowFile{nameOf(2) + ".tmp", files[1].text}), []int{0}, threeParts[0], nameOf(2)+".tmp")
}

func TestBasesBehind(t *testing.T) {
	files := filesOf([][]string{{"a", "b", "c"}, {"d", "e"}, {"f"}}, openOld, sealedNew)
	d := rowDisk(append(files, fileAt(4, "loose"), fileAt(9, "loose"))...)
	for base, want := range map[int][]int{
		math.MinInt: {0, 3, 5}, -impl.MaxNumber: {0, 3, 5}, -2: {0, 3, 5}, -1: {0, 3, 5}, 0: {3, 5}, 1: {3, 5}, 2: {3, 5}, 3: {5}, 4: {5},
		5: nil, 6: nil, 8: nil, 9: nil, impl.MaxNumber: nil, impl.MaxNumber + 1: nil, math.MaxInt: nil,
	} {
		checkBehind(t, d, base, want)
		checkBehind(t, impl.DiskNew(9), base, nil)
		checkBehind(t, rowDisk(fileAt(4, "loose")), base, nil)
	}
}

// None of these is asked whether it is right: names tell which node it is, and that node the bytes.
func TestRowsOfDisksThatAreNotRight(t *testing.T) {
	files := filesOf(threeParts, sealedNew, openOld)
	row := slices.Concat(threeParts...)
	changes := []func(d *impl.Disk){
		func(d *impl.Disk) { d.Room = 0 },
		func(d *impl.Disk) { d.Next = 0 },
		func(d *impl.Disk) { d.Nodes[0].Sure = -1 },
		func(d *impl.Disk) { d.Nodes[1].Sure = 10000 },
		func(d *impl.Disk) { d.Old = nil },
		func(d *impl.Disk) { d.Steps = []string{"-" + nameOf(0), "?"} },
		func(d *impl.Disk) { slices.Reverse(d.Nodes) },
		func(d *impl.Disk) { slices.Reverse(d.Entries) },
		func(d *impl.Disk) { d.Entries = append(d.Entries, impl.Entry{Name: nameOf(2), Id: 99}) },
		func(d *impl.Disk) { d.Nodes = append(d.Nodes, impl.Node{Id: 1, Text: "x"}, impl.Node{Id: 2}) },
		func(d *impl.Disk) { d.Nodes[0].Id, d.Entries[0].Id = 0, 0 },
		func(d *impl.Disk) { d.Nodes[0].Id, d.Entries[0].Id = -7, -7 },
		func(d *impl.Disk) {
			d.Entries = append(d.Entries, impl.Entry{Name: "", Id: 2}, impl.Entry{Name: "S", Id: 3})
		},
	}
	for n, change := range changes {
		d := rowDisk(files...)
		change(&d)
		checkDiskOk(t, fmt.Sprint("change ", n), d, false)
		checkRow(t, fmt.Sprint("change ", n), d, []int{0, 2, 3}, row)
	}
	lost := rowDisk(files...)
	lost.Nodes = lost.Nodes[:1]
	checkRow(t, "names of no node", lost, []int{0}, threeParts[0], nameOf(2), nameOf(3))
	twice := rowDisk(files...)
	twice.Entries = append([]impl.Entry{{Name: nameOf(2), Id: 99}}, twice.Entries...)
	checkRow(t, "a name that stands twice, first for no node", twice, []int{0}, threeParts[0], nameOf(2), nameOf(2), nameOf(3))
	order := diskInOrder(files[2], emptyFile(nameOf(9)), emptyFile(nameOf(0)+".tmp"), files[0], emptyFile("b"), emptyFile(nameOf(7)), emptyFile("a"), files[1], emptyFile(nameOf(8)))
	checkRow(t, "names out of order", order, []int{0, 2, 3}, row, nameOf(9), nameOf(0)+".tmp", nameOf(7), nameOf(8))
	checkNoRow(t, "the zero value", impl.Disk{})
}

// The row follows what is done with the files, sure or not.
func TestRowsBehindDeeds(t *testing.T) {
	files := filesOf(threeParts, sealedNew)
	temp := nameOf(2) + ".tmp"
	d := mustDo(t, impl.DiskNew(900), deed{toCreate, nameOf(0), ""}, deed{toAppend, nameOf(0), files[0].text}, deed{toCreate, nameOf(3), ""}, deed{toAppend, nameOf(3), files[2].text}, deed{toCreate, temp, ""}, deed{toAppend, temp, files[1].text})
	checkRow(t, "ahead of the new name", d, []int{0}, threeParts[0], temp, nameOf(3))
	d = mustDo(t, d, deed{toRename, temp, nameOf(2)})
	checkRow(t, "behind the new name", d, []int{0, 2, 3}, slices.Concat(threeParts...))
	d = mustDo(t, d, deed{toAppend, nameOf(0), "more"})
	checkRow(t, "with bytes behind the first file", d, []int{0, 2, 3}, slices.Concat(threeParts...))
	d = mustDo(t, d, deed{toRemove, nameOf(0), ""})
	checkNoRow(t, "without the first file", d, nameOf(2), nameOf(3))
}

// Each way to cut up to six records into parts, none without records.
func TestARowCutIntoFilesInAnyWay(t *testing.T) {
	records := []string{"a", "", impl.MarkOld, strings.Repeat("r", 60), "a", slowFrame(2, 5, "in")}
	for ways := range 1 << 5 {
		var parts [][]string
		begin := 0
		for i := range records {
			if i == 5 || ways>>i&1 == 1 {
				parts = append(parts, records[begin:i+1])
				begin = i + 1
			}
		}
		for _, ends := range [][]ending{{openNew}, {openOld}, {sealedNew}, {sealedOld}, {sealedOld, openNew}, {sealedNew, openOld, openNew}} {
			files := filesOf(parts, ends...)
			d := rowDisk(files...)
			checkTold(t, "a row cut into files", d, slowToldRow(d))
			if !slices.Equal(impl.RowOf(d), records) || len(impl.Chain(d)) != len(parts) || impl.RowLink(d) != impl.LinkOf(records) || len(impl.LooseNames(d)) != 0 {
				t.Errorf("the row of %q in %d files is %q, in %d, with %q loose", records, len(parts), impl.RowOf(d), len(impl.Chain(d)), impl.LooseNames(d))
			}
			// Without one of its files the row ends ahead of it, and those behind are loose.
			for gone := range files {
				d := rowDisk(slices.Delete(slices.Clone(files), gone, gone+1)...)
				ahead := slices.Concat(parts[:gone]...)
				if !slices.Equal(impl.RowOf(d), ahead) || len(impl.LooseNames(d)) != len(parts)-gone-1 {
					t.Errorf("without the file %d of %d the row is %q, with %q loose", gone, len(parts), impl.RowOf(d), impl.LooseNames(d))
				}
			}
		}
	}
}

// pickedDisk has a row of files, of which some may be gone, cut, changed, of another name, of another head, or stand for no record; its names may be out of order, and stand twice.
func pickedDisk(pick func(int) int) impl.Disk {
	ends := []ending{openNew, openOld, sealedNew, sealedOld, {2, false, "\x00"}, {1, true, "x"}}
	var parts [][]string
	for range 1 + pick(18) {
		parts = append(parts, manyRecords(1+pick(3)))
	}
	files := filesOf(parts, ends[pick(6)], ends[pick(6)], ends[pick(6)])
	for range pick(3) {
		one := pick(len(files))
		name, text := files[one].name, files[one].text
		if len(text) < 24 {
			continue
		}
		changed := []rowFile{
			fileAt(pick(30), text), {name + ".tmp", text}, {"readme", text}, {name, ""}, {name, text + text}, {name, text[:pick(len(text))]},
			{name, withByte(text, pick(len(text)), byte(pick(256)))}, {name, slowHeadText(headOf(1+pick(2), 1, pick(4), 0)) + text[24:]},
		}
		files[one] = changed[pick(len(changed))]
	}
	d := rowDisk(files...)
	if pick(3) == 0 {
		at := pick(len(files))
		d.Entries[0], d.Entries[at] = d.Entries[at], d.Entries[0]
	}
	return d
}

func TestWhateverStandsOnADisk(t *testing.T) {
	pick := picks(14)
	longest := 0
	for range 3000 {
		d := pickedDisk(pick)
		told := slowToldRow(d)
		longest = max(longest, len(told.chain))
		checkTold(t, "whatever stands on a disk", d, told)
		for base := -2; base < 40; base++ {
			checkTextAt(t, d, base, slowTextAt(d, base))
		}
		if t.Failed() {
			return
		}
	}
	if longest != 16 {
		t.Errorf("the longest chain that was tried has %d files", longest)
	}
}

func TestDisksWhoseRowIsAskedAreLeftAsTheyAre(t *testing.T) {
	for _, files := range [][]rowFile{filesOf(threeParts, sealedNew, openOld), append(filesOf(threeParts, openNew), fileAt(9, "x"), emptyFile(nameOf(2)+".tmp"))} {
		whole, d := withRoomBehind(rowDisk(files...))
		before := copyOfDisk(whole)
		told := slowToldRow(d)
		for range 2 {
			checkTold(t, "a disk that is asked again", d, told)
			spoilLists(impl.BasesOn(d), impl.Chain(d), impl.BasesBehind(d, -1), impl.BasesBehind(d, 0))
			spoilLists(impl.RowOf(d), impl.LooseNames(d), impl.ChainTexts(d))
		}
		if !sameDisks(whole, before) {
			t.Errorf("a disk whose row was asked is %s; it was %s", shown(whole), shown(before))
		}
	}
}

// spoilLists writes zero values into the lists, and behind them.
func spoilLists[T any](lists ...[]T) {
	var nothing T
	for _, list := range lists {
		for i := range list {
			list[i] = nothing
		}
		_ = append(list, nothing)
	}
}
