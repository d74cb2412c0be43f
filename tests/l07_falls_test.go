package tests

import (
	"fmt"
	"math"
	"slices"
	"strings"
	"testing"

	"loop.example/g00971/impl"
)

// A right disk: of its nodes the first has a name that only an older row of names has, the second one that stays, the third a newer one, the fourth one between two steps alone, and the fifth none.
func fallDisk() impl.Disk {
	return impl.Disk{
		Nodes:   []impl.Node{{Id: 1, Text: "older", Sure: 2}, {Id: 2, Text: "stays", Sure: 5}, {Id: 3, Text: "newer", Sure: 1}, {Id: 4, Text: "between"}, {Id: 5, Text: "none", Sure: 3}},
		Old:     []impl.Entry{{Name: "a", Id: 1}, {Name: "b", Id: 2}},
		Steps:   []string{"+c:3", "+d:4", "-a", "-d", ">c:a"},
		Entries: []impl.Entry{{Name: "a", Id: 3}, {Name: "b", Id: 2}},
		Room:    40,
		Next:    6,
	}
}

// A right disk of one file, with so many of its ten bytes sure.
func tenBytes(id, sure int) impl.Disk {
	list := []impl.Entry{{Name: "a", Id: id}}
	return impl.Disk{Nodes: []impl.Node{{Id: id, Text: "0123456789", Sure: sure}}, Old: list, Entries: slices.Clone(list), Room: 20, Next: id + 1}
}

// A disk of which all is sure.
func calmDisk(room, next int, list []impl.Entry, nodes ...impl.Node) impl.Disk {
	for i := range nodes {
		nodes[i].Sure = len(nodes[i].Text)
	}
	return impl.Disk{Nodes: nodes, Entries: slices.Clone(list), Old: slices.Clone(list), Room: room, Next: next}
}

// Right disks of many kinds.
func rightDisks() []impl.Disk {
	return []impl.Disk{
		fallDisk(), twoNamesDisk(), impl.DiskNew(0), impl.DiskNew(9), tenBytes(3, 4), diskOfMany(64, 16), diskOfMany(5, 3), diskOfMany(3, 0),
		diskOfSteps(nil, "+a:1", "+b:2", ">a:c"), diskOfSteps([]impl.Entry{{Name: "a", Id: 1}, {Name: "b", Id: 1}}, "+c:10", "-a", ">c:a", "+c:2"),
	}
}

// Disks that are not right: those of wrongDisks, and more.
func brokenDisks() []impl.Disk {
	late := impl.DiskNew(5)
	late.Next = impl.MaxNumber + 1
	lost := tenBytes(1, 10)
	lost.Nodes = nil
	short := tenBytes(1, 10)
	short.Room = 9
	over := tenBytes(1, 11)
	between := diskOfSteps([]impl.Entry{{Name: "a", Id: 1}}, "+b:9", "-b")
	return append(wrongDisks(), impl.Disk{}, late, lost, short, over, between, diskOfMany(65, 3), diskOfMany(64, 17), impl.DiskNew(impl.MaxNumber+1))
}

// Falls by the chapter's sentence, byte by byte.
func slowFallen(d impl.Disk, names int, keeps []int) impl.Disk {
	list, _ := slowSteps(d.Old, d.Steps[:min(max(names, 0), len(d.Steps))])
	left := impl.Disk{Entries: list, Old: slices.Clone(list), Room: d.Room, Next: d.Next}
	for _, node := range d.Nodes {
		if !slices.ContainsFunc(list, func(entry impl.Entry) bool { return entry.Id == node.Id }) {
			continue
		}
		end := node.Sure
		for len(keeps) > 0 && end < len(node.Text) && end-node.Sure < keeps[node.Id%len(keeps)] {
			end++
		}
		left.Nodes = append(left.Nodes, impl.Node{Id: node.Id, Text: node.Text[:end], Sure: end})
	}
	return left
}

// Each disk that a fall can leave, some of them more than once.
func allFalls(d impl.Disk) []impl.Disk {
	rows := [][]int{{0}}
	for id := 1; id < d.Next; id++ {
		most := 0
		for _, node := range d.Nodes {
			if node.Id == id {
				most = len(node.Text) - node.Sure
			}
		}
		var longer [][]int
		for _, row := range rows {
			for more := range most + 1 {
				longer = append(longer, append(slices.Clone(row), more))
			}
		}
		rows = longer
	}
	var list []impl.Disk
	for n := range len(d.Steps) + 1 {
		for _, keeps := range rows {
			list = append(list, slowFallen(d, n, keeps))
		}
	}
	return list
}

func checkFallen(t *testing.T, d impl.Disk, names int, keeps []int, want impl.Disk) {
	t.Helper()
	if got := impl.Fallen(d, names, keeps); !sameDisks(got, want) {
		t.Errorf("Fallen(%.300s, %d, %v) =\n%.300s; want\n%.300s", fmt.Sprint(d), names, keeps, fmt.Sprint(got), fmt.Sprint(want))
	}
}

func checkCouldFall(t *testing.T, what string, d, x impl.Disk, want bool) {
	t.Helper()
	if got := impl.CouldFall(d, x); got != want {
		t.Errorf("%s: CouldFall(%.300s,\n%.300s) = %v; want %v", what, fmt.Sprint(d), fmt.Sprint(x), got, want)
	}
}

// What holds of any fall of a right disk.
func checkAnyFall(t *testing.T, d impl.Disk, names int, keeps []int) {
	t.Helper()
	x := impl.Fallen(d, names, keeps)
	if want := slowFallen(d, names, keeps); !sameDisks(x, want) {
		t.Errorf("Fallen(%.300s, %d, %v) =\n%.300s; want\n%.300s", fmt.Sprint(d), names, keeps, fmt.Sprint(x), fmt.Sprint(want))
	}
	checkDiskOk(t, "a disk that has fallen", x, true)
	if !impl.CalmDisk(x) || impl.UnsureOn(x) != 0 {
		t.Errorf("a disk that has fallen is not calm: %.300s", fmt.Sprint(x))
	}
	for _, again := range []struct {
		names int
		keeps []int
	}{{0, nil}, {names, keeps}, {-1, []int{-5}}, {math.MaxInt, []int{math.MaxInt, 3}}} {
		checkFallen(t, x, again.names, again.keeps, x)
	}
	for _, entry := range x.Entries {
		at := slices.IndexFunc(d.Nodes, func(node impl.Node) bool { return node.Id == entry.Id })
		text, _ := impl.ReadFile(x, entry.Name)
		if sure := d.Nodes[at].Text[:d.Nodes[at].Sure]; !strings.HasPrefix(text, sure) || !strings.HasPrefix(d.Nodes[at].Text, text) {
			t.Errorf("%q has %q behind the fall; sure was %q of %q", entry.Name, text, sure, d.Nodes[at].Text)
		}
	}
}

func TestFallen(t *testing.T) {
	a, b, c, d := impl.Entry{Name: "a", Id: 1}, impl.Entry{Name: "b", Id: 2}, impl.Entry{Name: "c", Id: 3}, impl.Entry{Name: "d", Id: 4}
	one, two, three, four := impl.Node{Id: 1, Text: "older"}, impl.Node{Id: 2, Text: "stays"}, impl.Node{Id: 3, Text: "new"}, impl.Node{Id: 4, Text: "b"}
	keeps := []int{9, 3, 7, 2, 1, 8}
	for names, want := range []impl.Disk{
		calmDisk(40, 6, []impl.Entry{a, b}, one, two),
		calmDisk(40, 6, []impl.Entry{a, b, c}, one, two, three),
		calmDisk(40, 6, []impl.Entry{a, b, c, d}, one, two, three, four),
		calmDisk(40, 6, []impl.Entry{b, c, d}, two, three, four),
		calmDisk(40, 6, []impl.Entry{b, c}, two, three),
		calmDisk(40, 6, []impl.Entry{{Name: "a", Id: 3}, b}, two, three),
	} {
		checkFallen(t, fallDisk(), names, keeps, want)
		checkCouldFall(t, "a disk and a fall of it", fallDisk(), want, true)
	}
	hello := impl.Node{Id: 2, Text: "hello"}
	names := []impl.Entry{{Name: "a", Id: 2}, {Name: "c", Id: 2}}
	checkFallen(t, twoNamesDisk(), 3, []int{5}, calmDisk(7, 8, names, hello))
	checkFallen(t, twoNamesDisk(), 3, []int{1}, calmDisk(7, 8, names, impl.Node{Id: 2, Text: "hell"}))
	checkFallen(t, twoNamesDisk(), 2, []int{5}, calmDisk(7, 8, []impl.Entry{{Name: "a", Id: 2}, {Name: "b", Id: 5}, {Name: "c", Id: 2}}, hello, impl.Node{Id: 5}))
	checkFallen(t, impl.DiskNew(9), 3, []int{5}, impl.DiskNew(9))
	checkFallen(t, diskOfMany(64, 0), 3, []int{5}, impl.Disk{Room: 64, Next: 65})
}

func TestFallenOfSoManyNames(t *testing.T) {
	for names, as := range map[int]int{math.MinInt: 0, -6: 0, -1: 0, 0: 0, 1: 1, 4: 4, 5: 5, 6: 5, 11: 5, 1 << 32: 5, math.MaxInt: 5} {
		for _, keeps := range [][]int{nil, {2}, {9, 3, 7, 2, 1, 8}} {
			checkFallen(t, fallDisk(), names, keeps, slowFallen(fallDisk(), as, keeps))
			checkFallen(t, tenBytes(1, 4), names, keeps, slowFallen(tenBytes(1, 4), 0, keeps))
		}
	}
}

func TestFallenOfSoManyBytes(t *testing.T) {
	for sure := range 11 {
		most := 10 - sure
		for keep, more := range map[int]int{math.MinInt: 0, -10: 0, -1: 0, 0: 0, 1: min(1, most), most - 1: max(most-1, 0), most: most, most + 1: most, 11: most, 1 << 32: most, math.MaxInt: most} {
			d := calmDisk(20, 4, []impl.Entry{{Name: "a", Id: 3}}, impl.Node{Id: 3, Text: "0123456789"[:sure+more]})
			for _, keeps := range [][]int{{keep}, {99, keep}, {keep, 99, 99}, {99, 99, 99, keep}, {-1, -1, -1, keep, -1}} {
				checkFallen(t, tenBytes(3, sure), 0, keeps, d)
			}
		}
		for _, keeps := range [][]int{nil, {}} {
			checkFallen(t, tenBytes(3, sure), 0, keeps, calmDisk(20, 4, []impl.Entry{{Name: "a", Id: 3}}, impl.Node{Id: 3, Text: "0123456789"[:sure]}))
		}
	}
}

// Fewer keeps than nodes: a keep counts for each node whose Id comes to its place.
func TestFallenTakesTheKeepOfTheIdModuloHowManyThereAre(t *testing.T) {
	ids := []int{1, 2, 3, 4, 7, 12, 100001, 999999999}
	d := impl.Disk{Room: 100, Next: impl.MaxNumber}
	for i, id := range ids {
		d.Nodes = append(d.Nodes, impl.Node{Id: id, Text: "?01234567", Sure: 1})
		d.Old = append(d.Old, impl.Entry{Name: fmt.Sprint("n", i), Id: id})
	}
	d.Entries = slices.Clone(d.Old)
	for _, c := range []struct{ keeps, more []int }{
		{nil, []int{0, 0, 0, 0, 0, 0, 0, 0}},
		{[]int{5}, []int{5, 5, 5, 5, 5, 5, 5, 5}},
		{[]int{1, 6}, []int{6, 1, 6, 1, 6, 1, 6, 6}},
		{[]int{2, 3, 4}, []int{3, 4, 2, 3, 3, 2, 4, 2}},
		{[]int{-1, 3, 9, 0}, []int{3, 8, 0, 0, 0, 0, 3, 0}},
		{[]int{0, 1, 2, 3, 4, 5, 6, 7, 8, 9}, []int{1, 2, 3, 4, 7, 2, 1, 8}},
	} {
		want := copyOfDisk(d)
		for i := range want.Nodes {
			want.Nodes[i].Text = "?01234567"[:1+c.more[i]]
			want.Nodes[i].Sure = 1 + c.more[i]
		}
		checkFallen(t, d, 0, c.keeps, want)
	}
}

func TestNodesOfOlderAndNewerNames(t *testing.T) {
	old := impl.Disk{Nodes: []impl.Node{{Id: 1, Text: "hello", Sure: 2}}, Old: []impl.Entry{{Name: "a", Id: 1}}, Steps: []string{"-a"}, Room: 5, Next: 2}
	checkText(t, impl.Fallen(old, 0, []int{1}), "a", "hel")
	checkIds(t, "an older name is back", impl.Fallen(old, 0, nil), 1)
	checkFallen(t, old, 1, []int{1}, impl.Disk{Room: 5, Next: 2})
	fresh := impl.Disk{Nodes: []impl.Node{{Id: 1, Text: "hello", Sure: 5}}, Entries: []impl.Entry{{Name: "a", Id: 1}}, Steps: []string{"+a:1"}, Room: 5, Next: 2}
	checkFallen(t, fresh, 0, []int{9}, impl.Disk{Room: 5, Next: 2})
	checkText(t, impl.Fallen(fresh, 1, nil), "a", "hello")
	over := mustDo(t, old, deed{toCreate, "a", ""})
	for names, ids := range [][]int{{1}, nil, {2}} {
		checkIds(t, "a name of an older node and a newer one", impl.Fallen(over, names, nil), ids...)
	}
	twin := mustDo(t, impl.DiskNew(9), deed{toCreate, "a", ""}, deed{toAppend, "a", "first"}, deed{toSync, "a", ""}, deed{toSyncNames, "", ""}, deed{toCreate, "b", ""}, deed{toRename, "b", "a"})
	for names, text := range []string{"first", "first", ""} {
		checkText(t, impl.Fallen(twin, names, nil), "a", text)
	}
	checkIds(t, "a node that another one took the name of", impl.Fallen(twin, 2, nil), 2)
}

func TestWhatWasSureIsThereBehindAnyFall(t *testing.T) {
	d := mustDo(t, impl.DiskNew(50), deed{toCreate, "a", ""}, deed{toAppend, "a", "sure"}, deed{toSync, "a", ""}, deed{toSyncNames, "", ""})
	for _, x := range []deed{{toAppend, "a", " and not"}, {toCreate, "b", ""}, {toAppend, "b", "new"}, {toSync, "b", ""}, {toRename, "b", "c"}, {toCreate, "b", ""}, {toRemove, "b", ""}, {toSyncNames, "", ""}, {toRemove, "c", ""}} {
		d = mustDo(t, d, x)
		for names := range len(d.Steps) + 1 {
			for keep := range 10 {
				checkAnyFall(t, d, names, []int{keep})
				checkText(t, impl.Fallen(d, names, []int{keep}), "a", "sure and not"[:4+min(keep, len(d.Nodes[0].Text)-4)])
			}
		}
	}
}

// Other bytes come to a name by another file that gets it: at any fall all of the one or all of the other are there.
func TestAFileThatGetsOtherBytes(t *testing.T) {
	d := mustDo(t, impl.DiskNew(50), deed{toCreate, "a", ""}, deed{toAppend, "a", "before"}, deed{toSync, "a", ""}, deed{toSyncNames, "", ""})
	renamed := false
	for _, x := range []deed{{toCreate, "t", ""}, {toAppend, "t", "behind it"}, {toSync, "t", ""}, {toRename, "t", "a"}, {toSyncNames, "", ""}} {
		d = mustDo(t, d, x)
		renamed = renamed || x.kind == toRename
		for names := range len(d.Steps) + 1 {
			want := "before"
			if renamed && names == len(d.Steps) {
				want = "behind it"
			}
			for keep := range 10 {
				checkAnyFall(t, d, names, []int{keep})
				checkText(t, impl.Fallen(d, names, []int{keep}), "a", want)
			}
		}
	}
}

func TestFallsOfRightDisks(t *testing.T) {
	for _, d := range rightDisks() {
		checkDiskOk(t, "a right disk", d, true)
		for names := -1; names <= len(d.Steps)+1; names++ {
			for _, keeps := range [][]int{nil, {0}, {1}, {2, -1}, {-3, 9, 1}, {math.MaxInt}, {math.MinInt, 4}, {0, 1, 2, 3, 4, 5, 6, 7, 8, 9, 10, 11}} {
				checkAnyFall(t, d, names, keeps)
				checkCouldFall(t, "a disk and a fall of it", d, impl.Fallen(d, names, keeps), true)
			}
		}
	}
}

// Rows of deeds that a short rule picks, with a fall now and then: the same ones each time.
func TestFallsInRowsOfDeeds(t *testing.T) {
	kinds := []string{toCreate, toCreate, toAppend, toAppend, toAppend, toSync, toRename, toRemove, toSyncNames}
	for seed := range 40 {
		pick := picks(seed)
		d := impl.DiskNew(20 + 5*seed)
		for range 80 {
			x := deed{kinds[pick(len(kinds))], fmt.Sprintf("n%d", pick(2+seed/4)), fmt.Sprintf("n%d", pick(2+seed/4))}
			if x.kind == toSyncNames && pick(3) > 0 {
				continue
			}
			d, _ = do(d, x)
			names, keeps := pick(len(d.Steps)+3)-1, []int{}
			for range pick(6) {
				keeps = append(keeps, pick(9)-2)
			}
			checkAnyFall(t, d, names, keeps)
			checkCouldFall(t, "a disk and a fall of it", d, impl.Fallen(d, names, keeps), true)
			if pick(20) == 0 {
				d = impl.Fallen(d, names, keeps)
			}
			if t.Failed() {
				return
			}
		}
	}
}

func TestFallenOfDisksThatAreNotRight(t *testing.T) {
	for _, d := range brokenDisks() {
		checkDiskOk(t, "a wrong disk", d, false)
		for _, names := range []int{math.MinInt, -1, 0, 1, 2, 3, math.MaxInt} {
			for _, keeps := range [][]int{nil, {0}, {3}, {-1, 2}, {math.MaxInt}} {
				checkFallen(t, d, names, keeps, d)
			}
		}
	}
}

func TestCouldFallIsJustWhatFallsLeave(t *testing.T) {
	small := []impl.Disk{
		{Nodes: []impl.Node{{Id: 1, Text: "ab", Sure: 1}, {Id: 2, Text: "abc"}}, Old: []impl.Entry{{Name: "a", Id: 1}}, Steps: []string{"+b:2", "-a", ">b:a"}, Entries: []impl.Entry{{Name: "a", Id: 2}}, Room: 9, Next: 4},
		{Nodes: []impl.Node{{Id: 1, Text: "abc"}, {Id: 2, Text: "ab", Sure: 1}}, Old: []impl.Entry{{Name: "a", Id: 1}, {Name: "b", Id: 2}}, Steps: []string{">a:b", "-b"}, Room: 9, Next: 4},
		{Nodes: []impl.Node{{Id: 1, Text: "abc"}, {Id: 3, Text: "ab"}}, Entries: []impl.Entry{{Name: "a", Id: 1}, {Name: "b", Id: 1}}, Steps: []string{"+a:3", "+b:1", "+a:1"}, Room: 9, Next: 4},
		{Nodes: []impl.Node{{Id: 1, Text: "aaa", Sure: 1}, {Id: 2, Text: "abc", Sure: 3}}, Old: []impl.Entry{{Name: "a", Id: 1}, {Name: "b", Id: 2}}, Entries: []impl.Entry{{Name: "a", Id: 1}, {Name: "b", Id: 2}}, Room: 9, Next: 4},
		{Room: 9, Next: 4},
	}
	var all []impl.Disk
	for _, d := range small {
		checkDiskOk(t, "a small disk", d, true)
		all = append(append(all, d), allFalls(d)...)
	}
	for _, d := range append(slices.Clone(small), all...) {
		falls := allFalls(d)
		for _, x := range all {
			want := slices.ContainsFunc(falls, func(left impl.Disk) bool { return sameDisks(left, x) })
			checkCouldFall(t, "small disks", d, x, want)
		}
	}
}

func TestCouldFallOfAFallThatIsChanged(t *testing.T) {
	fall := func() impl.Disk { return impl.Fallen(fallDisk(), 3, []int{9, 3, 7, 2, 1, 8}) }
	checkCouldFall(t, "nothing changed", fallDisk(), fall(), true)
	setText := func(d *impl.Disk, i int, text string) { d.Nodes[i].Text, d.Nodes[i].Sure = text, len(text) }
	setNames := func(d *impl.Disk, list ...impl.Entry) { d.Old, d.Entries = list, slices.Clone(list) }
	for i, change := range []func(d *impl.Disk){
		func(d *impl.Disk) { d.Room = 41 },
		func(d *impl.Disk) { d.Room = 39 },
		func(d *impl.Disk) { d.Next = 7 },
		func(d *impl.Disk) { d.Next = 5 },
		func(d *impl.Disk) { setText(d, 0, "stay") },
		func(d *impl.Disk) { setText(d, 0, "stays!") },
		func(d *impl.Disk) { setText(d, 1, "") },
		func(d *impl.Disk) { setText(d, 1, "newer!") },
		func(d *impl.Disk) { setText(d, 1, "nev") },
		func(d *impl.Disk) { setText(d, 1, "Newer") },
		func(d *impl.Disk) { d.Nodes[1].Sure = 2 },
		func(d *impl.Disk) { d.Nodes[2].Sure = 0 },
		func(d *impl.Disk) { d.Steps = []string{"+b:2"} },
		func(d *impl.Disk) { d.Steps, d.Entries = []string{"-b"}, d.Entries[1:] },
		func(d *impl.Disk) { d.Nodes = append(d.Nodes, impl.Node{Id: 5, Text: "none", Sure: 4}) },
		func(d *impl.Disk) { d.Nodes = slices.Insert(d.Nodes, 0, impl.Node{Id: 1, Text: "older", Sure: 5}) },
		func(d *impl.Disk) {
			d.Nodes = append(d.Nodes[:2:2], impl.Node{Id: 5, Text: "b", Sure: 1})
			setNames(d, impl.Entry{Name: "b", Id: 2}, impl.Entry{Name: "c", Id: 3}, impl.Entry{Name: "d", Id: 5})
		},
		func(d *impl.Disk) {
			setNames(d, impl.Entry{Name: "b", Id: 2}, impl.Entry{Name: "c", Id: 4}, impl.Entry{Name: "d", Id: 3})
		},
		func(d *impl.Disk) {
			setNames(d, impl.Entry{Name: "b", Id: 2}, impl.Entry{Name: "d", Id: 4}, impl.Entry{Name: "e", Id: 3})
		},
		func(d *impl.Disk) {
			d.Nodes = d.Nodes[:2]
			setNames(d, impl.Entry{Name: "b", Id: 2})
		},
	} {
		x := fall()
		change(&x)
		checkDiskOk(t, fmt.Sprint("changed fall ", i), x, true)
		checkCouldFall(t, fmt.Sprint("changed fall ", i), fallDisk(), x, false)
	}
	checkCouldFall(t, "a disk that has not fallen", fallDisk(), fallDisk(), false)
	checkCouldFall(t, "a calm disk, and itself", fall(), fall(), true)
	checkCouldFall(t, "a node that nothing stands for", diskOfMany(2, 1), diskOfMany(2, 1), false)
}

func TestCouldFallOfNamesInAnotherOrder(t *testing.T) {
	x := impl.Fallen(fallDisk(), 3, nil)
	for _, change := range []func(d *impl.Disk){
		func(d *impl.Disk) { slices.Reverse(d.Entries) },
		func(d *impl.Disk) { slices.Reverse(d.Old) },
		func(d *impl.Disk) { slices.Reverse(d.Entries); slices.Reverse(d.Old) },
		func(d *impl.Disk) { slices.Reverse(d.Nodes) },
	} {
		other := copyOfDisk(x)
		change(&other)
		checkCouldFall(t, "another order", fallDisk(), other, false)
		checkCouldFall(t, "another order", other, x, false)
		checkCouldFall(t, "another order", other, other, false)
		if impl.SameDisk(x, other) || impl.SameDisk(other, x) || !impl.SameDisk(other, copyOfDisk(other)) {
			t.Errorf("%v in another order, %v, is the same", x, other)
		}
	}
}

func TestCouldFallOfDisksThatAreNotRight(t *testing.T) {
	for _, d := range brokenDisks() {
		checkCouldFall(t, "not right, and itself", d, d, false)
		for _, right := range append(rightDisks(), impl.Fallen(twoNamesDisk(), 3, nil), impl.Fallen(twoNamesDisk(), 0, []int{9})) {
			checkCouldFall(t, "the first one is not right", d, right, false)
			checkCouldFall(t, "the second one is not right", right, d, false)
		}
	}
	// Each of these would be a fall if the rules of a right disk were not asked for.
	wide := tenBytes(1, 10)
	wide.Room = 9
	checkCouldFall(t, "no room", wide, wide, false)
	far := calmDisk(0, impl.MaxNumber+1, nil)
	checkCouldFall(t, "Next above all", far, far, false)
	checkCouldFall(t, "17 names", diskOfMany(17, 17), calmDisk(17, 18, manyEntries(17), diskOfMany(17, 17).Nodes...), false)
}

func TestCouldFallOfIdsUpTo100000(t *testing.T) {
	for id, want := range map[int]bool{1: true, 99999: true, 100000: true, 100001: false, 100002: false, 1000000: false, impl.MaxNumber - 1: false} {
		d := tenBytes(id, 4)
		checkAnyFall(t, d, 0, []int{3})
		checkCouldFall(t, "the one node", d, impl.Fallen(d, 0, []int{3}), want)
		checkCouldFall(t, "the one node, with all bytes", d, impl.Fallen(d, 0, []int{10}), want)
		checkCouldFall(t, "the one node, with too few bytes", d, calmDisk(d.Room, d.Next, d.Old, impl.Node{Id: id, Text: "012"}), false)
		calm := impl.Fallen(d, 0, nil)
		checkCouldFall(t, "a calm disk, and itself", calm, calm, want)
		// The number of a node that does not fall with the others counts as well.
		two := impl.Disk{Nodes: []impl.Node{{Id: id}}, Room: 20, Next: impl.MaxNumber}
		checkCouldFall(t, "a node without a name", two, impl.Disk{Room: 20, Next: impl.MaxNumber}, want)
		two.Steps, two.Entries = []string{fmt.Sprint("+a:", id)}, []impl.Entry{{Name: "a", Id: id}}
		checkCouldFall(t, "a node of a newer name", two, impl.Disk{Room: 20, Next: impl.MaxNumber}, want)
		checkCouldFall(t, "no such node in the first one", calmDisk(20, impl.MaxNumber, nil), impl.Fallen(two, 1, nil), false)
	}
	both := impl.Disk{Nodes: []impl.Node{{Id: 99999, Text: "one"}, {Id: 100000, Text: "other", Sure: 1}}, Old: []impl.Entry{{Name: "a", Id: 100000}, {Name: "b", Id: 99999}}, Room: 20, Next: 100001}
	both.Entries = slices.Clone(both.Old)
	x := calmDisk(20, 100001, both.Old, impl.Node{Id: 99999, Text: "on"}, impl.Node{Id: 100000, Text: "othe"})
	checkCouldFall(t, "keeps for each of the highest", both, x, true)
	both.Next, x.Next = 100002, 100002
	checkCouldFall(t, "Next beyond, but no node", both, x, true)
	both.Nodes = append(both.Nodes, impl.Node{Id: 100001})
	checkCouldFall(t, "one node beyond", both, x, false)
}

func TestCouldFallOfManySteps(t *testing.T) {
	var steps []string
	for range 5000 {
		steps = append(steps, "+b:2", ">b:c", "+c:10", "-c")
	}
	d := diskOfSteps([]impl.Entry{{Name: "a", Id: 1}})
	d.Steps = append(steps, "+z:10")
	d.Entries = []impl.Entry{{Name: "a", Id: 1}, {Name: "z", Id: 10}}
	for _, names := range []int{0, 1, 2, 3, 4, 9998, len(steps), len(steps) + 1} {
		checkAnyFall(t, d, names, []int{1})
		checkCouldFall(t, "20001 steps", d, impl.Fallen(d, names, []int{1}), true)
	}
	checkCouldFall(t, "names of no number of the steps", d, calmDisk(9, 11, []impl.Entry{{Name: "z", Id: 10}}, impl.Node{Id: 10, Text: "ten"}), false)
	checkUnsure(t, d, 20001+2+3, false)
}

func checkUnsure(t *testing.T, d impl.Disk, want int, calm bool) {
	t.Helper()
	if got := impl.UnsureOn(d); got != want {
		t.Errorf("UnsureOn(%.300s) = %d; want %d", fmt.Sprint(d), got, want)
	}
	if got := impl.CalmDisk(d); got != calm {
		t.Errorf("CalmDisk(%.300s) = %v; want %v", fmt.Sprint(d), got, calm)
	}
}

func TestUnsureAndCalm(t *testing.T) {
	checkUnsure(t, impl.DiskNew(0), 0, true)
	checkUnsure(t, impl.DiskNew(9), 0, true)
	checkUnsure(t, fallDisk(), 3+0+4+7+1+5, false)
	checkUnsure(t, twoNamesDisk(), 2+3, false)
	for sure := range 11 {
		checkUnsure(t, tenBytes(3, sure), 10-sure, sure == 10)
	}
	// Bytes of nodes that nothing stands for count as well.
	checkUnsure(t, diskOfMany(64, 16), 32, false)
	checkUnsure(t, diskOfMany(64, 0), 32, false)
	checkUnsure(t, impl.Disk{Nodes: []impl.Node{{Id: 1, Text: "no name", Sure: 6}}, Room: 9, Next: 2}, 1, false)
	checkUnsure(t, impl.Disk{Nodes: []impl.Node{{Id: 1, Text: "no name", Sure: 7}}, Room: 9, Next: 2}, 0, true)
	// Steps alone, even those that come to nothing, are not sure.
	steps := calmDisk(9, 3, []impl.Entry{{Name: "a", Id: 1}}, impl.Node{Id: 1, Text: "one"}, impl.Node{Id: 2})
	checkUnsure(t, steps, 0, true)
	steps.Steps = []string{"+a:1"}
	checkUnsure(t, steps, 1, false)
	steps.Steps = []string{"+b:2", "-b"}
	checkUnsure(t, steps, 2, false)
	d := mustDo(t, impl.DiskNew(9), deed{toCreate, "a", ""})
	checkUnsure(t, d, 1, false)
	d = mustDo(t, d, deed{toAppend, "a", "hello"})
	checkUnsure(t, d, 6, false)
	checkUnsure(t, mustDo(t, d, deed{toSync, "a", ""}), 1, false)
	checkUnsure(t, mustDo(t, d, deed{toSyncNames, "", ""}), 5, false)
	checkUnsure(t, mustDo(t, d, deed{toSyncNames, "", ""}, deed{toSync, "a", ""}), 0, true)
	for _, d := range append(brokenDisks(), impl.Disk{Next: 1, Steps: []string{"-a"}}, impl.Disk{Next: 1, Room: -1}) {
		checkUnsure(t, d, 0, false)
	}
}

func checkSameDisk(t *testing.T, a, b impl.Disk, want bool) {
	t.Helper()
	if got, back := impl.SameDisk(a, b), impl.SameDisk(b, a); got != want || back != want {
		t.Errorf("SameDisk of %.300s and\n%.300s is %v, and %v the other way round; want %v", fmt.Sprint(a), fmt.Sprint(b), got, back, want)
	}
}

func TestSameDisk(t *testing.T) {
	disks := append(rightDisks(), brokenDisks()...)
	for _, d := range disks {
		checkSameDisk(t, d, d, true)
		checkSameDisk(t, d, copyOfDisk(d), true)
		for i, change := range []func(d *impl.Disk){
			func(d *impl.Disk) { d.Room++ },
			func(d *impl.Disk) { d.Next++ },
			func(d *impl.Disk) { d.Nodes = append(d.Nodes, impl.Node{}) },
			func(d *impl.Disk) { d.Entries = append(d.Entries, impl.Entry{}) },
			func(d *impl.Disk) { d.Old = append(d.Old, impl.Entry{}) },
			func(d *impl.Disk) { d.Steps = append(d.Steps, "") },
		} {
			other := copyOfDisk(d)
			change(&other)
			if sameDisks(d, other) {
				t.Fatal("the change", i, "is none")
			}
			checkSameDisk(t, d, other, false)
		}
	}
	for i, a := range disks {
		for j, b := range disks {
			checkSameDisk(t, a, b, i == j || sameDisks(a, b))
		}
	}
}

func TestSameDiskOfEachPart(t *testing.T) {
	for _, change := range []func(d *impl.Disk){
		func(d *impl.Disk) { d.Nodes[1].Id = 3 },
		func(d *impl.Disk) { d.Nodes[0].Text = "hellO" },
		func(d *impl.Disk) { d.Nodes[0].Text = "hello\x00" },
		func(d *impl.Disk) { d.Nodes[0].Sure = 4 },
		func(d *impl.Disk) { d.Nodes = d.Nodes[:2] },
		func(d *impl.Disk) { d.Nodes = d.Nodes[1:] },
		func(d *impl.Disk) { d.Nodes[0], d.Nodes[1] = d.Nodes[1], d.Nodes[0] },
		func(d *impl.Disk) { d.Entries[0].Name = "b" },
		func(d *impl.Disk) { d.Entries[1].Id = 5 },
		func(d *impl.Disk) { d.Entries = d.Entries[:1] },
		func(d *impl.Disk) { slices.Reverse(d.Entries) },
		func(d *impl.Disk) { d.Old[1].Name = "h" },
		func(d *impl.Disk) { d.Old[0].Id = 5 },
		func(d *impl.Disk) { d.Old = nil },
		func(d *impl.Disk) { slices.Reverse(d.Old) },
		func(d *impl.Disk) { d.Old, d.Entries = d.Entries, d.Old },
		func(d *impl.Disk) { d.Steps[0] = "+c:7" },
		func(d *impl.Disk) { d.Steps[0], d.Steps[1] = d.Steps[1], d.Steps[0] },
		func(d *impl.Disk) { d.Steps = d.Steps[1:] },
		func(d *impl.Disk) { d.Steps = nil },
		func(d *impl.Disk) { d.Room = 8 },
		func(d *impl.Disk) { d.Next = 9 },
	} {
		d := twoNamesDisk()
		change(&d)
		checkSameDisk(t, twoNamesDisk(), d, false)
	}
	empty := impl.Disk{Nodes: []impl.Node{}, Entries: []impl.Entry{}, Old: []impl.Entry{}, Steps: []string{}, Next: 1}
	checkSameDisk(t, empty, impl.DiskNew(0), true)
	checkSameDisk(t, impl.Disk{}, impl.Disk{Nodes: []impl.Node{}, Old: []impl.Entry{}}, true)
}

func checkSameFiles(t *testing.T, what string, a, b impl.Disk, want bool) {
	t.Helper()
	if got, back := impl.SameFiles(a, b), impl.SameFiles(b, a); got != want || back != want {
		t.Errorf("%s: SameFiles of %.300s and\n%.300s is %v, and %v the other way round; want %v", what, fmt.Sprint(a), fmt.Sprint(b), got, back, want)
	}
}

func TestSameFiles(t *testing.T) {
	d := mustDo(t, impl.DiskNew(20), deed{toCreate, "a", ""}, deed{toCreate, "b", ""}, deed{toAppend, "a", "one"}, deed{toAppend, "b", "two"})
	checkSameFiles(t, "itself", d, d, true)
	checkSameFiles(t, "sure names", d, mustDo(t, d, deed{toSyncNames, "", ""}), true)
	checkSameFiles(t, "sure bytes", d, mustDo(t, d, deed{toSync, "a", ""}), true)
	other := mustDo(t, impl.DiskNew(70), deed{toCreate, "x", ""}, deed{toCreate, "b", ""}, deed{toAppend, "b", "two"}, deed{toAppend, "x", "o"}, deed{toCreate, "a", ""}, deed{toAppend, "a", "one"})
	checkSameFiles(t, "one file more", d, other, false)
	checkSameFiles(t, "other numbers, room and steps", d, mustDo(t, other, deed{toRemove, "x", ""}), true)
	checkSameFiles(t, "a file under another name", d, mustDo(t, d, deed{toRename, "b", "c"}), false)
	checkSameFiles(t, "a file less", d, mustDo(t, d, deed{toRemove, "b", ""}), false)
	checkSameFiles(t, "an empty file more", d, mustDo(t, d, deed{toCreate, "c", ""}), false)
	checkSameFiles(t, "a byte more", d, mustDo(t, d, deed{toAppend, "b", "x"}), false)
	checkSameFiles(t, "both names, with one another's bytes", d, mustDo(t, d, deed{toRename, "a", "x"}, deed{toRename, "b", "a"}, deed{toRename, "x", "b"}), false)
	checkSameFiles(t, "other bytes, and as many", d, calmDisk(20, 3, d.Entries, impl.Node{Id: 1, Text: "onE"}, impl.Node{Id: 2, Text: "two"}), false)
	checkSameFiles(t, "one node of both names", calmDisk(20, 3, d.Entries, impl.Node{Id: 1, Text: "x"}, impl.Node{Id: 2, Text: "x"}), calmDisk(9, 9, []impl.Entry{{Name: "a", Id: 5}, {Name: "b", Id: 5}}, impl.Node{Id: 5, Text: "x"}), true)
	checkSameFiles(t, "nothing, and nodes without names", impl.DiskNew(0), diskOfMany(64, 0), true)
	checkSameFiles(t, "nothing, and one", impl.DiskNew(0), tenBytes(1, 1), false)
	checkSameFiles(t, "names that are sure alone", impl.DiskNew(0), impl.Disk{Nodes: []impl.Node{{Id: 1}}, Old: []impl.Entry{{Name: "a", Id: 1}}, Steps: []string{"-a"}, Next: 2}, true)
	checkSameFiles(t, "a fall with all of it", d, impl.Fallen(d, 2, []int{9}), true)
	checkSameFiles(t, "a fall with one byte less", d, impl.Fallen(d, 2, []int{9, 2}), false)
	checkSameFiles(t, "a fall with one name less", d, impl.Fallen(d, 1, []int{9}), false)
}

func TestSameFilesOfDisksThatAreNotRight(t *testing.T) {
	for _, d := range brokenDisks() {
		checkSameFiles(t, "itself", d, copyOfDisk(d), true)
	}
	d := diskOfSteps([]impl.Entry{{Name: "a", Id: 1}, {Name: "b", Id: 2}})
	back := copyOfDisk(d)
	slices.Reverse(back.Entries)
	checkSameFiles(t, "names in another order", d, back, false)
	checkSameFiles(t, "names in that order in both", back, back, true)
	for _, change := range []func(d *impl.Disk){
		func(d *impl.Disk) { d.Room = -1 },
		func(d *impl.Disk) { d.Next = 0 },
		func(d *impl.Disk) { d.Nodes[0].Sure = -1 },
		func(d *impl.Disk) { d.Steps = []string{"no step"} },
		func(d *impl.Disk) { d.Old = nil },
		func(d *impl.Disk) { slices.Reverse(d.Nodes) },
		func(d *impl.Disk) { d.Nodes[0].Id, d.Entries[0].Id = -7, -7 },
	} {
		other := copyOfDisk(d)
		change(&other)
		checkDiskOk(t, "a wrong disk", other, false)
		checkSameFiles(t, "what is wrong is no name and no bytes", d, other, true)
		other.Nodes = append(other.Nodes[:1:1], other.Nodes[2:]...)
		checkSameFiles(t, "a name of no node, and one of a node with bytes", d, other, false)
	}
	lost := impl.Disk{Entries: []impl.Entry{{Name: "A b", Id: 0}, {Name: "", Id: 4}}}
	checkSameFiles(t, "names of no nodes", lost, copyOfDisk(lost), true)
	checkSameFiles(t, "a name that stands twice", impl.Disk{Nodes: d.Nodes, Entries: append(slices.Clone(d.Entries), d.Entries[1])}, d, false)
}

func TestFallsLeaveTheirDiskAsItIs(t *testing.T) {
	for _, given := range append(brokenDisks(), rightDisks()...) {
		whole, d := withRoomBehind(given)
		before := copyOfDisk(whole)
		all := []int{2, -1, 9, 5, 7}
		for names := range 7 {
			keeps := all[:names%5]
			got := impl.Fallen(d, names, keeps)
			impl.CouldFall(d, got)
			impl.CouldFall(got, d)
			impl.CalmDisk(d)
			impl.UnsureOn(d)
			impl.SameDisk(d, got)
			impl.SameFiles(d, got)
			spoil(&got)
			if !sameDisks(whole, before) || !slices.Equal(all, []int{2, -1, 9, 5, 7}) {
				t.Fatalf("a fall, and what was written into its answer, leaves %v and %v; it was %v", whole, all, before)
			}
		}
	}
}

func TestListsOfAFallenDiskAreApart(t *testing.T) {
	shared := diskOfMany(5, 3)
	shared.Old = shared.Entries
	for _, d := range append(rightDisks(), shared) {
		for names := range len(d.Steps) + 1 {
			got := impl.Fallen(d, names, []int{1})
			want := slices.Clone(got.Entries)
			for i := range got.Old {
				got.Old[i] = impl.Entry{Name: "other", Id: 99}
			}
			_ = append(got.Old, impl.Entry{Name: "more"})
			if !slices.Equal(got.Entries, want) {
				t.Fatal("what was written into Old stands in Entries, too")
			}
			if hidden := got.Nodes[:cap(got.Nodes)]; len(hidden) > len(got.Nodes) {
				t.Fatalf("behind the nodes that are left there stand %v", hidden[len(got.Nodes):])
			}
		}
	}
}
