package tests

import (
	"fmt"
	"math"
	"slices"
	"strconv"
	"strings"
	"testing"

	"loop.example/g00971/impl"
)

// A right disk: node 2 has two names, node 5 has one that is gone, and node 7 has none at all.
func twoNamesDisk() impl.Disk {
	return impl.Disk{
		Nodes:   []impl.Node{{Id: 2, Text: "hello", Sure: 3}, {Id: 5, Text: "", Sure: 0}, {Id: 7, Text: "\x00\xff", Sure: 2}},
		Old:     []impl.Entry{{Name: "a", Id: 2}, {Name: "g", Id: 5}},
		Steps:   []string{"+c:2", ">g:b", "-b"},
		Entries: []impl.Entry{{Name: "a", Id: 2}, {Name: "c", Id: 2}},
		Room:    7,
		Next:    8,
	}
}

// Disks that are not right, each but for one thing.
func wrongDisks() []impl.Disk {
	changes := []func(d *impl.Disk){
		func(d *impl.Disk) { d.Room = 6 },
		func(d *impl.Disk) { d.Room = -1 },
		func(d *impl.Disk) { d.Next = 0 },
		func(d *impl.Disk) { d.Next = 7 },
		func(d *impl.Disk) { d.Nodes[0].Sure = 6 },
		func(d *impl.Disk) { d.Nodes[2].Sure = -1 },
		func(d *impl.Disk) { slices.Reverse(d.Nodes) },
		func(d *impl.Disk) { d.Nodes[0].Id = 1 },
		func(d *impl.Disk) { d.Steps = d.Steps[:2] },
		func(d *impl.Disk) { d.Steps = append(d.Steps, "-b") },
		func(d *impl.Disk) { d.Steps = append(d.Steps, "") },
		func(d *impl.Disk) { slices.Reverse(d.Entries) },
		func(d *impl.Disk) { slices.Reverse(d.Old) },
		func(d *impl.Disk) { d.Entries[1].Id = 5 },
		func(d *impl.Disk) { d.Old[1].Name = "G" },
	}
	var list []impl.Disk
	for _, change := range changes {
		d := twoNamesDisk()
		change(&d)
		list = append(list, d)
	}
	return list
}

// A disk without steps, with so many nodes of one byte and as many names, each for a node of its own.
func diskOfMany(nodes, names int) impl.Disk {
	d := impl.Disk{Room: nodes, Next: nodes + 1}
	for i := range nodes {
		d.Nodes = append(d.Nodes, impl.Node{Id: i + 1, Text: "x", Sure: i % 2})
	}
	d.Old = manyEntries(names)
	d.Entries = manyEntries(names)
	return d
}

func manyEntries(names int) []impl.Entry {
	var list []impl.Entry
	for i := range names {
		list = append(list, impl.Entry{Name: fmt.Sprintf("n%03d", i), Id: i + 1})
	}
	return list
}

// A disk with three nodes, Old and these steps, and the entries that stand behind all of them.
func diskOfSteps(old []impl.Entry, steps ...string) impl.Disk {
	d := impl.Disk{Nodes: []impl.Node{{Id: 1, Text: "one", Sure: 1}, {Id: 2, Text: "two"}, {Id: 10, Text: "ten", Sure: 3}}, Old: old, Steps: steps, Room: 9, Next: 11}
	d.Entries, _ = slowSteps(old, steps)
	return d
}

// What stands behind the steps, in a list that is kept in order; false when one of them is none.
func slowSteps(old []impl.Entry, steps []string) ([]impl.Entry, bool) {
	list := slices.Clone(old)
	for _, step := range steps {
		if step == "" {
			return nil, false
		}
		words := strings.Split(step[1:], ":")
		switch {
		case strings.HasPrefix(step, "+") && len(words) == 2:
			id, err := strconv.ParseUint(words[1], 10, 64)
			if err != nil || id > impl.MaxNumber || fmt.Sprint(id) != words[1] || !impl.NameOk(words[0]) {
				return nil, false
			}
			list = append(without(list, words[0]), impl.Entry{Name: words[0], Id: int(id)})
		case strings.HasPrefix(step, "-"):
			name := step[1:]
			if !hasName(list, name) || !impl.NameOk(name) {
				return nil, false
			}
			list = without(list, name)
		case strings.HasPrefix(step, ">"):
			if len(words) != 2 || words[0] == words[1] || !hasName(list, words[0]) || !impl.NameOk(words[0]) || !impl.NameOk(words[1]) {
				return nil, false
			}
			id := list[slices.IndexFunc(list, func(e impl.Entry) bool { return e.Name == words[0] })].Id
			list = append(without(without(list, words[0]), words[1]), impl.Entry{Name: words[1], Id: id})
		default:
			return nil, false
		}
		slices.SortFunc(list, func(a, b impl.Entry) int { return strings.Compare(a.Name, b.Name) })
	}
	return list, true
}

func without(list []impl.Entry, name string) []impl.Entry {
	return slices.DeleteFunc(slices.Clone(list), func(e impl.Entry) bool { return e.Name == name })
}

func hasName(list []impl.Entry, name string) bool {
	return slices.ContainsFunc(list, func(e impl.Entry) bool { return e.Name == name })
}

// Looks at the names of a disk whose nodes and numbers are right, beginning anew for each number of steps.
func slowNamesOk(d impl.Disk) bool {
	for n := range len(d.Steps) + 1 {
		list, ok := slowSteps(d.Old, d.Steps[:n])
		if !ok || len(list) > 16 {
			return false
		}
		for i, entry := range list {
			hasNode := slices.ContainsFunc(d.Nodes, func(node impl.Node) bool { return node.Id == entry.Id })
			if !hasNode || !impl.NameOk(entry.Name) || i > 0 && list[i-1].Name >= entry.Name {
				return false
			}
		}
		if n == len(d.Steps) && !slices.Equal(list, d.Entries) {
			return false
		}
	}
	return true
}

func copyOfDisk(d impl.Disk) impl.Disk {
	d.Nodes, d.Entries, d.Old, d.Steps = slices.Clone(d.Nodes), slices.Clone(d.Entries), slices.Clone(d.Old), slices.Clone(d.Steps)
	return d
}

func sameDisks(a, b impl.Disk) bool {
	return slices.Equal(a.Nodes, b.Nodes) && slices.Equal(a.Entries, b.Entries) && slices.Equal(a.Old, b.Old) && slices.Equal(a.Steps, b.Steps) && a.Room == b.Room && a.Next == b.Next
}

func checkDiskOk(t *testing.T, what string, d impl.Disk, want bool) {
	t.Helper()
	if got := impl.DiskOk(d); got != want {
		t.Errorf("%s: DiskOk(%.300s) = %v; want %v", what, fmt.Sprint(d), got, want)
	}
}

func checkNodeAt(t *testing.T, d impl.Disk, name string, want impl.Node, there bool) {
	t.Helper()
	if got, ok := impl.NodeAt(d, name); got != want || ok != there {
		t.Errorf("NodeAt(%.300s, %q) = %v, %v; want %v, %v", fmt.Sprint(d), name, got, ok, want, there)
	}
	if got, ok := impl.ReadFile(d, name); got != want.Text || ok != there {
		t.Errorf("ReadFile(%.300s, %q) = %q, %v; want %q, %v", fmt.Sprint(d), name, got, ok, want.Text, there)
	}
}

func TestNumbersOfTheDisk(t *testing.T) {
	got := []int{impl.MaxFiles, impl.DkName, impl.DkThere, impl.DkNone, impl.DkMany, impl.DkFull}
	if !slices.Equal(got, []int{16, 1, 2, 3, 4, 5}) {
		t.Error("MaxFiles, and the codes of a disk, are", got)
	}
}

func TestDiskNew(t *testing.T) {
	for _, c := range []struct {
		room, want int
		ok         bool
	}{
		{0, 0, true}, {1, 1, true}, {50, 50, true}, {impl.MaxNumber - 1, impl.MaxNumber - 1, true}, {impl.MaxNumber, impl.MaxNumber, true},
		{-1, 0, true}, {-50, 0, true}, {math.MinInt, 0, true},
		{impl.MaxNumber + 1, impl.MaxNumber + 1, false}, {math.MaxInt, math.MaxInt, false},
	} {
		d := impl.DiskNew(c.room)
		if !sameDisks(d, impl.Disk{Room: c.want, Next: 1}) {
			t.Errorf("DiskNew(%d) = %v; want room %d, next 1, and nothing else", c.room, d, c.want)
		}
		checkDiskOk(t, "a new disk", d, c.ok)
	}
}

func TestRightDisks(t *testing.T) {
	checkDiskOk(t, "two names of one node", twoNamesDisk(), true)
	checkDiskOk(t, "nothing", impl.Disk{Next: 1}, true)
	checkDiskOk(t, "empty lists", impl.Disk{Nodes: []impl.Node{}, Entries: []impl.Entry{}, Old: []impl.Entry{}, Steps: []string{}, Next: 1}, true)
	checkDiskOk(t, "the zero value, whose Next is 0", impl.Disk{}, false)
	for names := range 17 {
		checkDiskOk(t, "as many nodes as names", diskOfMany(names, names), true)
		checkDiskOk(t, "64 nodes", diskOfMany(64, names), true)
	}
	d := diskOfMany(3, 2)
	d.Old, d.Entries = nil, nil
	checkDiskOk(t, "nodes that have no names", d, true)
}

func TestAllNamesOfOneNode(t *testing.T) {
	d := diskOfMany(1, 16)
	for i := range d.Entries {
		d.Entries[i].Id, d.Old[i].Id = 1, 1
	}
	checkDiskOk(t, "16 names of one node", d, true)
	if used := impl.UsedOn(d); used != 1 {
		t.Errorf("a node with 16 names has %d bytes; want 1", used)
	}
	for _, name := range impl.FileNames(d) {
		checkNodeAt(t, d, name, d.Nodes[0], true)
	}
}

func TestWrongDisks(t *testing.T) {
	for i, d := range wrongDisks() {
		checkDiskOk(t, fmt.Sprint("wrong disk ", i), d, false)
	}
}

func TestDiskOkRoomAndNext(t *testing.T) {
	for _, c := range []struct {
		bytes, room, next int
		want              bool
	}{
		{0, 0, 2, true}, {1, 0, 2, false}, {1, 1, 2, true}, {5, 5, 2, true}, {5, 4, 2, false}, {5, 6, 2, true},
		{0, -1, 2, false}, {0, math.MinInt, 2, false}, {5, -5, 2, false},
		{0, impl.MaxNumber, 2, true}, {0, impl.MaxNumber + 1, 2, false}, {0, math.MaxInt, 2, false}, {0, 1 << 32, 2, false},
		{0, 0, 1, false}, {0, 0, 0, false}, {0, 0, -1, false}, {0, 0, math.MinInt, false}, {0, 0, 3, true},
		{0, 0, impl.MaxNumber, true}, {0, 0, impl.MaxNumber + 1, false}, {0, 0, math.MaxInt, false},
	} {
		d := impl.Disk{Nodes: []impl.Node{{Id: 1, Text: strings.Repeat("x", c.bytes)}}, Room: c.room, Next: c.next}
		checkDiskOk(t, "room and next", d, c.want)
	}
	for next, want := range map[int]bool{-1: false, 0: false, 1: true, 2: true, impl.MaxNumber: true, impl.MaxNumber + 1: false} {
		checkDiskOk(t, "next without nodes", impl.Disk{Next: next}, want)
	}
}

func TestDiskOkCountsTheBytesOfAllNodes(t *testing.T) {
	d := diskOfMany(64, 16)
	for _, room := range []int{63, 16, 8, 1, 0} {
		d.Room = room
		checkDiskOk(t, "64 bytes, 48 of them in nodes without names", d, false)
	}
	d.Room = 65
	checkDiskOk(t, "64 bytes, and room for one more", d, true)
}

func TestDiskOkNodes(t *testing.T) {
	checkDiskOk(t, "64 nodes", diskOfMany(64, 0), true)
	checkDiskOk(t, "65 nodes", diskOfMany(65, 0), false)
	checkDiskOk(t, "300 nodes", diskOfMany(300, 16), false)
	for _, c := range []struct {
		ids  []int
		want bool
	}{
		{[]int{1}, true}, {[]int{9}, true}, {[]int{10}, false}, {[]int{11}, false}, {[]int{0}, false}, {[]int{-1}, false}, {[]int{math.MinInt}, false}, {[]int{math.MaxInt}, false},
		{[]int{1, 2, 3}, true}, {[]int{2, 5, 9}, true}, {[]int{1, 9, 10}, false}, {[]int{0, 1, 2}, false},
		{[]int{1, 1}, false}, {[]int{2, 1}, false}, {[]int{1, 3, 2}, false}, {[]int{3, 1, 2}, false}, {[]int{1, 2, 2}, false}, {[]int{1, 9, 2}, false},
	} {
		d := impl.Disk{Next: 10}
		for _, id := range c.ids {
			d.Nodes = append(d.Nodes, impl.Node{Id: id})
		}
		checkDiskOk(t, "nodes of these numbers", d, c.want)
	}
	checkDiskOk(t, "the greatest number of a node", impl.Disk{Nodes: []impl.Node{{Id: impl.MaxNumber - 1}}, Next: impl.MaxNumber}, true)
	checkDiskOk(t, "a number above that", impl.Disk{Nodes: []impl.Node{{Id: impl.MaxNumber}}, Next: impl.MaxNumber}, false)
}

func TestDiskOkSure(t *testing.T) {
	for sure, want := range map[int]bool{-2: false, -1: false, 0: true, 1: true, 4: true, 5: true, 6: false, 7: false, math.MaxInt: false, math.MinInt: false} {
		d := twoNamesDisk()
		d.Nodes[0].Sure = sure
		checkDiskOk(t, "the first node's Sure", d, want)
		d = twoNamesDisk()
		d.Nodes[2].Text, d.Nodes[2].Sure, d.Room = "12345", sure, 10
		checkDiskOk(t, "the last node's Sure", d, want)
	}
	d := twoNamesDisk()
	d.Nodes[1].Sure = 1
	checkDiskOk(t, "one byte sure of none", d, false)
}

func TestDiskOkEntries(t *testing.T) {
	long := strings.Repeat("z", 20)
	for _, c := range []struct {
		list []impl.Entry
		want bool
	}{
		{nil, true},
		{[]impl.Entry{{Name: "a", Id: 1}}, true},
		{[]impl.Entry{{Name: "a", Id: 10}, {Name: "b", Id: 1}}, true},
		{[]impl.Entry{{Name: "a", Id: 1}, {Name: "b", Id: 1}}, true},
		{[]impl.Entry{{Name: "a", Id: 1}, {Name: "a-", Id: 2}, {Name: "a.", Id: 2}, {Name: "a0", Id: 1}, {Name: "aa", Id: 10}}, true},
		{[]impl.Entry{{Name: long, Id: 1}}, true},
		{[]impl.Entry{{Name: long + "z", Id: 1}}, false},
		{[]impl.Entry{{Name: "b", Id: 1}, {Name: "a", Id: 2}}, false},
		{[]impl.Entry{{Name: "a", Id: 1}, {Name: "c", Id: 1}, {Name: "b", Id: 1}}, false},
		{[]impl.Entry{{Name: "a", Id: 1}, {Name: "a", Id: 1}}, false},
		{[]impl.Entry{{Name: "a", Id: 1}, {Name: "a", Id: 2}}, false},
		{[]impl.Entry{{Name: "aa", Id: 1}, {Name: "a", Id: 2}}, false},
		{[]impl.Entry{{Name: "", Id: 1}}, false},
		{[]impl.Entry{{Name: "", Id: 1}, {Name: "a", Id: 1}}, false},
		{[]impl.Entry{{Name: "A", Id: 1}}, false},
		{[]impl.Entry{{Name: "A", Id: 1}, {Name: "a", Id: 1}}, false},
		{[]impl.Entry{{Name: "a", Id: 1}, {Name: "b c", Id: 1}}, false},
		{[]impl.Entry{{Name: "a", Id: 1}, {Name: "b\xff", Id: 1}}, false},
		{[]impl.Entry{{Name: "a:1", Id: 1}}, false},
		{[]impl.Entry{{Name: "a", Id: 0}}, false},
		{[]impl.Entry{{Name: "a", Id: -1}}, false},
		{[]impl.Entry{{Name: "a", Id: 3}}, false},
		{[]impl.Entry{{Name: "a", Id: 1}, {Name: "b", Id: 9}}, false},
		{[]impl.Entry{{Name: "a", Id: 11}, {Name: "b", Id: 1}}, false},
	} {
		d := diskOfSteps(c.list)
		d.Entries = slices.Clone(c.list)
		checkDiskOk(t, "entries that are sure", d, c.want)
	}
}

func TestDiskOkHasAtMostMaxFiles(t *testing.T) {
	checkDiskOk(t, "16 entries", diskOfMany(64, 16), true)
	checkDiskOk(t, "17 entries", diskOfMany(64, 17), false)
	checkDiskOk(t, "64 entries", diskOfMany(64, 64), false)
	for names, want := range map[int]bool{14: true, 15: true, 16: false, 17: false} {
		d := diskOfMany(64, names)
		d.Steps = []string{"+x:1"}
		d.Entries = append(d.Entries, impl.Entry{Name: "x", Id: 1})
		checkDiskOk(t, "one more by a step", d, want)
		d.Steps = []string{"+x:1", "-x"}
		d.Entries = manyEntries(names)
		checkDiskOk(t, "one more by a step, and gone by the next one", d, want)
	}
	for names, want := range map[int]bool{15: true, 16: true, 17: false} {
		d := diskOfMany(64, names)
		d.Steps = []string{"+n000:2"}
		d.Entries[0].Id = 2
		checkDiskOk(t, "a name that is there stands for another node", d, want)
		d = diskOfMany(64, names)
		d.Steps = []string{"-n000", "+x:1"}
		d.Entries = append(d.Entries[1:], impl.Entry{Name: "x", Id: 1})
		checkDiskOk(t, "one less by a step, and one more by the next one", d, want)
		d = diskOfMany(64, names)
		d.Steps = []string{">n000:x"}
		d.Entries = append(d.Entries[1:], impl.Entry{Name: "x", Id: 1})
		checkDiskOk(t, "a name that became another one", d, want)
	}
	late := diskOfMany(64, 17)
	late.Steps, late.Entries = []string{"-n000"}, late.Entries[1:]
	checkDiskOk(t, "17 that are sure, 16 behind the step", late, false)
}

func TestDiskOkEntriesAreWhatTheStepsCameTo(t *testing.T) {
	old := []impl.Entry{{Name: "a", Id: 1}, {Name: "c", Id: 2}}
	lists := [][]impl.Entry{
		nil,
		{{Name: "a", Id: 1}},
		{{Name: "c", Id: 2}},
		{{Name: "a", Id: 1}, {Name: "c", Id: 2}},
		{{Name: "c", Id: 2}, {Name: "a", Id: 1}},
		{{Name: "a", Id: 2}, {Name: "c", Id: 1}},
		{{Name: "a", Id: 2}, {Name: "c", Id: 2}},
		{{Name: "a", Id: 2}},
		{{Name: "c", Id: 1}},
		{{Name: "b", Id: 1}, {Name: "c", Id: 2}},
		{{Name: "b", Id: 2}, {Name: "c", Id: 2}},
		{{Name: "a", Id: 1}, {Name: "b", Id: 10}, {Name: "c", Id: 2}},
		{{Name: "a", Id: 1}, {Name: "c", Id: 2}, {Name: "b", Id: 10}},
		{{Name: "a", Id: 1}, {Name: "a", Id: 1}, {Name: "c", Id: 2}},
	}
	for _, c := range []struct {
		steps []string
		right int
	}{
		{nil, 3}, {[]string{"-c"}, 1}, {[]string{"-a"}, 2}, {[]string{"-a", "-c"}, 0}, {[]string{"-c", "-a"}, 0},
		{[]string{"+a:2"}, 6}, {[]string{"+a:2", "+c:1"}, 5}, {[]string{">c:a"}, 7}, {[]string{">a:c"}, 8}, {[]string{">a:b"}, 9},
		{[]string{"+b:10"}, 11}, {[]string{">a:b", ">b:a"}, 3}, {[]string{"-a", "+a:1"}, 3}, {[]string{"+a:1"}, 3},
		{[]string{">a:b", ">c:a", ">b:c"}, 5}, {[]string{"+b:2", "-a"}, 10}, {[]string{">a:c", "+a:2", ">a:c", ">c:a"}, 7},
	} {
		for i, list := range lists {
			d := diskOfSteps(old, c.steps...)
			d.Entries = list
			checkDiskOk(t, "entries and steps", d, i == c.right)
		}
	}
}

func TestDiskOkNoSteps(t *testing.T) {
	old := []impl.Entry{{Name: "a", Id: 1}, {Name: "b", Id: 2}}
	for _, step := range []string{
		"", "+", "-", ">", ":", "+:", "-:", ">:", "a", "+a", "a:1", "=a:1", "*a", "<a:c", "<b:a", " +a:1", "+ a:1", "+a: 1", "+a:1 ", "+a :1", "++a:1", "--a", ">>a:c",
		"+:1", "+a:", "+a:x", "+a:-1", "+a:+1", "+a:01", "+a:00", "+a:1.", "+a:0x1", "+a:1:", "+a:1:1", "+a::1", "+:a:1", "+a:1\n", "+a;1", "+a1", "+a:\xff", "+a:1a", "+A:1", "+a b:1", "+\xff:1", "+a_b:1",
		"+a:1000000001", "+a:9999999999999999999", "+a:18446744073709551617", "+a:0", "+a:3", "+a:9", "+a:11", "+a:1000000000",
		"+" + strings.Repeat("z", 21) + ":1",
		"-c", "-A", "-a:", "-a:1", "-:a", "-a ", "- a", "-ab", "-aa", "-\x00", "-a\n",
		">a", ">a:", ">:a", ">a:a", ">b:b", ">c:a", ">c:d", ">c:c", ">a:C", ">A:a", ">a:c:", ">a::c", ">a:b:c", ">a:c d", ">a: c", ">a :c", "> a:c", ">a:c\n", ">a,c", ">a>c", ">a:" + strings.Repeat("z", 21),
	} {
		for _, steps := range [][]string{{step}, {step, "+a:1"}, {"+a:1", step}, {"-b", "+b:2", step, "+a:1"}} {
			for _, entries := range [][]impl.Entry{old, {{Name: "a", Id: 1}}, {{Name: "b", Id: 2}}, {{Name: "a", Id: 2}}, {{Name: "b", Id: 1}}, nil} {
				d := diskOfSteps(old, steps...)
				d.Entries = entries
				checkDiskOk(t, "a step that is none", d, false)
			}
		}
	}
	for _, step := range []string{"+a:1", "+a:2", "+a:10", "+c:1", "+" + strings.Repeat("z", 20) + ":1", "-a", "-b", ">a:c", ">a:b", ">b:a", ">a:" + strings.Repeat("z", 20), ">a:-", ">a:.", "+-:1", "+.:1"} {
		checkDiskOk(t, "a step that is one", diskOfSteps(old, step), true)
	}
}

func TestDiskOkOfEachFirstByteOfAStep(t *testing.T) {
	old := []impl.Entry{{Name: "a", Id: 1}, {Name: "b", Id: 2}}
	for b := range 256 {
		first := string([]byte{byte(b)})
		for _, c := range []struct {
			said, by string
			entries  []impl.Entry
		}{
			{"a:2", "+", []impl.Entry{{Name: "a", Id: 2}, {Name: "b", Id: 2}}},
			{"a", "-", []impl.Entry{{Name: "b", Id: 2}}},
			{"a:b", ">", []impl.Entry{{Name: "b", Id: 1}}},
		} {
			d := diskOfSteps(old, first+c.said)
			d.Entries = c.entries
			checkDiskOk(t, "a step with this first byte", d, first == c.by)
		}
	}
}

// The entries are just what the steps would come to if they were any.
func TestDiskOkStepsToWrongNames(t *testing.T) {
	for _, c := range []struct {
		name string
		want bool
	}{
		{"n", true}, {"-", true}, {"0", true}, {strings.Repeat("n", 20), true},
		{"", false}, {"N", false}, {"n ", false}, {" n", false}, {"n_", false}, {"n/", false}, {"+n", false}, {">n", false}, {"n\x00", false}, {"\xff", false}, {"n\n", false}, {strings.Repeat("n", 21), false},
	} {
		added := diskOfSteps(nil, "+"+c.name+":2")
		added.Entries = []impl.Entry{{Name: c.name, Id: 2}}
		checkDiskOk(t, "a name that is added", added, c.want)
		moved := diskOfSteps([]impl.Entry{{Name: "a", Id: 2}}, ">a:"+c.name)
		moved.Entries = []impl.Entry{{Name: c.name, Id: 2}}
		checkDiskOk(t, "a name that another one became", moved, c.want)
		moved.Steps, moved.Entries = []string{">a:" + c.name, ">" + c.name + ":a"}, []impl.Entry{{Name: "a", Id: 2}}
		checkDiskOk(t, "a name that another one was", moved, c.want)
	}
}

// What stands behind any number of the steps counts, not only what stands behind all of them.
func TestDiskOkBehindAnyNumberOfSteps(t *testing.T) {
	old := []impl.Entry{{Name: "a", Id: 1}}
	for _, c := range []struct {
		steps []string
		want  bool
	}{
		{[]string{"+b:2", "-b"}, true}, {[]string{"+b:3", "-b"}, false}, {[]string{"+b:0", "+b:2"}, false}, {[]string{"+a:3", "+a:1"}, false}, {[]string{"+b:3", ">a:b"}, false},
		{[]string{"-a", "-a"}, false}, {[]string{"-a", "+a:1", "-a"}, true}, {[]string{">a:b", "-a"}, false}, {[]string{">a:b", "-b"}, true}, {[]string{">a:b", ">a:c"}, false},
		{[]string{"-b", "+b:1"}, false}, {[]string{"+b:1", "-b"}, true}, {[]string{"-b"}, false}, {[]string{">b:c", "+b:1"}, false}, {[]string{"+b:1", ">b:c"}, true},
	} {
		checkDiskOk(t, "steps one behind the other", diskOfSteps(old, c.steps...), c.want)
	}
	gone := diskOfSteps([]impl.Entry{{Name: "a", Id: 3}}, "-a")
	checkDiskOk(t, "a sure name of no node, gone by a step", gone, false)
	wrong := diskOfSteps([]impl.Entry{{Name: "A", Id: 1}}, "-A")
	checkDiskOk(t, "a sure name that is not right, gone by a step", wrong, false)
	swapped := diskOfSteps([]impl.Entry{{Name: "b", Id: 1}, {Name: "a", Id: 2}}, "-a")
	checkDiskOk(t, "sure names out of order, with one of them gone by a step", swapped, false)
	twins := diskOfSteps([]impl.Entry{{Name: "a", Id: 1}, {Name: "a", Id: 2}}, "-a")
	checkDiskOk(t, "twins that are sure, gone by a step", twins, false)
}

func TestDiskOkOfUpToThreeSteps(t *testing.T) {
	steps := []string{"+a:1", "+a:2", "+b:2", "+b:3", "+c:10", "-a", "-b", "-c", ">a:b", ">b:a", ">b:c", ">c:c", ">c:a", "", "+a:01", "-A"}
	old := []impl.Entry{{Name: "a", Id: 1}, {Name: "b", Id: 1}}
	for _, first := range steps {
		for _, second := range steps {
			for _, third := range steps {
				all := []string{first, second, third}
				for n := range 4 {
					d := diskOfSteps(old, all[:n]...)
					checkDiskOk(t, "steps", d, slowNamesOk(d))
					d.Entries = slices.Clone(old)
					checkDiskOk(t, "steps that come to the beginning again", d, slowNamesOk(d))
				}
			}
		}
	}
}

func TestDiskOkOfManySteps(t *testing.T) {
	var steps []string
	for range 5000 {
		steps = append(steps, "+b:2", ">b:c", "+c:10", "-c")
	}
	old := []impl.Entry{{Name: "a", Id: 1}}
	d := impl.Disk{Nodes: diskOfSteps(nil).Nodes, Old: old, Entries: slices.Clone(old), Steps: steps, Room: 9, Next: 11}
	checkDiskOk(t, "20000 steps", d, true)
	d.Steps = append(slices.Clone(steps), "-c")
	checkDiskOk(t, "20000 steps, and one that is none", d, false)
}

func TestEntryAt(t *testing.T) {
	list := []impl.Entry{{Name: "b", Id: 7}, {Name: "a", Id: 3}, {Name: "c", Id: 7}, {Name: "A b", Id: 9}, {Name: "", Id: 4}, {Name: "low", Id: -5}, {Name: "nought", Id: 0}, {Name: "a", Id: 8}, {Name: "nought", Id: 2}}
	for name, want := range map[string]int{"b": 7, "a": 3, "c": 7, "A b": 9, "": 4, "low": -5, "nought": 0, "d": 0, "B": 0, "A": 0, "aa": 0, "lo": 0, "a\x00": 0, "\xff": 0} {
		if got := impl.EntryAt(list, name); got != want {
			t.Errorf("EntryAt of %q is %d; want %d", name, got, want)
		}
		if got := impl.EntryAt(nil, name); got != 0 {
			t.Errorf("EntryAt of %q in no entries is %d; want 0", name, got)
		}
	}
	many := manyEntries(300)
	for i, entry := range many {
		if got := impl.EntryAt(many, entry.Name); got != i+1 {
			t.Errorf("EntryAt of %q is %d; want %d", entry.Name, got, i+1)
		}
	}
}

func TestFilesAreReadByTheirNames(t *testing.T) {
	d := twoNamesDisk()
	hello := impl.Node{Id: 2, Text: "hello", Sure: 3}
	checkNodeAt(t, d, "a", hello, true)
	checkNodeAt(t, d, "c", hello, true)
	// g is only sure, b was there between two steps, and the others never were.
	for _, name := range []string{"g", "b", "d", "", "A", "aa", "2", "a:2", "hello", "\xff"} {
		checkNodeAt(t, d, name, impl.Node{}, false)
	}
	empty := diskOfSteps(nil, "+e:4")
	empty.Nodes = append(empty.Nodes[:2:2], impl.Node{Id: 4})
	checkDiskOk(t, "a file without bytes", empty, true)
	checkNodeAt(t, empty, "e", impl.Node{Id: 4}, true)
	many := diskOfMany(64, 16)
	for i, entry := range many.Entries {
		checkNodeAt(t, many, entry.Name, many.Nodes[i], true)
	}
	checkNodeAt(t, impl.Disk{}, "", impl.Node{}, false)
	checkNodeAt(t, impl.DiskNew(10), "a", impl.Node{}, false)
}

func TestFilesOfWrongDisks(t *testing.T) {
	for _, d := range wrongDisks() {
		for _, entry := range d.Entries {
			at := slices.IndexFunc(d.Nodes, func(node impl.Node) bool { return node.Id == entry.Id })
			if at < 0 {
				checkNodeAt(t, d, entry.Name, impl.Node{}, false)
				continue
			}
			checkNodeAt(t, d, entry.Name, d.Nodes[at], true)
		}
		checkNodeAt(t, d, "x", impl.Node{}, false)
	}
	d := impl.Disk{
		Nodes:   []impl.Node{{Id: 9, Text: "nine", Sure: 40}, {Id: 0, Text: "nought", Sure: -1}, {Id: -3, Text: "low"}, {Id: 9, Text: "again"}},
		Entries: []impl.Entry{{Name: "z", Id: 9}, {Name: "A b", Id: -3}, {Name: "", Id: 0}, {Name: "z", Id: -3}, {Name: "lost", Id: 5}, {Name: "lost", Id: 9}},
		Old:     []impl.Entry{{Name: "old", Id: 9}},
	}
	checkDiskOk(t, "all of it wrong", d, false)
	checkNodeAt(t, d, "z", d.Nodes[0], true)
	checkNodeAt(t, d, "A b", d.Nodes[2], true)
	checkNodeAt(t, d, "", d.Nodes[1], true)
	checkNodeAt(t, d, "lost", impl.Node{}, false)
	checkNodeAt(t, d, "old", impl.Node{}, false)
	checkNodeAt(t, d, "none", impl.Node{}, false)
}

func TestUsedOn(t *testing.T) {
	for _, c := range []struct {
		nodes []impl.Node
		want  int
	}{
		{nil, 0},
		{[]impl.Node{{Id: 1}}, 0},
		{[]impl.Node{{Id: 1, Text: "hello", Sure: 2}}, 5},
		{[]impl.Node{{Id: 1, Text: "hello", Sure: 2}, {Id: 2, Sure: 3}, {Id: 3, Text: "\u00e9\xff\x00", Sure: 4}}, 9},
		{[]impl.Node{{Id: 1, Text: "one"}, {Id: 1, Text: "one"}, {Id: -1, Text: "two"}}, 9},
	} {
		for _, d := range []impl.Disk{{Nodes: c.nodes}, {Nodes: c.nodes, Room: 1, Next: -1, Old: manyEntries(3), Entries: manyEntries(2), Steps: []string{"+x:1"}}} {
			if got := impl.UsedOn(d); got != c.want {
				t.Errorf("UsedOn(%v) = %d; want %d", d, got, c.want)
			}
		}
	}
	if got := impl.UsedOn(twoNamesDisk()); got != 7 {
		t.Errorf("UsedOn of a disk with 7 bytes is %d", got)
	}
	if got := impl.UsedOn(diskOfMany(300, 16)); got != 300 {
		t.Errorf("UsedOn of a disk with 300 bytes is %d", got)
	}
}

func TestFileNames(t *testing.T) {
	for _, c := range []struct {
		entries []impl.Entry
		want    []string
	}{
		{nil, nil},
		{[]impl.Entry{}, nil},
		{[]impl.Entry{{Name: "a", Id: 1}}, []string{"a"}},
		{[]impl.Entry{{Name: "a", Id: 1}, {Name: "b", Id: 1}, {Name: "c", Id: 2}}, []string{"a", "b", "c"}},
		{[]impl.Entry{{Name: "c", Id: 1}, {Name: "a", Id: 1}, {Name: "b", Id: 2}}, []string{"c", "a", "b"}},
		{[]impl.Entry{{Name: "b", Id: 1}, {Name: "a", Id: 3}, {Name: "b", Id: 2}}, []string{"b", "a", "b"}},
		{[]impl.Entry{{Name: "a", Id: 1}, {Name: "a", Id: 1}, {Name: "b", Id: 2}, {Name: "b", Id: 3}}, []string{"a", "a", "b", "b"}},
		{[]impl.Entry{{Name: "A b", Id: 0}, {Name: "", Id: -1}, {Name: "\xff", Id: 1}}, []string{"A b", "", "\xff"}},
	} {
		for _, d := range []impl.Disk{{Entries: c.entries}, {Entries: c.entries, Old: manyEntries(3), Steps: []string{"+x:1"}, Next: 1}} {
			if got := impl.FileNames(d); !slices.Equal(got, c.want) {
				t.Errorf("FileNames(%v) = %q; want %q", d, got, c.want)
			}
		}
	}
	if got := impl.FileNames(twoNamesDisk()); !slices.Equal(got, []string{"a", "c"}) {
		t.Errorf("FileNames of a disk with a and c is %q", got)
	}
	if got := impl.FileNames(diskOfMany(300, 300)); len(got) != 300 || got[299] != "n299" {
		t.Errorf("FileNames of 300 entries is %q", got)
	}
}

// The disk with one more in each list, and that disk with lists that end ahead of it, so that the room behind them holds something.
func withRoomBehind(d impl.Disk) (whole, short impl.Disk) {
	whole = copyOfDisk(d)
	whole.Nodes = append(whole.Nodes, impl.Node{Id: 40, Text: "behind"})
	whole.Entries = append(whole.Entries, impl.Entry{Name: "behind", Id: 40})
	whole.Old = append(whole.Old, impl.Entry{Name: "behind", Id: 41})
	whole.Steps = append(whole.Steps, "+behind:40")
	short = whole
	short.Nodes, short.Entries = whole.Nodes[:len(d.Nodes)], whole.Entries[:len(d.Entries)]
	short.Old, short.Steps = whole.Old[:len(d.Old)], whole.Steps[:len(d.Steps)]
	return whole, short
}

func TestDisksAreLeftAsTheyAre(t *testing.T) {
	for _, given := range append(wrongDisks(), twoNamesDisk(), diskOfMany(64, 16)) {
		whole, d := withRoomBehind(given)
		before := copyOfDisk(whole)
		right := impl.DiskOk(d)
		names := impl.FileNames(d)
		for _, name := range append([]string{"x"}, names...) {
			impl.NodeAt(d, name)
			impl.ReadFile(d, name)
			impl.EntryAt(d.Entries, name)
			impl.EntryAt(d.Old, name)
		}
		impl.UsedOn(d)
		for i := range names {
			names[i] = "other"
		}
		_ = append(names, "more")
		if !sameDisks(whole, before) || impl.DiskOk(d) != right {
			t.Errorf("a disk that was asked is %v; it was %v", whole, before)
		}
	}
}
