package tests

import (
	"fmt"
	"math"
	"slices"
	"strings"
	"testing"

	"loop.example/g00971/impl"
)

const (
	toCreate    = "create"
	toAppend    = "append"
	toSync      = "sync"
	toRename    = "rename"
	toRemove    = "remove"
	toSyncNames = "sync names"
)

// What is to be done with a disk: more is the text that is laid behind, or the name that the file gets.
type deed struct{ kind, name, more string }

var longName = strings.Repeat("n", 20)

var wrongNames = []string{"", "A", "a b", "a_b", "a:1", "+a", ">a", "a/", "a\x00", "\xff", "a\n", " a", "Z", longName + "n", strings.Repeat("n", 300)}

func do(d impl.Disk, x deed) (impl.Disk, int) {
	switch x.kind {
	case toCreate:
		return impl.CreateFile(d, x.name)
	case toAppend:
		return impl.AppendFile(d, x.name, x.more)
	case toSync:
		return impl.SyncFile(d, x.name)
	case toRename:
		return impl.RenameFile(d, x.name, x.more)
	case toRemove:
		return impl.RemoveFile(d, x.name)
	}
	return impl.SyncNames(d), 0
}

// The same by the chapter's sentences, on a disk that is right.
func slowDo(d impl.Disk, x deed) (impl.Disk, int) {
	code := slowCode(d, x)
	d = copyOfDisk(d)
	if code != 0 && code != impl.DkFull {
		return d, code
	}
	at := slices.IndexFunc(d.Nodes, func(node impl.Node) bool {
		return slices.Contains(d.Entries, impl.Entry{Name: x.name, Id: node.Id})
	})
	switch x.kind {
	case toAppend:
		room := d.Room
		for _, node := range d.Nodes {
			room -= len(node.Text)
		}
		if len(x.more) > room {
			x.more = x.more[:room]
		}
		d.Nodes[at].Text += x.more
		return d, code
	case toSync:
		d.Nodes[at].Sure = len(d.Nodes[at].Text)
		return d, code
	case toCreate:
		d.Steps = append(d.Steps, fmt.Sprintf("+%s:%d", x.name, d.Next))
		d.Nodes = append(d.Nodes, impl.Node{Id: d.Next})
		d.Next++
	case toRename:
		d.Steps = append(d.Steps, ">"+x.name+":"+x.more)
	case toRemove:
		d.Steps = append(d.Steps, "-"+x.name)
	case toSyncNames:
		d.Old, d.Steps = slices.Clone(d.Entries), nil
	}
	d.Entries, _ = slowSteps(d.Old, d.Steps)
	d.Nodes = slices.DeleteFunc(d.Nodes, func(node impl.Node) bool { return !slowStands(d, node.Id) })
	return d, code
}

func slowCode(d impl.Disk, x deed) int {
	there := hasName(d.Entries, x.name)
	switch {
	case x.kind == toCreate && !impl.NameOk(x.name):
		return impl.DkName
	case x.kind == toCreate && there:
		return impl.DkThere
	case x.kind == toCreate && (len(d.Entries) == 16 || len(d.Nodes) == 64 || d.Next == 1000000000):
		return impl.DkMany
	case x.kind == toCreate || x.kind == toSyncNames:
		return 0
	case !there:
		return impl.DkNone
	case x.kind == toRename && (!impl.NameOk(x.more) || x.more == x.name):
		return impl.DkName
	case x.kind == toAppend && impl.UsedOn(d)+len(x.more) > d.Room:
		return impl.DkFull
	}
	return 0
}

// Whether some name stands for the node behind some number of the steps.
func slowStands(d impl.Disk, id int) bool {
	for n := range len(d.Steps) + 1 {
		list, _ := slowSteps(d.Old, d.Steps[:n])
		if slices.ContainsFunc(list, func(entry impl.Entry) bool { return entry.Id == id }) {
			return true
		}
	}
	return false
}

func checkDo(t *testing.T, d impl.Disk, x deed, want impl.Disk, code int) {
	t.Helper()
	got, gotCode := do(d, x)
	if gotCode != code || !sameDisks(got, want) {
		t.Errorf("%.60q of %.400s: code %d, and\n%.400s; want code %d, and\n%.400s", x, fmt.Sprint(d), gotCode, fmt.Sprint(got), code, fmt.Sprint(want))
	}
}

func checkRefused(t *testing.T, d impl.Disk, x deed, code int) {
	t.Helper()
	checkDo(t, d, x, d, code)
}

// Does all of it, each with code 0 and a right disk behind it.
func mustDo(t *testing.T, d impl.Disk, list ...deed) impl.Disk {
	t.Helper()
	for _, x := range list {
		next, code := do(d, x)
		if code != 0 {
			t.Fatalf("%q of %v has the code %d", x, d, code)
		}
		checkDiskOk(t, fmt.Sprintf("behind %q", x), next, true)
		d = next
	}
	return d
}

func checkText(t *testing.T, d impl.Disk, name, want string) {
	t.Helper()
	if got, ok := impl.ReadFile(d, name); !ok || got != want {
		t.Errorf("%q of %.400s has %q, %v; want %q", name, fmt.Sprint(d), got, ok, want)
	}
}

func checkGone(t *testing.T, d impl.Disk, name string) {
	t.Helper()
	if got, ok := impl.ReadFile(d, name); ok {
		t.Errorf("%q of %.400s has %q; want no such name", name, fmt.Sprint(d), got)
	}
}

func checkIds(t *testing.T, what string, d impl.Disk, want ...int) {
	t.Helper()
	var ids []int
	for _, node := range d.Nodes {
		ids = append(ids, node.Id)
	}
	if !slices.Equal(ids, want) {
		t.Errorf("%s: the nodes are %v; want %v (%.400s)", what, ids, want, fmt.Sprint(d))
	}
}

func allDeeds() []deed {
	var list []deed
	for _, name := range append([]string{"a", "b", "c", "g", "x", longName}, wrongNames...) {
		list = append(list, deed{toCreate, name, ""}, deed{toSync, name, ""}, deed{toRemove, name, ""})
		for _, more := range []string{"", "a", "c", "x", "X", longName, longName + "n", "longer than any room here"} {
			list = append(list, deed{toAppend, name, more}, deed{toRename, name, more})
		}
	}
	return append(list, deed{toSyncNames, "", ""})
}

func checkSteps(t *testing.T, old []impl.Entry, steps []string, n int, want []impl.Entry, ok bool) {
	t.Helper()
	if got, gotOk := impl.StepsDone(old, steps, n); gotOk != ok || !slices.Equal(got, want) {
		t.Errorf("StepsDone(%.200s, %.200q, %d) = %.200s, %v; want %.200s, %v", fmt.Sprint(old), steps, n, fmt.Sprint(got), gotOk, fmt.Sprint(want), ok)
	}
}

func TestStepsDone(t *testing.T) {
	old := []impl.Entry{{Name: "b", Id: 2}, {Name: "d", Id: 4}}
	for _, c := range []struct {
		steps []string
		want  []impl.Entry
	}{
		{nil, old},
		{[]string{"+a:7"}, []impl.Entry{{Name: "a", Id: 7}, {Name: "b", Id: 2}, {Name: "d", Id: 4}}},
		{[]string{"+c:7"}, []impl.Entry{{Name: "b", Id: 2}, {Name: "c", Id: 7}, {Name: "d", Id: 4}}},
		{[]string{"+e:7"}, []impl.Entry{{Name: "b", Id: 2}, {Name: "d", Id: 4}, {Name: "e", Id: 7}}},
		{[]string{"+e:7", "+a:8", "+c:9"}, []impl.Entry{{Name: "a", Id: 8}, {Name: "b", Id: 2}, {Name: "c", Id: 9}, {Name: "d", Id: 4}, {Name: "e", Id: 7}}},
		{[]string{"+b:7"}, []impl.Entry{{Name: "b", Id: 7}, {Name: "d", Id: 4}}},
		{[]string{"+b:7", "+b:8"}, []impl.Entry{{Name: "b", Id: 8}, {Name: "d", Id: 4}}},
		{[]string{"+b:4"}, []impl.Entry{{Name: "b", Id: 4}, {Name: "d", Id: 4}}},
		{[]string{"+a:0"}, []impl.Entry{{Name: "a", Id: 0}, {Name: "b", Id: 2}, {Name: "d", Id: 4}}},
		{[]string{"+a:1000000000"}, []impl.Entry{{Name: "a", Id: 1000000000}, {Name: "b", Id: 2}, {Name: "d", Id: 4}}},
		{[]string{"-b"}, []impl.Entry{{Name: "d", Id: 4}}},
		{[]string{"-d"}, []impl.Entry{{Name: "b", Id: 2}}},
		{[]string{"-d", "-b"}, nil},
		{[]string{"-b", "+b:9"}, []impl.Entry{{Name: "b", Id: 9}, {Name: "d", Id: 4}}},
		{[]string{"+a:0", "-a"}, old},
		{[]string{"+a:0", ">a:e"}, []impl.Entry{{Name: "b", Id: 2}, {Name: "d", Id: 4}, {Name: "e", Id: 0}}},
		{[]string{">b:e"}, []impl.Entry{{Name: "d", Id: 4}, {Name: "e", Id: 2}}},
		{[]string{">d:a"}, []impl.Entry{{Name: "a", Id: 4}, {Name: "b", Id: 2}}},
		{[]string{">b:d"}, []impl.Entry{{Name: "d", Id: 2}}},
		{[]string{">d:b"}, []impl.Entry{{Name: "b", Id: 4}}},
		{[]string{">b:x", ">d:b", ">x:d"}, []impl.Entry{{Name: "b", Id: 4}, {Name: "d", Id: 2}}},
		{[]string{">b:e", "+b:5", ">b:d"}, []impl.Entry{{Name: "d", Id: 5}, {Name: "e", Id: 2}}},
		{[]string{"+-:1", "+.:2", "+0:3", "+" + longName + ":4"}, []impl.Entry{{Name: "-", Id: 1}, {Name: ".", Id: 2}, {Name: "0", Id: 3}, {Name: "b", Id: 2}, {Name: "d", Id: 4}, {Name: longName, Id: 4}}},
	} {
		checkSteps(t, old, c.steps, len(c.steps), c.want, true)
	}
	checkSteps(t, nil, nil, 0, nil, true)
	checkSteps(t, nil, []string{"+a:1", ">a:b"}, 2, []impl.Entry{{Name: "b", Id: 1}}, true)
	checkSteps(t, nil, []string{"-a"}, 1, nil, false)
}

func TestStepsDoneOfSoManySteps(t *testing.T) {
	steps := []string{"+a:1", "+b:2", ">a:c", "-b"}
	rows := [][]impl.Entry{
		nil,
		{{Name: "a", Id: 1}},
		{{Name: "a", Id: 1}, {Name: "b", Id: 2}},
		{{Name: "b", Id: 2}, {Name: "c", Id: 1}},
		{{Name: "c", Id: 1}},
	}
	for n, want := range map[int]int{math.MinInt: 0, -1000: 0, -4: 0, -1: 0, 0: 0, 1: 1, 2: 2, 3: 3, 4: 4, 5: 4, 8: 4, math.MaxInt: 4} {
		checkSteps(t, nil, steps, n, rows[want], true)
		checkSteps(t, rows[1], nil, n, rows[1], true)
		// A step that says nothing counts from the number on that takes it in.
		bad := append(slices.Clone(steps[:2]), "say nothing", "+d:4")
		if n <= 2 {
			checkSteps(t, nil, bad, n, rows[want], true)
		} else {
			checkSteps(t, nil, bad, n, nil, false)
		}
	}
}

func TestStepsDoneOfStepsThatSayNothing(t *testing.T) {
	old := []impl.Entry{{Name: "a", Id: 1}, {Name: "b", Id: 2}}
	bad := []string{
		"", "+", "-", ">", ":", "+:", "-:", ">:", "a", "a:1", "=a:1", " +a:1", "+ a:1", "+a: 1", "+a:1 ", "++a:1", "--a", ">>a:c",
		"+a", "+:1", "+a:", "+a:x", "+a:-1", "+a:+1", "+a:01", "+a:00", "+a:1.", "+a:0x1", "+a:1:", "+a:1:1", "+a::1", "+a:1\n", "+a1", "+A:1", "+c d:1", "+\xff:1",
		"+a:1000000001", "+a:9999999999999999999", "+a:18446744073709551617", "+" + longName + "n:1",
		"-c", "-A", "-a:", "-a:1", "-a ", "- a", "-aa",
		">a", ">a:", ">:a", ">a:a", ">b:b", ">c:a", ">c:d", ">c:c", ">a:C", ">A:a", ">a:c:", ">a::c", ">a:b:c", ">a:c d", "> a:c", ">a:c\n", ">a:" + longName + "n",
	}
	for _, step := range bad {
		checkSteps(t, old, []string{step}, 1, nil, false)
		checkSteps(t, old, []string{"+x:3", step, "+z:4"}, 2, nil, false)
		checkSteps(t, old, []string{"+x:3", step, "+z:4"}, 3, nil, false)
		checkSteps(t, old, []string{step, "+x:3"}, 0, old, true)
	}
}

// A name that is there, but not right, is none that a step can tell of.
func TestStepsDoneOfOldNamesThatAreNotRight(t *testing.T) {
	for _, name := range wrongNames {
		old := []impl.Entry{{Name: name, Id: 3}}
		checkSteps(t, old, []string{"-" + name}, 1, nil, false)
		checkSteps(t, old, []string{">" + name + ":a"}, 1, nil, false)
		checkSteps(t, old, []string{"+" + name + ":1"}, 1, nil, false)
		checkSteps(t, old, []string{"+c:1", ">c:" + name}, 2, nil, false)
		checkSteps(t, old, []string{"+c:1", "-c"}, 2, old, true)
	}
}

func TestStepsDoneOfUpToThreeSteps(t *testing.T) {
	steps := []string{"+a:1", "+a:2", "+b:2", "+b:0", "+c:10", "-a", "-b", "-c", ">a:b", ">b:a", ">b:c", ">c:c", ">c:a", "", "+a:01", "-A", "+0:5"}
	for _, old := range [][]impl.Entry{nil, {{Name: "b", Id: 1}}, {{Name: "a", Id: 1}, {Name: "b", Id: 1}}} {
		for _, first := range steps {
			for _, second := range steps {
				for _, third := range steps {
					all := []string{first, second, third}
					for n := range 4 {
						want, ok := slowSteps(old, all[:n])
						checkSteps(t, old, all, n, want, ok)
					}
				}
			}
		}
	}
}

func TestStepsDoneKeepsOldOnesThatAreNotByName(t *testing.T) {
	old := []impl.Entry{{Name: "d", Id: 4}, {Name: "a", Id: 1}, {Name: "c", Id: 3}}
	for _, c := range []struct {
		steps []string
		want  []impl.Entry
	}{
		{nil, old},
		{[]string{"-a"}, []impl.Entry{{Name: "d", Id: 4}, {Name: "c", Id: 3}}},
		{[]string{"-d"}, []impl.Entry{{Name: "a", Id: 1}, {Name: "c", Id: 3}}},
		{[]string{"+a:7"}, []impl.Entry{{Name: "d", Id: 4}, {Name: "a", Id: 7}, {Name: "c", Id: 3}}},
		{[]string{"+e:5", "-e"}, old},
		{[]string{"+e:5"}, []impl.Entry{{Name: "d", Id: 4}, {Name: "a", Id: 1}, {Name: "c", Id: 3}, {Name: "e", Id: 5}}},
		{[]string{">a:c"}, []impl.Entry{{Name: "d", Id: 4}, {Name: "c", Id: 1}}},
		{[]string{">c:d"}, []impl.Entry{{Name: "d", Id: 3}, {Name: "a", Id: 1}}},
	} {
		checkSteps(t, old, c.steps, len(c.steps), c.want, true)
	}
	for _, name := range []string{"0", "b", "cc", "e", "z"} {
		list, ok := impl.StepsDone(old, []string{"+" + name + ":9"}, 1)
		if !ok || len(list) != 4 || !hasName(list, name) || !slices.Equal(without(list, name), old) {
			t.Errorf("%q behind %v comes to %v, %v", name, old, list, ok)
		}
	}
	twins := []impl.Entry{{Name: "a", Id: 1}, {Name: "a", Id: 2}, {Name: "b", Id: 3}}
	checkSteps(t, twins, nil, 0, twins, true)
	checkSteps(t, twins, []string{"-b"}, 1, twins[:2], true)
	if list, ok := impl.StepsDone(twins, []string{">a:c"}, 1); !ok || hasName(list, "a") || impl.EntryAt(list, "c") != 1 {
		t.Errorf("a name that stood twice, and became another one, comes to %v, %v", list, ok)
	}
}

func TestStepsDoneOfManySteps(t *testing.T) {
	var steps []string
	var want []impl.Entry
	for i := range 10000 {
		name := fmt.Sprintf("n%05d", i)
		steps = append(steps, "+x:7", ">x:"+name)
		want = append(want, impl.Entry{Name: name, Id: 7})
	}
	checkSteps(t, nil, steps, len(steps), want, true)
	checkSteps(t, want[5000:], steps, 10000, want, true)
}

func TestCreateFile(t *testing.T) {
	d := impl.DiskNew(10)
	one := impl.Disk{Nodes: []impl.Node{{Id: 1}}, Entries: []impl.Entry{{Name: "b", Id: 1}}, Steps: []string{"+b:1"}, Room: 10, Next: 2}
	checkDo(t, d, deed{toCreate, "b", ""}, one, 0)
	two := impl.Disk{Nodes: []impl.Node{{Id: 1}, {Id: 2}}, Entries: []impl.Entry{{Name: "a", Id: 2}, {Name: "b", Id: 1}}, Steps: []string{"+b:1", "+a:2"}, Room: 10, Next: 3}
	checkDo(t, one, deed{toCreate, "a", ""}, two, 0)
	checkRefused(t, two, deed{toCreate, "a", ""}, impl.DkThere)
	checkRefused(t, two, deed{toCreate, "b", ""}, impl.DkThere)
	for _, name := range wrongNames {
		checkRefused(t, two, deed{toCreate, name, ""}, impl.DkName)
	}
	for _, name := range []string{"-", ".", "0", "z", longName} {
		d := mustDo(t, two, deed{toCreate, name, ""})
		checkText(t, d, name, "")
		if node, ok := impl.NodeAt(d, name); !ok || node != (impl.Node{Id: 3}) || d.Next != 4 {
			t.Errorf("a new file %q has the node %v, %v, and Next is %d", name, node, ok, d.Next)
		}
	}
	none := impl.DiskNew(0)
	checkText(t, mustDo(t, none, deed{toCreate, "a", ""}), "a", "")
}

func TestCreateFileOfMaxFilesEntries(t *testing.T) {
	d := impl.DiskNew(10)
	for i := range 16 {
		d = mustDo(t, d, deed{toCreate, fmt.Sprintf("n%02d", 15-i), ""})
	}
	for _, full := range []impl.Disk{d, mustDo(t, d, deed{toSyncNames, "", ""}), diskOfMany(16, 16), diskOfMany(64, 16)} {
		checkRefused(t, full, deed{toCreate, "x", ""}, impl.DkMany)
		checkRefused(t, full, deed{toCreate, full.Entries[3].Name, ""}, impl.DkThere)
		checkRefused(t, full, deed{toCreate, "X", ""}, impl.DkName)
	}
	moved := mustDo(t, d, deed{toRename, "n03", "x"}, deed{toRename, "x", "n03"})
	checkRefused(t, moved, deed{toCreate, "x", ""}, impl.DkMany)
	for _, x := range []deed{{toRemove, "n07", ""}, {toRename, "n03", "n07"}} {
		mustDo(t, d, x, deed{toCreate, "x", ""})
	}
	mustDo(t, diskOfMany(63, 15), deed{toCreate, "x", ""})
}

func TestCreateFileOf64Nodes(t *testing.T) {
	d := impl.DiskNew(10)
	for range 64 {
		d = mustDo(t, d, deed{toCreate, "a", ""}, deed{toRemove, "a", ""})
	}
	if len(d.Nodes) != 64 || len(d.Entries) != 0 || len(d.Steps) != 128 || d.Next != 65 {
		t.Errorf("64 files that are gone again leave %v", d)
	}
	checkRefused(t, d, deed{toCreate, "a", ""}, impl.DkMany)
	checkRefused(t, d, deed{toCreate, "A", ""}, impl.DkName)
	d = mustDo(t, d, deed{toSyncNames, "", ""}, deed{toCreate, "a", ""})
	checkIds(t, "64 nodes gone, one new", d, 65)
	// Of these, nothing stands for the most, and they count all the same.
	checkRefused(t, diskOfMany(64, 0), deed{toCreate, "a", ""}, impl.DkMany)
	checkRefused(t, diskOfMany(64, 3), deed{toCreate, "a", ""}, impl.DkMany)
	checkRefused(t, diskOfMany(64, 3), deed{toCreate, "n001", ""}, impl.DkThere)
	checkIds(t, "63 nodes, 62 of them lost, and one new", mustDo(t, diskOfMany(63, 1), deed{toCreate, "a", ""}), 1, 64)
}

func TestCreateFileOfNextAtMaxNumber(t *testing.T) {
	d := impl.DiskNew(10)
	d.Next = impl.MaxNumber - 1
	d = mustDo(t, d, deed{toCreate, "a", ""})
	if d.Next != impl.MaxNumber || impl.EntryAt(d.Entries, "a") != impl.MaxNumber-1 || !slices.Equal(d.Steps, []string{"+a:999999999"}) {
		t.Errorf("the last node there can be leaves %v", d)
	}
	checkRefused(t, d, deed{toCreate, "b", ""}, impl.DkMany)
	checkRefused(t, d, deed{toCreate, "a", ""}, impl.DkThere)
	checkRefused(t, d, deed{toCreate, "B", ""}, impl.DkName)
	mustDo(t, d, deed{toAppend, "a", "more"}, deed{toSync, "a", ""}, deed{toRename, "a", "b"}, deed{toRemove, "b", ""}, deed{toSyncNames, "", ""})
	empty := impl.DiskNew(10)
	empty.Next = impl.MaxNumber
	checkRefused(t, empty, deed{toCreate, "a", ""}, impl.DkMany)
}

func TestAppendFile(t *testing.T) {
	d := mustDo(t, impl.DiskNew(20), deed{toCreate, "a", ""}, deed{toCreate, "b", ""})
	for _, part := range []string{"he", "", "l", "lo\x00\xff"} {
		d = mustDo(t, d, deed{toAppend, "a", part}, deed{toAppend, "b", part + "-"})
	}
	checkText(t, d, "a", "hello\x00\xff")
	checkText(t, d, "b", "he--l-lo\x00\xff-")
	if node, _ := impl.NodeAt(d, "a"); node.Sure != 0 {
		t.Errorf("of bytes that were not made sure %d are", node.Sure)
	}
	sure := mustDo(t, d, deed{toSync, "a", ""}, deed{toAppend, "a", "!"})
	if node, _ := impl.NodeAt(sure, "a"); node != (impl.Node{Id: 1, Text: "hello\x00\xff!", Sure: 7}) {
		t.Errorf("a byte behind seven that are sure: %v", node)
	}
	for _, name := range append([]string{"c", "aa", longName}, wrongNames...) {
		checkRefused(t, d, deed{toAppend, name, "more"}, impl.DkNone)
		checkRefused(t, d, deed{toAppend, name, ""}, impl.DkNone)
		checkRefused(t, d, deed{toAppend, name, strings.Repeat("x", 40)}, impl.DkNone)
	}
}

func TestAppendFileTakesWhatThereIsRoomFor(t *testing.T) {
	text := "0123456789"
	for room := range 16 {
		d := mustDo(t, impl.DiskNew(room), deed{toCreate, "a", ""}, deed{toCreate, "b", ""})
		used := min(room, 3)
		d = mustDo(t, d, deed{toAppend, "a", "xyz"[:used]}, deed{toSync, "a", ""})
		for size := range 11 {
			taken, code := size, 0
			if size > room-used {
				taken, code = room-used, impl.DkFull
			}
			want := copyOfDisk(d)
			want.Nodes[0].Text += text[:taken]
			checkDo(t, d, deed{toAppend, "a", text[:size]}, want, code)
			want = copyOfDisk(d)
			want.Nodes[1].Text = text[:taken]
			checkDo(t, d, deed{toAppend, "b", text[:size]}, want, code)
			checkDiskOk(t, "a disk that is full, or nearly so", want, true)
		}
	}
}

func TestAppendFileOfAFullDisk(t *testing.T) {
	d := mustDo(t, impl.DiskNew(4), deed{toCreate, "a", ""}, deed{toCreate, "b", ""}, deed{toAppend, "a", "full"})
	checkRefused(t, d, deed{toAppend, "a", "x"}, impl.DkFull)
	checkRefused(t, d, deed{toAppend, "b", "x"}, impl.DkFull)
	checkRefused(t, d, deed{toAppend, "a", ""}, 0)
	checkRefused(t, d, deed{toAppend, "c", "x"}, impl.DkNone)
	// What a file that is gone had is there as long as its name may come back.
	d = mustDo(t, d, deed{toRemove, "a", ""})
	checkRefused(t, d, deed{toAppend, "b", "x"}, impl.DkFull)
	checkText(t, mustDo(t, d, deed{toSyncNames, "", ""}, deed{toAppend, "b", "room"}), "b", "room")
	// Nothing stands for the most of these, and they have their bytes all the same.
	checkRefused(t, diskOfMany(20, 1), deed{toAppend, "n000", "x"}, impl.DkFull)
	wide := mustDo(t, impl.DiskNew(impl.MaxNumber), deed{toCreate, "a", ""}, deed{toAppend, "a", strings.Repeat("wide", 50000)})
	checkText(t, wide, "a", strings.Repeat("wide", 50000))
}

func TestTwoNamesOfOneFile(t *testing.T) {
	d := twoNamesDisk()
	d.Room = 20
	d = mustDo(t, d, deed{toAppend, "c", " you"})
	checkText(t, d, "a", "hello you")
	d = mustDo(t, d, deed{toSync, "a", ""})
	if node, _ := impl.NodeAt(d, "c"); node.Sure != 9 {
		t.Errorf("of a node that was made sure by its other name %d bytes are", node.Sure)
	}
	removed := mustDo(t, d, deed{toRemove, "a", ""}, deed{toSyncNames, "", ""})
	checkText(t, removed, "c", "hello you")
	checkGone(t, removed, "a")
	for _, x := range []deed{{toRename, "a", "c"}, {toRename, "c", "a"}} {
		one := mustDo(t, d, x, deed{toSyncNames, "", ""})
		checkText(t, one, x.more, "hello you")
		checkGone(t, one, x.name)
		checkIds(t, "one node, of one name", one, 2)
	}
}

func TestSyncFile(t *testing.T) {
	d := mustDo(t, impl.DiskNew(20), deed{toCreate, "a", ""}, deed{toCreate, "b", ""}, deed{toAppend, "a", "hello"}, deed{toAppend, "b", "you"})
	want := copyOfDisk(d)
	want.Nodes[0].Sure = 5
	checkDo(t, d, deed{toSync, "a", ""}, want, 0)
	checkRefused(t, want, deed{toSync, "a", ""}, 0)
	want.Nodes[1].Sure = 3
	checkDo(t, mustDo(t, d, deed{toSync, "b", ""}), deed{toSync, "a", ""}, want, 0)
	empty := mustDo(t, impl.DiskNew(0), deed{toCreate, "e", ""})
	checkRefused(t, empty, deed{toSync, "e", ""}, 0)
	for _, name := range append([]string{"c", "aa"}, wrongNames...) {
		checkRefused(t, d, deed{toSync, name, ""}, impl.DkNone)
	}
	checkRefused(t, mustDo(t, d, deed{toRemove, "a", ""}), deed{toSync, "a", ""}, impl.DkNone)
}

func TestRenameFileKeepsTheBytes(t *testing.T) {
	d := mustDo(t, impl.DiskNew(20), deed{toCreate, "a", ""}, deed{toAppend, "a", "hello"}, deed{toSync, "a", ""}, deed{toAppend, "a", "!"})
	for _, to := range []string{"b", "0", "-", ".", "aa", longName} {
		want := impl.Disk{Nodes: []impl.Node{{Id: 1, Text: "hello!", Sure: 5}}, Entries: []impl.Entry{{Name: to, Id: 1}}, Steps: []string{"+a:1", ">a:" + to}, Room: 20, Next: 2}
		checkDo(t, d, deed{toRename, "a", to}, want, 0)
		checkDiskOk(t, "a file that got another name", want, true)
		back := mustDo(t, want, deed{toRename, to, "a"})
		checkText(t, back, "a", "hello!")
		checkGone(t, back, to)
		checkText(t, mustDo(t, want, deed{toAppend, to, "?"}), to, "hello!?")
	}
	for _, to := range append([]string{"a"}, wrongNames...) {
		checkRefused(t, d, deed{toRename, "a", to}, impl.DkName)
	}
	for _, from := range append([]string{"b", "aa"}, wrongNames...) {
		for _, to := range []string{"a", "c", "C", "", from} {
			checkRefused(t, d, deed{toRename, from, to}, impl.DkNone)
		}
	}
}

func TestRenameFileToANameThatWasThere(t *testing.T) {
	d := mustDo(t, impl.DiskNew(20), deed{toCreate, "a", ""}, deed{toAppend, "a", "first"}, deed{toCreate, "b", ""}, deed{toAppend, "b", "second"})
	both := d
	d = mustDo(t, d, deed{toRename, "a", "b"})
	checkText(t, d, "b", "first")
	checkGone(t, d, "a")
	checkIds(t, "before the names are sure", d, 1, 2)
	d = mustDo(t, d, deed{toSyncNames, "", ""})
	checkText(t, d, "b", "first")
	checkIds(t, "when the names are sure", d, 1)
	sure := mustDo(t, both, deed{toSyncNames, "", ""}, deed{toRename, "b", "a"})
	checkText(t, sure, "a", "second")
	checkIds(t, "of names that were sure", sure, 1, 2)
	if !slices.Equal(sure.Old, both.Entries) || !slices.Equal(sure.Steps, []string{">b:a"}) {
		t.Errorf("a sure name that another one became leaves %v", sure)
	}
	checkIds(t, "of names that were sure, and are again", mustDo(t, sure, deed{toSyncNames, "", ""}), 2)
}

func TestRemoveFile(t *testing.T) {
	d := mustDo(t, impl.DiskNew(20), deed{toCreate, "a", ""}, deed{toAppend, "a", "hello"}, deed{toCreate, "b", ""})
	want := impl.Disk{Nodes: []impl.Node{{Id: 1, Text: "hello"}, {Id: 2}}, Entries: []impl.Entry{{Name: "b", Id: 2}}, Steps: []string{"+a:1", "+b:2", "-a"}, Room: 20, Next: 3}
	checkDo(t, d, deed{toRemove, "a", ""}, want, 0)
	checkRefused(t, want, deed{toRemove, "a", ""}, impl.DkNone)
	for _, name := range append([]string{"c", "aa"}, wrongNames...) {
		checkRefused(t, d, deed{toRemove, name, ""}, impl.DkNone)
	}
	sure := mustDo(t, d, deed{toSyncNames, "", ""}, deed{toRemove, "a", ""})
	checkIds(t, "a sure name that is gone", sure, 1, 2)
	checkIds(t, "a name that is surely gone", mustDo(t, sure, deed{toSyncNames, "", ""}), 2)
}

func TestANameThatWasThere(t *testing.T) {
	first := mustDo(t, impl.DiskNew(20), deed{toCreate, "a", ""}, deed{toAppend, "a", "first"}, deed{toSync, "a", ""})
	for _, old := range []impl.Disk{first, mustDo(t, first, deed{toSyncNames, "", ""})} {
		d := mustDo(t, old, deed{toRemove, "a", ""}, deed{toCreate, "a", ""})
		checkText(t, d, "a", "")
		d = mustDo(t, d, deed{toAppend, "a", "second"})
		checkText(t, d, "a", "second")
		checkIds(t, "a name that was there, and is for a new node", d, 1, 2)
		if node, _ := impl.NodeAt(d, "a"); node.Id != 2 || node.Sure != 0 || d.Nodes[0] != (impl.Node{Id: 1, Text: "first", Sure: 5}) {
			t.Errorf("a name that was there leaves %v", d)
		}
		d = mustDo(t, d, deed{toSyncNames, "", ""})
		checkText(t, d, "a", "second")
		checkIds(t, "a name that surely is for a new node", d, 2)
		moved := mustDo(t, old, deed{toRename, "a", "b"}, deed{toCreate, "a", ""}, deed{toRename, "b", "a"})
		checkText(t, moved, "a", "first")
		checkIds(t, "a name that came back to its node", moved, 1, 2)
		checkIds(t, "a name that surely came back to its node", mustDo(t, moved, deed{toSyncNames, "", ""}), 1)
	}
}

func TestSyncNames(t *testing.T) {
	want := impl.Disk{
		Nodes:   []impl.Node{{Id: 2, Text: "hello", Sure: 3}},
		Entries: []impl.Entry{{Name: "a", Id: 2}, {Name: "c", Id: 2}},
		Old:     []impl.Entry{{Name: "a", Id: 2}, {Name: "c", Id: 2}},
		Room:    7,
		Next:    8,
	}
	checkDo(t, twoNamesDisk(), deed{toSyncNames, "", ""}, want, 0)
	checkRefused(t, want, deed{toSyncNames, "", ""}, 0)
	checkRefused(t, impl.DiskNew(7), deed{toSyncNames, "", ""}, 0)
	checkIds(t, "without any name", mustDo(t, diskOfMany(64, 0), deed{toSyncNames, "", ""}))
	checkIds(t, "without names for the most nodes", mustDo(t, diskOfMany(64, 2), deed{toSyncNames, "", ""}), 1, 2)
}

func TestNodesThatNothingStandsFor(t *testing.T) {
	d := twoNamesDisk()
	d.Room = 20
	// Node 7 has no name at all, and node 5 one that was sure.
	for _, x := range []deed{{toCreate, "a", ""}, {toCreate, "A", ""}, {toRename, "g", "x"}, {toRename, "a", "a"}, {toRename, "a", "A"}, {toRemove, "b", ""}, {toAppend, "b", "x"}, {toSync, "b", ""}} {
		got, code := do(d, x)
		if code == 0 || !sameDisks(got, d) {
			t.Errorf("%q leaves %v, and the code %d", x, got, code)
		}
	}
	checkIds(t, "behind bytes", mustDo(t, d, deed{toAppend, "a", "x"}), 2, 5, 7)
	checkIds(t, "behind bytes that are sure", mustDo(t, d, deed{toSync, "a", ""}), 2, 5, 7)
	checkIds(t, "behind a new file", mustDo(t, d, deed{toCreate, "x", ""}), 2, 5, 8)
	checkIds(t, "behind another name", mustDo(t, d, deed{toRename, "a", "x"}), 2, 5)
	checkIds(t, "behind a name that is gone", mustDo(t, d, deed{toRemove, "a", ""}), 2, 5)
	checkIds(t, "behind sure names", mustDo(t, d, deed{toSyncNames, "", ""}), 2)
	d.Next = impl.MaxNumber
	checkRefused(t, d, deed{toCreate, "x", ""}, impl.DkMany)
	// Node 1 had its name between two steps alone.
	between := diskOfSteps([]impl.Entry{{Name: "a", Id: 2}}, "+b:1", "-b")
	checkIds(t, "a name between two steps", mustDo(t, between, deed{toRename, "a", "c"}), 1, 2)
	moved := diskOfSteps([]impl.Entry{{Name: "a", Id: 2}}, "+a:1", "+a:10")
	checkIds(t, "a name of three nodes, one behind the other", mustDo(t, moved, deed{toRemove, "a", ""}), 1, 2, 10)
	checkIds(t, "a name that is surely gone", mustDo(t, moved, deed{toRemove, "a", ""}, deed{toSyncNames, "", ""}))
}

func TestDeedsOnDisksThatAreNotRight(t *testing.T) {
	wrong := append(wrongDisks(), impl.Disk{}, diskOfMany(65, 3), diskOfMany(64, 17), impl.DiskNew(impl.MaxNumber+1))
	late := impl.DiskNew(5)
	late.Next = impl.MaxNumber + 1
	for _, d := range append(wrong, late) {
		checkDiskOk(t, "a wrong disk", d, false)
		for _, x := range allDeeds() {
			code := impl.DkNone
			if x.kind == toSyncNames {
				code = 0
			}
			checkRefused(t, d, x, code)
		}
	}
}

// The first node would have room of its own, but another one is said to have more bytes than there is room for.
func TestDeedsOnADiskWithMoreThanItHasRoomFor(t *testing.T) {
	d := diskOfSteps([]impl.Entry{{Name: "a", Id: 1}, {Name: "b", Id: 2}})
	d.Room = 8
	for _, x := range []deed{{toAppend, "a", ""}, {toAppend, "a", "x"}, {toSync, "b", ""}, {toRemove, "a", ""}, {toRename, "a", "c"}, {toCreate, "c", ""}} {
		checkRefused(t, d, x, impl.DkNone)
	}
}

func TestEachDeedAgainstASlowWay(t *testing.T) {
	disks := []impl.Disk{
		twoNamesDisk(), impl.DiskNew(0), impl.DiskNew(9), diskOfMany(64, 16), diskOfMany(63, 15), diskOfMany(3, 2),
		diskOfSteps(nil, "+a:1", "+b:2", ">a:c"), diskOfSteps([]impl.Entry{{Name: "a", Id: 1}, {Name: "b", Id: 1}}, "+c:10", "-a", ">c:a", "+c:2"),
	}
	for _, d := range disks {
		checkDiskOk(t, "a right disk", d, true)
		for _, room := range []int{d.Room, d.Room + 3, d.Room + 100} {
			d.Room = room
			for _, x := range allDeeds() {
				want, code := slowDo(d, x)
				checkDo(t, d, x, want, code)
				checkDiskOk(t, "behind a deed", want, true)
			}
		}
	}
}

// Rows of deeds that a short rule picks: the same ones each time.
func TestRowsOfDeedsAgainstASlowWay(t *testing.T) {
	kinds := []string{toCreate, toCreate, toCreate, toAppend, toAppend, toSync, toRename, toRename, toRemove, toSyncNames}
	for seed := range 60 {
		pick := picks(seed)
		d := impl.DiskNew(5 * seed)
		d.Next = []int{1, 1, impl.MaxNumber - 9}[seed%3]
		for range 120 {
			x := deed{kinds[pick(len(kinds))], fmt.Sprintf("n%d", pick(2+seed/2)), ""}
			switch x.kind {
			case toAppend:
				x.more = strings.Repeat(x.name, pick(8))
			case toRename:
				x.more = fmt.Sprintf("n%d", pick(2+seed/2))
			case toSyncNames:
				// Seldom, so that there are many steps, and nodes without names.
				if pick(1+seed/10) > 0 {
					continue
				}
			}
			want, code := slowDo(d, x)
			checkDo(t, d, x, want, code)
			d, _ = do(d, x)
			checkDiskOk(t, "behind a row of deeds", d, true)
			if t.Failed() {
				return
			}
		}
	}
}

func picks(seed int) func(int) int {
	state := uint64(seed)*2654435761 + 12345
	return func(n int) int {
		state = state*6364136223846793005 + 1442695040888963407
		return int(state >> 33 % uint64(n))
	}
}

func TestDeedsLeaveTheirDiskAsItIs(t *testing.T) {
	for _, given := range append(wrongDisks(), twoNamesDisk(), diskOfMany(64, 16), diskOfMany(5, 3)) {
		whole, d := withRoomBehind(given)
		before := copyOfDisk(whole)
		for _, x := range allDeeds() {
			got, _ := do(d, x)
			spoil(&got)
			if !sameDisks(whole, before) {
				t.Fatalf("%q, and what was written into its answer, leaves %v; it was %v", x, whole, before)
			}
		}
	}
}

func TestListsOfADiskAreApart(t *testing.T) {
	shared := diskOfMany(5, 3)
	shared.Old = shared.Entries
	for _, d := range []impl.Disk{shared, twoNamesDisk()} {
		for _, x := range allDeeds() {
			got, _ := do(d, x)
			want := slices.Clone(got.Entries)
			for i := range got.Old {
				got.Old[i] = impl.Entry{Name: "other", Id: 99}
			}
			_ = append(got.Old, impl.Entry{Name: "more"})
			if !slices.Equal(got.Entries, want) {
				t.Fatalf("%q: what was written into Old stands in Entries, too", x)
			}
		}
	}
}

func spoil(d *impl.Disk) {
	for i := range d.Nodes {
		d.Nodes[i] = impl.Node{Id: -1, Text: "other"}
	}
	for i := range d.Entries {
		d.Entries[i] = impl.Entry{Name: "other", Id: -2}
	}
	for i := range d.Old {
		d.Old[i] = impl.Entry{Name: "other", Id: -3}
	}
	for i := range d.Steps {
		d.Steps[i] = "other"
	}
	d.Nodes, d.Entries = append(d.Nodes, impl.Node{}), append(d.Entries, impl.Entry{})
	d.Old, d.Steps = append(d.Old, impl.Entry{}), append(d.Steps, "")
}

func TestStepsDoneLeavesItsListsAsTheyAre(t *testing.T) {
	whole := []impl.Entry{{Name: "b", Id: 2}, {Name: "d", Id: 4}, {Name: "behind", Id: 9}}
	before := slices.Clone(whole)
	steps := []string{"+a:1", "-b", ">d:c", "+b:3", "+d:5"}
	for n := range len(steps) + 1 {
		list, _ := impl.StepsDone(whole[:2], steps, n)
		for i := range list {
			list[i] = impl.Entry{Name: "other", Id: 99}
		}
		_ = append(list, impl.Entry{Name: "more"})
		if !slices.Equal(whole, before) || strings.Join(steps, " ") != "+a:1 -b >d:c +b:3 +d:5" {
			t.Errorf("StepsDone leaves %v and %q", whole, steps)
		}
	}
}
