package disk

import (
	"math"
	"slices"
	"strings"
	"testing"

	"moult/api"
)

func create(name string) api.Op { return api.Op{Kind: api.OpCreate, Name: name} }
func remove(name string) api.Op { return api.Op{Kind: api.OpRemove, Name: name} }
func rename(name, to string) api.Op {
	return api.Op{Kind: api.OpRename, Name: name, To: to}
}
func add(name, b string) api.Op {
	return api.Op{Kind: api.OpAppend, Name: name, Bytes: []byte(b)}
}

// filesOf makes files of names and bytes by turns.
func filesOf(l ...string) []api.File {
	var files []api.File
	for i := 0; i+1 < len(l); i += 2 {
		files = append(files, api.File{Name: l[i], Bytes: []byte(l[i+1])})
	}
	return files
}

// told writes files as text.
func told(l []api.File) string {
	var b strings.Builder
	for _, x := range l {
		b.WriteString(x.Name + "=" + string(x.Bytes) + ";")
	}
	return b.String()
}

// must does operations, all of which are to be done.
func must(t *testing.T, d api.Disk, l ...api.Op) api.Disk {
	t.Helper()
	for i, o := range l {
		next, e := Do(d, o)
		if e != api.OK {
			t.Fatal(i, o, e)
		}
		d = next
	}
	return d
}

// synced makes all safe.
func synced(t *testing.T, d api.Disk) api.Disk {
	t.Helper()
	d, e := Sync(d)
	if e != api.OK {
		t.Fatal(e)
	}
	return d
}

// modelOf works files out in a row, another way than the program.
func modelOf(safe []api.File, queue []api.Op) []api.File {
	var l []api.File
	place := func(name string) int {
		return slices.IndexFunc(l, func(x api.File) bool { return x.Name == name })
	}
	drop := func(name string) {
		l = slices.DeleteFunc(l, func(x api.File) bool { return x.Name == name })
	}
	for _, x := range safe {
		if place(x.Name) < 0 {
			l = append(l, api.File{Name: x.Name, Bytes: slices.Clone(x.Bytes)})
		}
	}
	for _, o := range queue {
		at := place(o.Name)
		switch {
		case o.Kind == api.OpCreate:
			drop(o.Name)
			l = append(l, api.File{Name: o.Name})
		case at < 0:
		case o.Kind == api.OpAppend:
			l[at].Bytes = slices.Concat(l[at].Bytes, o.Bytes)
		case o.Kind == api.OpRename && o.Name != o.To:
			b := l[at].Bytes
			drop(o.Name)
			drop(o.To)
			l = append(l, api.File{Name: o.To, Bytes: b})
		case o.Kind == api.OpRemove:
			drop(o.Name)
		}
	}
	slices.SortFunc(l, func(a, b api.File) int { return strings.Compare(a.Name, b.Name) })
	return l
}

// sample is a disk with something of all kinds.
func sample() api.Disk {
	return api.Disk{
		Files: filesOf("a", "safe", "b", "", "c", "123"),
		Queue: []api.Op{add("a", "ty"), create("d"), add("d", "xyz"), rename("d", "b"), remove("c")},
		Quota: 20,
		Fuse:  9,
	}
}

// wrongs are disks that may not be.
func wrongs() []api.Disk {
	l := make([]api.Disk, 0, 20)
	change := func(f func(d *api.Disk)) {
		d := sample()
		f(&d)
		l = append(l, d)
	}
	change(func(d *api.Disk) { d.Quota = -1 })
	change(func(d *api.Disk) { d.Quota = math.MinInt })
	change(func(d *api.Disk) { d.Quota = 8 })
	change(func(d *api.Disk) { d.Fuse = -1 })
	change(func(d *api.Disk) { d.Fuse = math.MinInt })
	change(func(d *api.Disk) { d.Dead, d.Fuse = true, -1 })
	change(func(d *api.Disk) { d.Files[1].Name = "a" })
	change(func(d *api.Disk) { d.Files[0].Name = "" })
	change(func(d *api.Disk) { d.Files[2].Name = "" })
	change(func(d *api.Disk) { d.Files[0].Name = "bb" })
	change(func(d *api.Disk) { d.Files[2].Name = "B" })
	change(func(d *api.Disk) { d.Files[2].Bytes = nil; d.Files[0].Bytes = make([]byte, 16) })
	change(func(d *api.Disk) { d.Queue[1].Kind = 0 })
	change(func(d *api.Disk) { d.Queue[1].Kind = 5 })
	change(func(d *api.Disk) { d.Queue[4].Kind = 255 })
	for at := range sample().Queue {
		change(func(d *api.Disk) { d.Queue[at].Name = "" })
	}
	change(func(d *api.Disk) { d.Queue[3].To = "" })
	change(func(d *api.Disk) { d.Queue = slices.Repeat([]api.Op{remove("z")}, api.MaxQueue+1) })
	return l
}

// P4.1: an empty one; a quota below 0 counts as 0.
func TestNew(t *testing.T) {
	for _, c := range [][2]int{{0, 0}, {-1, 0}, {math.MinInt, 0}, {1, 1}, {500, 500}, {math.MaxInt, math.MaxInt}} {
		d := New(c[0])
		if len(d.Files) != 0 || len(d.Queue) != 0 || d.Quota != c[1] || d.Fuse != 0 || d.Dead {
			t.Error(c, d)
		}
		if !Right(d) || len(Now(d)) != 0 || Used(d) != 0 {
			t.Error(c, d)
		}
	}
}

// P4.1: what may be, and what may not.
func TestRight(t *testing.T) {
	for i, d := range wrongs() {
		if Right(d) {
			t.Error(i, d)
		}
	}
	l := []api.Disk{
		{},
		sample(),
		{Files: filesOf("B", "", "a", "", "aa", "", "ab", "", "b", "", "\xff", "")},
		{Files: filesOf("a", "1234"), Queue: []api.Op{add("a", "5678"), create("a")}}, // only the files now count
		{Files: filesOf("a", "12"), Quota: 2},
		{Queue: slices.Repeat([]api.Op{remove("z")}, api.MaxQueue)},
		{Queue: []api.Op{add("none", "123"), rename("none", "a"), remove("none")}}, // of no file: nothing
		{Dead: true},
		{Fuse: math.MaxInt, Quota: math.MaxInt},
		{Queue: []api.Op{{Kind: api.OpCreate, Name: "a", To: "b", Bytes: []byte("more than there is room")}}},
	}
	for quota := range 3 {
		l = append(l, api.Disk{Quota: 9 + quota, Files: sample().Files, Queue: sample().Queue})
	}
	for i, d := range l {
		if !Right(d) {
			t.Error(i, d)
		}
	}
}

// P4.1: the files now: the safe ones, behind all operations, sorted by name.
func TestNow(t *testing.T) {
	ab := filesOf("a", "12", "b", "3")
	for i, c := range []struct {
		d    api.Disk
		want string
	}{
		{api.Disk{}, ""},
		{sample(), "a=safety;b=xyz;"},
		{api.Disk{Files: ab}, "a=12;b=3;"},
		{api.Disk{Files: ab, Queue: []api.Op{create("a")}}, "a=;b=3;"},
		{api.Disk{Files: ab, Queue: []api.Op{create("0")}}, "0=;a=12;b=3;"},
		{api.Disk{Files: ab, Queue: []api.Op{add("a", "x"), add("a", ""), add("a", "yz")}}, "a=12xyz;b=3;"},
		{api.Disk{Files: ab, Queue: []api.Op{add("c", "x")}}, "a=12;b=3;"},
		{api.Disk{Files: ab, Queue: []api.Op{add("c", "x"), create("c"), add("c", "y")}}, "a=12;b=3;c=y;"},
		{api.Disk{Files: ab, Queue: []api.Op{rename("a", "c")}}, "b=3;c=12;"},
		{api.Disk{Files: ab, Queue: []api.Op{rename("a", "b")}}, "b=12;"},
		{api.Disk{Files: ab, Queue: []api.Op{rename("b", "a"), add("b", "lost"), add("a", "4")}}, "a=34;"},
		{api.Disk{Files: ab, Queue: []api.Op{rename("a", "a"), rename("c", "c")}}, "a=12;b=3;"},
		{api.Disk{Files: ab, Queue: []api.Op{rename("c", "b")}}, "a=12;b=3;"},
		{api.Disk{Files: ab, Queue: []api.Op{remove("a"), remove("c"), remove("a")}}, "b=3;"},
		{api.Disk{Files: ab, Queue: []api.Op{remove("a"), add("a", "x"), rename("a", "d")}}, "b=3;"},
		{api.Disk{Files: ab, Quota: -3, Fuse: -2, Dead: true}, "a=12;b=3;"},
		{api.Disk{Files: filesOf("b", "1", "a", "2", "b", "3", "a", "4")}, "a=2;b=1;"},
		{api.Disk{Files: filesOf("b", "1", "b", "3"), Queue: []api.Op{remove("b")}}, ""},
		{api.Disk{Files: filesOf("", "1"), Queue: []api.Op{add("", "2")}}, "=12;"},
		{api.Disk{Files: ab, Queue: []api.Op{{Kind: 0, Name: "a"}, {Kind: 5, Name: "a"}, {Kind: 255, Name: "b", To: "c"}}}, "a=12;b=3;"},
		{api.Disk{Files: filesOf("a\x00", "1", "a", "2", "\xff", "3", "Z", "4", "é", "5")}, "Z=4;a=2;a\x00=1;é=5;\xff=3;"},
	} {
		if s := told(Now(c.d)); s != c.want {
			t.Errorf("%d: %s, not %s", i, s, c.want)
		}
		if s := told(modelOf(c.d.Files, c.d.Queue)); s != c.want {
			t.Errorf("%d: the test's own: %s, not %s", i, s, c.want)
		}
		used := 0
		for _, x := range Now(c.d) {
			used += len(x.Bytes)
		}
		if n := Used(c.d); n != used {
			t.Errorf("%d: %d bytes, not %d", i, n, used)
		}
	}
}

// P4.1: the bytes of a file now; ErrFile, and nothing, if there is none.
func TestRead(t *testing.T) {
	d := sample()
	for _, c := range []struct {
		name, want string
		e          api.Errno
	}{
		{"a", "safety", api.OK},
		{"b", "xyz", api.OK},
		{"c", "", api.ErrFile},
		{"d", "", api.ErrFile},
		{"", "", api.ErrFile},
		{"aa", "", api.ErrFile},
		{"A", "", api.ErrFile},
	} {
		for _, dead := range []bool{false, true} {
			d.Dead = dead
			if b, e := Read(d, c.name); string(b) != c.want || e != c.e || e != api.OK && b != nil {
				t.Error(c, b, e)
			}
		}
	}
	d = must(t, New(0), create("empty"))
	if b, e := Read(d, "empty"); len(b) != 0 || e != api.OK {
		t.Error(b, e)
	}
	d = api.Disk{Files: filesOf("b", "1", "b", "2", "", "3"), Quota: -1}
	if b, e := Read(d, "b"); string(b) != "1" || e != api.OK {
		t.Error(b, e)
	}
	if b, e := Read(d, ""); string(b) != "3" || e != api.OK {
		t.Error(b, e)
	}
	if b, e := Read(api.Disk{}, "a"); b != nil || e != api.ErrFile {
		t.Error(b, e)
	}
}

// P4.1: the same in all, and what is not.
func TestSame(t *testing.T) {
	for i, d := range append(wrongs(), sample(), New(3), api.Disk{}) {
		if own := Own(d); !Same(d, own) || !Same(own, d) || !Same(d, d) {
			t.Error(i, d, own)
		}
	}
	if !Same(api.Disk{}, api.Disk{Files: []api.File{}, Queue: []api.Op{}}) {
		t.Error("nil is not empty")
	}
	if !Same(api.Disk{Files: []api.File{{Name: "a"}}, Queue: []api.Op{{Kind: 1}}}, api.Disk{Files: []api.File{{Name: "a", Bytes: []byte{}}}, Queue: []api.Op{{Kind: 1, Bytes: []byte{}}}}) {
		t.Error("no bytes are not no bytes")
	}
	for i, change := range []func(d *api.Disk){
		func(d *api.Disk) { d.Files[0].Name = "A" },
		func(d *api.Disk) { d.Files[2].Bytes[1]++ },
		func(d *api.Disk) { d.Files[2].Bytes = d.Files[2].Bytes[:2] },
		func(d *api.Disk) { d.Files[0], d.Files[1] = d.Files[1], d.Files[0] },
		func(d *api.Disk) { d.Files = d.Files[:2] },
		func(d *api.Disk) { d.Files = nil },
		func(d *api.Disk) { d.Queue[0].Kind++ },
		func(d *api.Disk) { d.Queue[1].Name = "e" },
		func(d *api.Disk) { d.Queue[1].To = "e" },
		func(d *api.Disk) { d.Queue[3].To = "e" },
		func(d *api.Disk) { d.Queue[2].Bytes[2]++ },
		func(d *api.Disk) { d.Queue[4].Bytes = []byte{0} },
		func(d *api.Disk) { d.Queue[0], d.Queue[1] = d.Queue[1], d.Queue[0] },
		func(d *api.Disk) { d.Queue = d.Queue[:4] },
		func(d *api.Disk) { d.Queue = append(d.Queue, d.Queue[4]) },
		func(d *api.Disk) { d.Quota++ },
		func(d *api.Disk) { d.Fuse++ },
		func(d *api.Disk) { d.Dead = true },
	} {
		d := sample()
		change(&d)
		if Same(d, sample()) || Same(sample(), d) {
			t.Error(i, d)
		}
	}
	if Same(synced(t, sample()), sample()) {
		t.Error("what is safe is as what is not")
	}
}

// P4.2: an operation is put into the queue, and the files now are those behind it.
func TestDo(t *testing.T) {
	d := New(10)
	for i, c := range []struct {
		o    api.Op
		want string
	}{
		{create("b"), "b=;"},
		{add("b", "123"), "b=123;"},
		{create("a"), "a=;b=123;"},
		{add("a", "4567890"), "a=4567890;b=123;"}, // just the quota
		{add("a", ""), "a=4567890;b=123;"},
		{rename("b", "a"), "a=123;"},
		{rename("a", "a"), "a=123;"},
		{rename("a", "c"), "c=123;"},
		{create("c"), "c=;"},
		{remove("c"), ""},
	} {
		next, e := Do(d, c.o)
		if e != api.OK || told(Now(next)) != c.want || len(next.Files) != 0 || len(next.Queue) != i+1 {
			t.Error(i, next, e)
		}
		want := api.Disk{Queue: append(slices.Clone(d.Queue), c.o), Quota: 10}
		if !Same(next, want) {
			t.Error(i, next, want)
		}
		d = next
	}
}

// refused fails if the operation is done, or tells another error, or another disk.
func refused(t *testing.T, d api.Disk, o api.Op, want api.Errno) {
	t.Helper()
	if next, e := Do(d, o); e != want || !Same(next, d) {
		t.Errorf("%v of %v: %v, %d, not %d", o, d, next, e, want)
	}
}

// wrongOps may be done to no disk.
func wrongOps() []api.Op {
	return []api.Op{
		{}, {Kind: 0, Name: "a"}, {Kind: 5, Name: "a", To: "b"}, {Kind: 255, Name: "a"},
		create(""), add("", "x"), remove(""), rename("", "b"), rename("a", ""), rename("", ""), rename("none", ""),
	}
}

// P4.2: the errors, and which goes ahead; the disk is told as it is.
func TestDoWrong(t *testing.T) {
	d := sample()
	full := api.Disk{Files: filesOf("a", "12"), Queue: slices.Repeat([]api.Op{remove("z")}, api.MaxQueue), Quota: 3, Fuse: 4}
	dead := sample()
	dead.Dead = true
	for _, o := range wrongOps() {
		refused(t, d, o, api.ErrArg)
		refused(t, full, o, api.ErrArg)
		refused(t, dead, o, api.ErrDown)
	}
	none := []api.Op{add("c", "x"), add("c", ""), remove("d"), rename("d", "a"), rename("e", "e"), add("none", strings.Repeat("x", 50))}
	for _, o := range none {
		refused(t, d, o, api.ErrFile)
		refused(t, full, o, api.ErrFile)
		refused(t, dead, o, api.ErrDown)
	}
	refused(t, d, add("a", "123456789012"), api.ErrFull)
	refused(t, dead, add("a", "123456789012"), api.ErrDown)
	must(t, d, add("a", "12345678901"))
	for _, o := range []api.Op{add("a", ""), add("a", "1"), add("a", "12"), create("a"), create("b"), rename("a", "b"), rename("a", "a"), remove("a")} {
		refused(t, full, o, api.ErrFull)
		refused(t, dead, o, api.ErrDown)
	}
	refused(t, New(0), create(""), api.ErrArg)
	refused(t, must(t, New(0), create("a")), add("a", "1"), api.ErrFull)
	for _, wrong := range wrongs() {
		for _, o := range append(append(wrongOps(), none...), create("n"), add("a", "1"), remove("a")) {
			refused(t, wrong, o, api.ErrArg)
			wrong.Dead = true
			refused(t, wrong, o, api.ErrArg)
			wrong.Dead = false
		}
	}
}

// P4.2: the queue has at most MaxQueue operations.
func TestQueueFull(t *testing.T) {
	d := must(t, New(5), create("a"))
	for len(d.Queue) < api.MaxQueue {
		d = must(t, d, rename("a", "a"))
	}
	if !Right(d) {
		t.Error("a full queue may not be")
	}
	refused(t, d, remove("a"), api.ErrFull)
	d = must(t, synced(t, d), remove("a"))
	if len(d.Queue) != 1 || told(d.Files) != "a=;" {
		t.Error(d)
	}
}

// P4.2: behind so many operations the disk dies; what is refused does not count, what makes safe does.
func TestFuse(t *testing.T) {
	d := New(4)
	d.Fuse = 4
	d = must(t, d, create("a"))
	refused(t, d, create(""), api.ErrArg)
	refused(t, d, remove("b"), api.ErrFile)
	refused(t, d, add("a", "12345"), api.ErrFull)
	d = must(t, d, add("a", "12"))
	if d.Fuse != 2 || d.Dead {
		t.Error(d)
	}
	d = synced(t, d)
	if d.Fuse != 1 || d.Dead {
		t.Error(d)
	}
	d = must(t, d, add("a", "34"))
	if d.Fuse != 0 || !d.Dead || told(Now(d)) != "a=1234;" || told(d.Files) != "a=12;" || len(d.Queue) != 1 || !Right(d) {
		t.Error(d)
	}
	refused(t, d, remove("a"), api.ErrDown)
	if next, e := Sync(d); e != api.ErrDown || !Same(next, d) {
		t.Error(next, e)
	}
	d = sample()
	d.Fuse = 1
	d = synced(t, d)
	if d.Fuse != 0 || !d.Dead || told(d.Files) != "a=safety;b=xyz;" || len(d.Queue) != 0 {
		t.Error("it dies, and not all is safe:", d)
	}
	d = synced(t, New(0))
	if d.Fuse != 0 || d.Dead {
		t.Error("it dies without a fuse:", d)
	}
}

// P4.2: the files now are the safe ones, the queue is empty.
func TestSync(t *testing.T) {
	d := synced(t, sample())
	want := api.Disk{Files: filesOf("a", "safety", "b", "xyz"), Quota: 20, Fuse: 8}
	if !Same(d, want) || !Same(synced(t, New(7)), New(7)) {
		t.Error(d)
	}
	again := want
	again.Fuse = 7
	if d = synced(t, d); !Same(d, again) {
		t.Error(d)
	}
	dead := sample()
	dead.Dead = true
	if d, e := Sync(dead); e != api.ErrDown || !Same(d, dead) {
		t.Error(d, e)
	}
	for i, wrong := range wrongs() {
		for _, dead := range []bool{false, true} {
			wrong.Dead = dead
			if d, e := Sync(wrong); e != api.ErrArg || !Same(d, wrong) {
				t.Error(i, d, e)
			}
		}
	}
}

// P4.3: the document's example.
func TestExample(t *testing.T) {
	d := must(t, synced(t, must(t, New(9), create("a"))), add("a", "\x01\x02"))
	if d = Crash(d, 0, 1); told(d.Files) != "a=\x01;" {
		t.Error(d)
	}
}

// P4.3: the first operations are done, of the next one the first bytes, if it is an Append; the rest is lost.
func TestCrash(t *testing.T) {
	for _, c := range []struct {
		keep, torn int
		want       string
	}{
		{0, 0, "a=safe;b=;c=123;"},
		{0, 1, "a=safet;b=;c=123;"},
		{0, 2, "a=safety;b=;c=123;"},
		{0, 3, "a=safety;b=;c=123;"},
		{0, math.MaxInt, "a=safety;b=;c=123;"},
		{0, -1, "a=safe;b=;c=123;"},
		{0, math.MinInt, "a=safe;b=;c=123;"},
		{-1, 0, "a=safe;b=;c=123;"},
		{-1, 1, "a=safet;b=;c=123;"},
		{math.MinInt, 1, "a=safet;b=;c=123;"},
		{1, 0, "a=safety;b=;c=123;"},
		{1, 9, "a=safety;b=;c=123;"}, // the next one is no Append
		{2, 0, "a=safety;b=;c=123;d=;"},
		{2, 2, "a=safety;b=;c=123;d=xy;"},
		{3, 1, "a=safety;b=;c=123;d=xyz;"},
		{4, 1, "a=safety;b=xyz;c=123;"},
		{5, 0, "a=safety;b=xyz;"},
		{5, 5, "a=safety;b=xyz;"},
		{6, 1, "a=safety;b=xyz;"},
		{math.MaxInt, math.MaxInt, "a=safety;b=xyz;"},
	} {
		d := sample()
		for _, dead := range []bool{false, true} {
			d.Dead = dead
			behind := Crash(d, c.keep, c.torn)
			if told(behind.Files) != c.want || len(behind.Queue) != 0 || behind.Quota != 20 || behind.Fuse != 0 || behind.Dead {
				t.Error(c, behind)
			}
			if !Same(d, api.Disk{Files: sample().Files, Queue: sample().Queue, Quota: 20, Fuse: 9, Dead: dead}) {
				t.Error("what was handed in is another:", d)
			}
		}
	}
	if d := Crash(New(6), 3, 3); !Same(d, New(6)) {
		t.Error(d)
	}
	d := api.Disk{Queue: []api.Op{add("none", "12"), {Kind: api.OpCreate, Name: "a", Bytes: []byte("xy")}}, Quota: 4}
	if l := Crash(d, 0, 2).Files; len(l) != 0 {
		t.Error("there is none, and something is appended:", l)
	}
	if l := Crash(d, 1, 2).Files; len(l) != 0 {
		t.Error("what is no Append is torn:", l)
	}
	if l := Crash(d, 2, 2).Files; told(l) != "a=;" {
		t.Error(l)
	}
}

// P4.3: one that may not be is told as it is.
func TestCrashWrong(t *testing.T) {
	for i, wrong := range wrongs() {
		for keep := -1; keep < 7; keep++ {
			if d := Crash(wrong, keep, 1); !Same(d, wrong) {
				t.Error(i, keep, d)
			}
		}
	}
}

// dice tells numbers below n, none of them told by its neighbours.
func dice(seed int) func(n int) int {
	return func(n int) int {
		seed = (seed*1103515245 + 12345) & (1<<31 - 1)
		return (seed >> 12) % n
	}
}

// anyOp is an operation, right or wrong.
func anyOp(roll func(int) int) api.Op {
	names := []string{"a", "b", "c", "M", "M.new", ""}
	name := func() string { return names[roll(50)%(len(names)-roll(2))] }
	return api.Op{Kind: uint8(1 + (roll(41))/10), Name: name(), To: name(), Bytes: []byte("0123456789")[:roll(6)]}
}

// errorOf works an operation's error out by the words.
func errorOf(d api.Disk, o api.Op) api.Errno {
	now := modelOf(d.Files, d.Queue)
	used, there := 0, false
	for _, x := range now {
		used += len(x.Bytes)
		there = there || x.Name == o.Name
	}
	if d.Dead {
		return api.ErrDown
	}
	if o.Kind < 1 || o.Kind > 4 || o.Name == "" || o.Kind == 3 && o.To == "" {
		return api.ErrArg
	}
	if o.Kind != 1 && !there {
		return api.ErrFile
	}
	if o.Kind == 2 && used+len(o.Bytes) > d.Quota || len(d.Queue) >= 400 {
		return api.ErrFull
	}
	return api.OK
}

// crashes fails if a crash leaves other files than those behind some of the operations, the last one's bytes torn: P4.4.
func crashes(t *testing.T, d api.Disk) {
	t.Helper()
	for keep := range len(d.Queue) + 1 {
		torn := 1
		if keep < len(d.Queue) && d.Queue[keep].Kind == api.OpAppend {
			torn += len(d.Queue[keep].Bytes)
		}
		for torn := range torn {
			done := slices.Clone(d.Queue[:keep])
			if torn > 0 {
				done = append(done, add(d.Queue[keep].Name, string(d.Queue[keep].Bytes[:torn])))
			}
			behind := Crash(d, keep, torn)
			if want := modelOf(d.Files, done); !Same(behind, api.Disk{Files: want, Quota: d.Quota}) {
				t.Fatalf("%v, %d, %d: %s, not %s", d, keep, torn, told(behind.Files), told(want))
			}
			if !Right(behind) {
				t.Fatalf("%v, %d, %d: %v may not be", d, keep, torn, behind)
			}
		}
	}
}

// P4.2, P4.4: many operations, right and wrong, held against files in a row; what is safe stays; a crash wherever it strikes.
func TestMany(t *testing.T) {
	for seed := range 60 {
		roll := dice(seed)
		d := New(12 + seed)
		if seed%3 == 0 {
			d.Fuse = 1 + roll(80)
		}
		for range 70 {
			if roll(12) == 0 && !d.Dead {
				now := modelOf(d.Files, d.Queue)
				d = synced(t, d)
				if told(d.Files) != told(now) || len(d.Queue) != 0 {
					t.Fatal(d, now)
				}
				continue
			}
			o := anyOp(roll)
			want := errorOf(d, o)
			next, e := Do(d, o)
			if e != want || e != api.OK && !Same(next, d) {
				t.Fatal(d, o, next, e, want)
			}
			if e == api.OK && (len(next.Queue) != len(d.Queue)+1 || told(next.Files) != told(d.Files)) {
				t.Fatal(d, o, next)
			}
			if d = next; !Right(d) || told(Now(d)) != told(modelOf(d.Files, d.Queue)) {
				t.Fatal(d)
			}
		}
		crashes(t, d)
	}
}

// P4.4: what is safe is there behind a crash, but for what operations did to it that are kept.
func TestSafeStays(t *testing.T) {
	d := synced(t, must(t, New(9), create("a"), add("a", "kept"), create("b")))
	for _, o := range []api.Op{create("a"), add("a", "more"), remove("a"), rename("a", "b"), rename("b", "a")} {
		if behind := Crash(must(t, d, o), 0, 0); told(behind.Files) != "a=kept;b=;" {
			t.Error(o, behind)
		}
	}
	for i, wrong := range wrongOps() {
		next, _ := Do(d, wrong)
		if behind := Crash(next, 5, 5); told(behind.Files) != "a=kept;b=;" {
			t.Error(i, behind)
		}
	}
}

// spoil overwrites all of it, and the room behind.
func spoil(d api.Disk) {
	for i, x := range d.Files {
		spoilBytes(x.Bytes)
		d.Files[i].Name = "spoilt"
	}
	for i, o := range d.Queue {
		spoilBytes(o.Bytes)
		d.Queue[i] = api.Op{Name: "spoilt"}
	}
	_ = append(d.Files, api.File{Name: "spoilt"})
	_ = append(d.Queue, api.Op{Name: "spoilt"})
}

func spoilBytes(b []byte) {
	for i := range b {
		b[i] = 99
	}
	_ = append(b, "spoilt"...)
}

// roomy is the sample, with spare room behind each of its lists, all bytes side by side.
func roomy() (d api.Disk, all []byte) {
	d = sample()
	all = []byte("------------------------------------------------------------")
	at := 0
	lay := func(b []byte) []byte {
		at += copy(all[at:], b) + 3
		return all[at-3-len(b) : at-3]
	}
	for i, x := range d.Files {
		d.Files[i].Bytes = lay(x.Bytes)
	}
	for i, o := range d.Queue {
		d.Queue[i].Bytes = lay(o.Bytes)
	}
	d.Files, d.Queue = slices.Grow(d.Files, 3), slices.Grow(d.Queue, 3)
	return d, all
}

// R4: what is handed in stays as it was, spare room too, and shares no memory with answers.
func TestMemory(t *testing.T) {
	d, all := roomy()
	was, room := string(all), []byte("wxyz and room")
	o := api.Op{Kind: api.OpAppend, Name: "b", Bytes: room[:4]}
	dead, wrong := d, d
	dead.Dead, wrong.Quota = true, 3
	sync := func(d api.Disk) api.Disk { d, _ = Sync(d); return d }
	do := func(d api.Disk, o api.Op) api.Disk { d, _ = Do(d, o); return d }
	for i, call := range []func() api.Disk{
		func() api.Disk { return Own(d) },
		func() api.Disk { return do(d, o) },
		func() api.Disk { return do(d, api.Op{}) },
		func() api.Disk { return do(dead, o) },
		func() api.Disk { return do(wrong, o) },
		func() api.Disk { return sync(d) },
		func() api.Disk { return sync(dead) },
		func() api.Disk { return sync(wrong) },
		func() api.Disk { return Crash(d, 0, 1) },
		func() api.Disk { return Crash(d, 2, 2) },
		func() api.Disk { return Crash(d, 9, 9) },
		func() api.Disk { return Crash(wrong, 2, 2) },
		func() api.Disk { return api.Disk{Files: Now(d)} },
		func() api.Disk { b, _ := Read(d, "a"); return api.Disk{Files: []api.File{{Bytes: b}}} },
		func() api.Disk { b, _ := Read(d, "b"); return api.Disk{Files: []api.File{{Bytes: b}}} },
	} {
		one, two := call(), call()
		kept := Own(two)
		spoil(one)
		if !Same(two, kept) {
			t.Error(i, "an answer changed another:", two)
		}
		if string(all) != was || string(room) != "wxyz and room" || !Same(d, sample()) {
			t.Fatal(i, "what was handed in is another:", d)
		}
		if x := d.Files[:4][3]; x.Name != "" || d.Queue[:6][5].Name != "" {
			t.Fatal(i, "spare room is another")
		}
	}
}

// R4: no two files of one answer share memory.
func TestApart(t *testing.T) {
	b := []byte("1234")
	d := api.Disk{
		Files: []api.File{{Name: "a", Bytes: b}, {Name: "b", Bytes: b[:2]}},
		Queue: []api.Op{{Kind: api.OpAppend, Name: "b", Bytes: b}, rename("a", "c"), create("a"), {Kind: api.OpAppend, Name: "a", Bytes: b}},
		Quota: 40,
	}
	for i, l := range [][]api.File{Now(d), synced(t, d).Files, Crash(d, 4, 0).Files} {
		if told(l) != "a=1234;b=121234;c=1234;" {
			t.Error(i, told(l))
		}
		spoilBytes(l[0].Bytes)
		spoilBytes(l[2].Bytes)
		if string(l[1].Bytes) != "121234" || string(b) != "1234" {
			t.Error(i, l, b)
		}
	}
}

// R1: a nil queue, long lists, great numbers: each call ends.
func TestGreat(t *testing.T) {
	var queue []api.Op
	for i := range 100000 {
		queue = append(queue, add("a", "x"), rename("a", string(rune('b'+i%2))), rename(string(rune('b'+i%2)), "a"))
	}
	d := api.Disk{Files: filesOf("a", ""), Queue: queue, Quota: math.MaxInt, Fuse: math.MaxInt}
	if Right(d) || Used(d) != 100000 || len(Now(d)) != 1 || !Same(Own(d), d) {
		t.Error(Used(d))
	}
	d = api.Disk{Files: filesOf("a", "x"), Quota: math.MaxInt, Fuse: math.MaxInt}
	if d = must(t, d, add("a", "y")); d.Fuse != math.MaxInt-1 || d.Dead {
		t.Error(d)
	}
}
