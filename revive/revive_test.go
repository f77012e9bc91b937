package revive

import (
	"bytes"
	"math"
	"math/rand"
	"slices"
	"strconv"
	"testing"

	"moult/api"
	"moult/cut"
	"moult/disk"
	"moult/either"
	"moult/manifest"
	"moult/snap"
	"moult/store"
	"moult/tuple"
	"moult/write"
)

const top = 1073741824 // MaxNumber

// value is an entry of that term, and a value.
func value(term, v int) api.Entry {
	return api.Entry{Term: term, Kind: api.EnData, Value: v}
}

// row is so many entries, all of that term, none like another.
func row(term, many int) []api.Entry {
	var l []api.Entry
	for i := range many {
		l = append(l, value(term, i))
	}
	return l
}

// sure is what a call told with OK.
func sure[T any](x T, e api.Errno) T {
	if e != api.OK {
		panic(e)
	}
	return x
}

// nameOf is what a file with a number is called.
func nameOf(letter string, seq, fmt int) string {
	return letter + strconv.Itoa(seq) + "." + strconv.Itoa(fmt)
}

// plain is a directory in parts: the manifest, the snapshot's state, each segment's entries, what else there is.
type plain struct {
	m    api.Manifest
	s    api.State
	logs [][]api.Entry
	rest []api.File
}

// tuple is what the directory tells.
func (p plain) tuple() api.Tuple {
	t := api.Tuple{Snap: api.State{Level: 1}, Term: p.m.Term, Vote: p.m.Vote}
	if p.m.Snap.Seq > 0 {
		t.Snap = p.s
	}
	for i, s := range p.m.Segs {
		for j, x := range p.logs[i] {
			if s.First+j > t.Snap.Index {
				t.Log = append(t.Log, x)
			}
		}
	}
	return t
}

// disk is one with the directory's files, all safe.
func (p plain) disk(quota int) api.Disk {
	l := append([]api.File{{Name: "M", Bytes: sure(manifest.Put(p.m))}}, p.rest...)
	if p.m.Snap.Seq != 0 {
		l = append(l, api.File{Name: nameOf("p", p.m.Snap.Seq, p.m.Snap.Fmt), Bytes: sure(snap.Put(p.s, p.m.Snap.Fmt))})
	}
	for i, s := range p.m.Segs {
		l = append(l, api.File{Name: nameOf("s", s.Seq, s.Fmt), Bytes: sure(either.File(s.Fmt, s.First, p.logs[i]...))})
	}
	slices.SortFunc(l, func(a, b api.File) int { return bytes.Compare([]byte(a.Name), []byte(b.Name)) })
	return api.Disk{Files: l, Quota: quota}
}

// single is a directory of one segment of so many entries.
func single(fmt, many, count int) plain {
	return plain{m: api.Manifest{Next: 4, Term: 9, Vote: 1, Segs: []api.Seg{{Seq: 2, Fmt: fmt, First: 1, Count: count}}}, logs: [][]api.Entry{row(3, many)}}
}

// small is a directory of so many closed segments of one entry each.
func small(many int) plain {
	p := plain{m: api.Manifest{Next: 100, Term: 9}}
	for i := range many {
		p.m.Segs = append(p.m.Segs, api.Seg{Seq: 99 - i, Fmt: 1 + i%2, First: i + 1, Count: 1})
		p.logs = append(p.logs, row(3, 1))
	}
	return p
}

// places are directories of all kinds.
func places() []plain {
	var full plain
	full.m = api.Manifest{Next: 51, Term: 9}
	for i := range 50 {
		full.m.Segs = append(full.m.Segs, api.Seg{Seq: 50 - i, Fmt: 1 + i%2, First: 1 + 4*i, Count: 4})
		full.logs = append(full.logs, row(1, 4))
	}
	full.m.Segs[49].Count, full.logs[49] = -1, row(1, 1)
	s := api.State{Index: 5, Term: 2, Sum: 5, Level: 2}
	two := [][]api.Entry{row(2, 4), row(3, 2)}
	// Entries that the snapshot has are no tuple's: their terms may be any.
	elder := [][]api.Entry{row(7, 2), row(6, 1), row(8, 1), append(row(9, 1), row(3, 2)...), row(3, 1), row(4, 3)}
	segs := []api.Seg{{Seq: 4, Fmt: 2, First: 1, Count: 2}, {Seq: 12, Fmt: 1, First: 3, Count: 1}, {Seq: 1, Fmt: 2, First: 4, Count: 1}, {Seq: 9, Fmt: 2, First: 5, Count: 3}, {Seq: 7, Fmt: 1, First: 8, Count: 1}, {Seq: 8, Fmt: 2, First: 9, Count: -1}}
	stray := []api.File{{Name: "M.new", Bytes: []byte{1}}, {Name: "a"}, {Name: "p9.1", Bytes: []byte{6, 6}}, {Name: "p9.2"}, {Name: "s9.1", Bytes: []byte{7}}, {Name: "s9.2", Bytes: []byte{7}}}
	return []plain{
		{m: api.Manifest{Next: 1, Term: 9}},
		{m: api.Manifest{Next: 9, Term: 9, Vote: 5, Snap: api.Ref{Seq: 3, Fmt: 1}}, s: s, rest: stray},
		single(1, 1, -1), single(1, 3, -1), single(1, 4, -1), single(1, 2, 2), single(1, 4, 4),
		single(2, 1, -1), single(2, 2, -1), single(2, 4, -1), single(2, 3, 3), single(2, 4, 4),
		{m: api.Manifest{Next: 9, Term: 9, Vote: 1, Snap: api.Ref{Seq: 6, Fmt: 1}, Segs: []api.Seg{{Seq: 7, Fmt: 2, First: 5, Count: 4}, {Seq: 8, Fmt: 1, First: 9, Count: -1}}}, s: s, logs: two, rest: stray},
		{m: api.Manifest{Next: 9, Term: 9, Snap: api.Ref{Seq: 6, Fmt: 2}, Segs: []api.Seg{{Seq: 7, Fmt: 1, First: 2, Count: 4}, {Seq: 8, Fmt: 2, First: 6, Count: -1}}}, s: s, logs: two},
		{m: api.Manifest{Next: 13, Term: 9, Vote: 3, Snap: api.Ref{Seq: 6, Fmt: 2}, Segs: segs}, s: s, logs: elder},
		{m: api.Manifest{Next: 13, Term: 9, Vote: 3, Snap: api.Ref{Seq: 6, Fmt: 2}, Segs: segs[2:5]}, s: s, logs: elder[2:5]},
		small(59), small(60),
		{m: api.Manifest{Next: top - 1, Term: 9, Segs: []api.Seg{{Seq: 2, Fmt: 1, First: 1, Count: -1}}}, logs: [][]api.Entry{row(2, 2)}},
		{m: api.Manifest{Next: top, Term: top, Segs: []api.Seg{{Seq: 2, Fmt: 2, First: 1, Count: 2}, {Seq: 3, Fmt: 1, First: 3, Count: -1}}}, logs: [][]api.Entry{row(2, 2), row(2, 2)}},
		full,
	}
}

// op is an operation.
func op(kind uint8, name, to string, b ...byte) api.Op {
	return api.Op{Kind: kind, Name: name, To: to, Bytes: b}
}

// sync stands for a sync among operations.
var sync = api.Op{Kind: 99}

// run does operations, up to the first error.
func run(d api.Disk, l ...api.Op) (api.Disk, api.Errno) {
	d = disk.Own(d)
	for _, o := range l {
		var e api.Errno
		if o.Kind == sync.Kind {
			d, e = disk.Sync(d)
		} else {
			d, e = disk.Do(d, o)
		}
		if e != api.OK {
			return d, e
		}
	}
	return d, api.OK
}

// writing is the operations that write a file.
func writing(name string, b []byte) []api.Op {
	return []api.Op{op(api.OpCreate, name, ""), op(api.OpAppend, name, "", b...), sync}
}

// swapping is the operations of a swap to m on a disk with those files.
func swapping(m api.Manifest, l []api.File) []api.Op {
	kept := map[string]bool{"M": true, nameOf("p", m.Snap.Seq, m.Snap.Fmt): m.Snap.Seq != 0}
	for _, s := range m.Segs {
		kept[nameOf("s", s.Seq, s.Fmt)] = true
	}
	ops := append(writing("M.new", sure(manifest.Put(m))), op(api.OpRename, "M.new", "M"), sync)
	for _, x := range l {
		if !kept[x.Name] && x.Name != "M.new" { // that one has another name then
			ops = append(ops, op(api.OpRemove, x.Name, ""))
		}
	}
	return ops
}

// spoil changes all that a disk holds.
func spoil(d api.Disk) {
	for i := range d.Files {
		for at := range d.Files[i].Bytes {
			d.Files[i].Bytes[at]++
		}
		d.Files[i].Name = "changed"
	}
	for i := range d.Queue {
		for at := range d.Queue[i].Bytes {
			d.Queue[i].Bytes[at]++
		}
		d.Queue[i].Name = "changed"
	}
}

// crashes are the disks behind a crash, wherever it strikes.
func crashes(d api.Disk) []api.Disk {
	var l []api.Disk
	for keep := range len(d.Queue) + 1 {
		torn := 0
		if keep < len(d.Queue) {
			torn = len(d.Queue[keep].Bytes)
		}
		for torn := range torn + 1 {
			l = append(l, disk.Crash(d, keep, torn))
		}
	}
	return l
}

// binaries are those that there are, and others.
var binaries = []int{1, 2, 0, 3, -1, 1<<32 + 1, 1<<32 + 2, math.MinInt, math.MaxInt}

// isOpen tells whether the last segment is open.
func (p plain) isOpen() bool {
	return len(p.m.Segs) > 0 && p.m.Segs[len(p.m.Segs)-1].Count == -1
}

// two tells whether a file is of the second format.
func (p plain) two() bool {
	return p.m.Snap.Fmt == 2 || slices.ContainsFunc(p.m.Segs, func(s api.Seg) bool { return s.Fmt == 2 })
}

// strange tells whether there is another file than the directory's.
func (p plain) strange(l []api.File) bool {
	return len(l) != 1+len(p.m.Segs)+min(p.m.Snap.Seq, 1)
}

// kept is the files that a directory names.
func (p plain) kept() map[string]bool {
	kept := map[string]bool{"M": true}
	if p.m.Snap.Seq != 0 {
		kept[nameOf("p", p.m.Snap.Seq, p.m.Snap.Fmt)] = true
	}
	for _, s := range p.m.Segs {
		kept[nameOf("s", s.Seq, s.Fmt)] = true
	}
	return kept
}

// behind is the disk with those bytes behind the ones of the last segment's safe file.
func (p plain) behind(d api.Disk, tail ...byte) api.Disk {
	d = disk.Own(d)
	s := p.m.Segs[len(p.m.Segs)-1]
	for i, x := range d.Files {
		if x.Name == nameOf("s", s.Seq, s.Fmt) {
			d.Files[i].Bytes = append(x.Bytes, tail...)
		}
	}
	return d
}

// tails are bytes that are behind a segment's entries, but no entry.
func (p plain) tails() [][]byte {
	if len(p.m.Segs) == 0 {
		return nil
	}
	at := len(p.m.Segs) - 1
	s := p.m.Segs[at]
	whole := sure(either.File(s.Fmt, s.First, p.logs[at]...))
	more := sure(either.More(whole, s.Fmt, value(5, 7)))
	l := [][]byte{{0}, {255, 255, 255, 255, 255}, bytes.Repeat([]byte{1}, 60)}
	for many := 1; many < len(more); many++ {
		l = append(l, more[:many])
	}
	wrong := slices.Clone(more)
	wrong[len(wrong)-1]++
	return append(l, wrong)
}

// mended is what the manifest is to be behind a torn segment, and that one's new file.
func (p plain) mended() (api.Manifest, string, []byte) {
	m := manifest.Own(p.m)
	at := len(m.Segs) - 1
	s := m.Segs[at]
	b := sure(either.File(s.Fmt, s.First, p.logs[at]...))
	name := nameOf("s", m.Next, s.Fmt)
	m.Segs[at] = api.Seg{Seq: m.Next, Fmt: s.Fmt, First: s.First, Count: -1}
	m.Next++
	return m, name, b
}

// byHand does what the chapter's words say, operation by operation, on a disk of that directory; is it torn?
func byHand(d api.Disk, p plain, torn bool, binary int) (api.Disk, api.Errno) {
	d = disk.Own(d)
	files := disk.Now(d)
	switch {
	case binary != 1 && binary != 2, !disk.Right(d):
		return d, api.ErrArg
	case d.Dead:
		return d, api.ErrDown
	case p.two() && binary == 1:
		return d, api.ErrFormat
	case torn:
		m, name, b := p.mended()
		if manifest.Check(m) != api.OK {
			return d, api.ErrArg
		}
		d, e := run(d, writing(name, b)...)
		if e != api.OK {
			return d, e
		}
		return run(d, append(swapping(m, disk.Now(d)), sync)...)
	case len(d.Queue) == 0 && !p.strange(files):
		return d, api.OK
	}
	var l []api.Op
	for _, x := range files {
		if !p.kept()[x.Name] {
			l = append(l, op(api.OpRemove, x.Name, ""))
		}
	}
	return run(d, append(l, sync)...)
}

// agrees holds Recover and Start of a disk with that directory against what is done by hand; and what is told behind it.
func agrees(t *testing.T, d api.Disk, p plain, torn bool, binary int) api.Errno {
	t.Helper()
	before := disk.Own(d)
	want, wantE := byHand(d, p, torn, binary)
	got, e := Recover(d, binary)
	if e != wantE || !disk.Same(got, want) {
		t.Fatal(binary, "of", p, "torn", torn, "with", d, "gave", got, e, "and not", want, wantE)
	}
	started, x, f := Start(d, binary)
	if f != e || !disk.Same(started, got) {
		t.Fatal("Start did something else:", started, f)
	}
	if !disk.Same(d, before) {
		t.Fatal("what was handed in was changed")
	}
	if e != api.OK {
		if !tuple.Same(x, api.Tuple{}) {
			t.Fatal("beside", e, "the tuple is", x)
		}
		return e
	}
	if to, _, _ := store.Load(got); !tuple.Same(x, p.tuple()) || !tuple.Same(to, x) || !Clean(got) || Torn(got) {
		t.Fatal(binary, "of", p, "tells", x, "and is", got)
	}
	return e
}

// waiting are disks of that directory of which not all is safe.
func (p plain) waiting(d api.Disk) []api.Disk {
	made := disk.Own(d)
	made.Queue = []api.Op{op(api.OpCreate, "x", "")}
	none := disk.Own(made)
	none.Queue = append(none.Queue, op(api.OpAppend, "x", "", 1, 2), op(api.OpRemove, "x", ""))
	moved := disk.Own(made)
	moved.Queue = append(moved.Queue, op(api.OpRename, "x", "M.new"))
	late := disk.Own(d)
	last := late.Files[len(late.Files)-1]
	late.Files = late.Files[:len(late.Files)-1]
	half := len(last.Bytes) / 2
	late.Queue = []api.Op{op(api.OpCreate, last.Name, ""), op(api.OpAppend, last.Name, "", last.Bytes[:half]...), op(api.OpAppend, last.Name, "", last.Bytes[half:]...)}
	over := disk.Own(d)
	over.Files[len(over.Files)-1].Bytes = []byte{9, 9, 9}
	over.Queue = late.Queue
	return []api.Disk{made, none, moved, late, over}
}

// P16.1: a directory is torn, if there are bytes behind the open segment's entries; else not.
func TestTorn(t *testing.T) {
	found := 0
	for i, p := range places() {
		d := p.disk(90000)
		if Torn(d) {
			t.Error(i, "is not torn")
		}
		for _, tail := range p.tails() {
			x := p.behind(d, tail...)
			if Torn(x) != p.isOpen() {
				t.Error(i, "with", tail, "behind")
			}
			for _, w := range p.waiting(x) {
				if Torn(w) != p.isOpen() {
					t.Error(i, "with", tail, "behind, not all of it safe")
				}
			}
			found++
			x.Dead, x.Quota = true, -1
			if Torn(x) != p.isOpen() {
				t.Error(i, "of a disk that may not be, and is dead")
			}
			x.Files[0].Bytes[0]++
			if Torn(x) {
				t.Error(i, "what tells no tuple is not torn")
			}
		}
	}
	if found < 200 {
		t.Error("too few:", found)
	}
	p := single(1, 3, -1)
	if more := p.behind(p.disk(900), sure(either.More(sure(either.File(1, 1, row(3, 3)...)), 1, value(3, 8)))...); Torn(more) {
		t.Error("an entry behind is an entry")
	}
	if five := p.behind(p.disk(900), 1, 2); !Torn(five) {
		t.Error("two bytes behind")
	}
	if Torn(api.Disk{}) || Torn(disk.New(9)) || Torn(api.Disk{Files: []api.File{{Name: "s1.1", Bytes: []byte{1, 2, 3}}}}) {
		t.Error("no manifest")
	}
	torn := p.behind(p.disk(900), 7)
	torn.Queue = []api.Op{op(api.OpRemove, "s2.1", "")}
	if Torn(torn) {
		t.Error("of the files now")
	}
	elder := single(1, 4, 4)
	elder.m.Segs = append(elder.m.Segs, api.Seg{Seq: 3, Fmt: 2, First: 5, Count: -1})
	elder.logs = append(elder.logs, row(3, 1))
	x := elder.disk(900)
	for i := range x.Files {
		if x.Files[i].Name == "s2.1" {
			x.Files[i].Bytes = append(x.Files[i].Bytes, 1, 2, 3)
		}
	}
	if _, _, e := store.Load(x); e != api.OK || Torn(x) || !Clean(x) {
		t.Error("behind a closed one's entries there may be bytes")
	}
}

// P16.1: a directory is clean, if it tells a tuple, is not torn, nothing waits, and no other file is there.
func TestClean(t *testing.T) {
	for i, p := range places() {
		d := p.disk(90000)
		if got := Clean(d); got != (len(p.rest) == 0) {
			t.Error(i, got)
		}
		for _, x := range p.waiting(d) {
			if Clean(x) {
				t.Error(i, "something waits:", x)
			}
			if safe, e := disk.Sync(x); e != api.OK || Clean(safe) != (len(p.rest) == 0 && len(safe.Files) == len(d.Files)) {
				t.Error(i, "behind a sync:", safe)
			}
		}
		for _, tail := range p.tails() {
			if x := p.behind(d, tail...); Clean(x) != (len(p.rest) == 0 && !p.isOpen()) {
				t.Error(i, "with", tail, "behind")
			}
		}
		for _, name := range []string{"M.new", "s9999.1", "p9999.2", "m", "\xff", "s1", "M."} {
			x := disk.Own(d)
			x.Files = append(x.Files, api.File{Name: name})
			if Clean(x) {
				t.Error(i, "with another file:", name)
			}
		}
		d.Dead, d.Quota, d.Fuse = true, -1, -4
		if got := Clean(d); got != (len(p.rest) == 0) {
			t.Error(i, "whatever the disk is like:", got)
		}
		d.Files[0].Bytes[0]++
		if Clean(d) {
			t.Error(i, "it tells no tuple")
		}
	}
	if Clean(api.Disk{}) || Clean(disk.New(99)) {
		t.Error("no manifest")
	}
	if !Clean(sure(write.Init(99))) {
		t.Error("the first one")
	}
	twice := single(1, 2, -1).disk(900)
	twice.Files = append(twice.Files, twice.Files...)
	if !Clean(twice) || Torn(twice) {
		t.Error("of files of one name the first is there")
	}
}

// P16.1: binary 2 fits all, binary 1 what has no file of the second format, another one nothing.
func TestFits(t *testing.T) {
	ones := []api.Manifest{{}, {Next: 1}, {Next: -4, Snap: api.Ref{Seq: 2, Fmt: 1}}, {Segs: []api.Seg{{Fmt: 1}, {Fmt: 1}}}, {Snap: api.Ref{Fmt: 3}, Segs: []api.Seg{{Fmt: 0}, {Fmt: 1<<32 + 2}}}}
	twos := []api.Manifest{{Snap: api.Ref{Fmt: 2}}, {Next: 9, Snap: api.Ref{Seq: 2, Fmt: 2}}, {Segs: []api.Seg{{Fmt: 1}, {Fmt: 2}}}, {Segs: []api.Seg{{Fmt: 2}, {Fmt: 1}}}}
	for _, binary := range binaries {
		for i, m := range ones {
			if Fits(m, binary) != (binary == 1 || binary == 2) {
				t.Error(binary, "of the first format", i)
			}
		}
		for i, m := range twos {
			if Fits(m, binary) != (binary == 2) {
				t.Error(binary, "of both formats", i)
			}
		}
	}
	for i, p := range places() {
		if Fits(p.m, 1) == p.two() || !Fits(p.m, 2) {
			t.Error(i)
		}
	}
}

// P16.2, P16.3, P16.4: of directories of all kinds what is done is what the chapter's words say, operation by operation.
func TestRecover(t *testing.T) {
	told := map[api.Errno]int{}
	for _, p := range places() {
		for _, binary := range binaries {
			d := p.disk(90000)
			told[agrees(t, d, p, false, binary)]++
			for _, w := range p.waiting(d) {
				told[agrees(t, w, p, false, binary)]++
			}
			for _, tail := range p.tails() {
				x := p.behind(d, tail...)
				told[agrees(t, x, p, p.isOpen(), binary)]++
				if len(tail) > 3 {
					continue
				}
				for _, w := range p.waiting(x) {
					told[agrees(t, w, p, p.isOpen(), binary)]++
				}
			}
		}
	}
	for _, e := range []api.Errno{api.OK, api.ErrArg, api.ErrFormat} {
		if told[e] < 100 {
			t.Error("too few of a kind:", told)
		}
	}
}

// P16.2: what is to be done, told one by one.
func TestCases(t *testing.T) {
	p := places()[12] // Next 9; p6.1, s7.2, s8.1, open; others beside them
	torn := p.behind(p.disk(900), 6, 6)
	got, e := Recover(torn, 2)
	_, m, f := store.Load(got)
	if e != api.OK || f != api.OK || m.Next != 10 || m.Term != 9 || m.Vote != 1 || m.Snap.Seq != 6 || len(got.Queue) != 0 ||
		!slices.Equal(m.Segs, []api.Seg{{Seq: 7, Fmt: 2, First: 5, Count: 4}, {Seq: 9, Fmt: 1, First: 9, Count: -1}}) {
		t.Error(m, e)
	}
	var called []string
	for _, x := range got.Files {
		called = append(called, x.Name)
	}
	if !slices.Equal(called, []string{"M", "p6.1", "s7.2", "s9.1"}) {
		t.Error(called)
	}
	if b, _ := disk.Read(got, "s9.1"); !bytes.Equal(b, sure(either.File(1, 9, row(3, 2)...))) {
		t.Error("the new file:", b)
	}
	same, e := Recover(p.disk(900), 2)
	if x, m, _ := store.Load(same); e != api.OK || !manifest.Same(m, p.m) || !tuple.Same(x, p.tuple()) || len(same.Files) != 4 || len(same.Queue) != 0 {
		t.Error("the others are removed:", same)
	}
	for _, binary := range []int{1, 2} {
		d := single(1, 3, -1).disk(900)
		d.Fuse = 1
		if got, e := Recover(d, binary); e != api.OK || !disk.Same(got, d) || got.Fuse != 1 {
			t.Error("what is clean is left alone, without a sync:", got, e)
		}
	}
	last := places()[19] // Next is MaxNumber
	if _, m, _ := store.Load(last.disk(900)); m.Next != top {
		t.Fatal("not that one")
	}
	x := last.behind(last.disk(900), 1)
	if got, e := Recover(x, 2); e != api.ErrArg || !disk.Same(got, x) {
		t.Error("no number is left:", e)
	}
	if got, e := Recover(x, 1); e != api.ErrFormat || !disk.Same(got, x) {
		t.Error("it does not fit, and no number is left:", e)
	}
}

// P16.2, P16.3: without a manifest it is the first one, whatever else there is.
func TestFirst(t *testing.T) {
	m := api.Manifest{Next: 1}
	stray := []api.File{{Name: "M.new", Bytes: []byte{1}}, {Name: "a"}, {Name: "s1.2", Bytes: []byte{7}}}
	told := map[api.Errno]int{}
	for _, files := range [][]api.File{nil, stray, stray[1:]} {
		for quota := range 60 {
			for fuse := range 12 {
				for _, queue := range [][]api.Op{nil, {op(api.OpCreate, "M", ""), op(api.OpRename, "M", "b")}, slices.Repeat([]api.Op{op(api.OpCreate, "a", "")}, 398)} {
					d := api.Disk{Files: files, Queue: queue, Quota: quota, Fuse: fuse}
					before := disk.Own(d)
					for _, binary := range []int{1, 2} {
						want, wantE := disk.Own(d), api.ErrArg
						if disk.Right(d) {
							want, wantE = run(d, append(swapping(m, disk.Now(d)), sync)...)
						}
						got, e := Recover(d, binary)
						told[e]++
						if e != wantE || !disk.Same(got, want) || !disk.Same(d, before) {
							t.Fatal(d, binary, "gave", got, e, "and not", want, wantE)
						}
						started, x, f := Start(d, binary)
						first := api.Tuple{Snap: api.State{Level: 1}}
						if e != api.OK {
							first = api.Tuple{}
						}
						if f != e || !disk.Same(started, got) || !tuple.Same(x, first) {
							t.Fatal(d, binary, "tells", x, f)
						}
						if e == api.OK && (!Clean(got) || len(got.Files) != 1) {
							t.Fatal(d, binary, "is not clean")
						}
					}
				}
			}
		}
	}
	for _, e := range []api.Errno{api.OK, api.ErrArg, api.ErrDown, api.ErrFull} {
		if told[e] < 100 {
			t.Error("too few of a kind:", told)
		}
	}
	if _, x, e := Start(disk.New(99), 1); e != api.OK || !tuple.Same(x, tuple.First()) {
		t.Error("an empty disk tells the first tuple:", x, e)
	}
}

// P16.2, P16.3: which error goes ahead of which; with it nothing is done, and nothing is shared.
func TestErrors(t *testing.T) {
	check := func(what string, d api.Disk, binary int, want api.Errno) {
		t.Helper()
		before := disk.Own(d)
		got, e := Recover(d, binary)
		started, x, f := Start(d, binary)
		if e != want || f != want || !disk.Same(got, before) || !disk.Same(started, before) || !tuple.Same(x, api.Tuple{}) {
			t.Error(what, binary, e, f, x)
		}
		spoil(got)
		spoil(started)
		if !disk.Same(d, before) {
			t.Fatal(what, "the answer shares memory with what was handed in")
		}
	}
	both := places()[12]
	for _, binary := range binaries[2:] {
		check("no binary", both.disk(900), binary, api.ErrArg)
		check("no binary, no disk", api.Disk{Quota: -1, Dead: true}, binary, api.ErrArg)
		check("no binary, no manifest", disk.New(90), binary, api.ErrArg)
		check("no binary, a dead disk", api.Disk{Dead: true}, binary, api.ErrArg)
	}
	for _, binary := range []int{1, 2} {
		for _, d := range []api.Disk{{Quota: -1}, both.disk(10), {Quota: 9, Fuse: -1}, {Files: []api.File{{Name: ""}}}, {Queue: []api.Op{{Kind: 5, Name: "a"}}}, {Queue: slices.Repeat([]api.Op{op(api.OpCreate, "a", "")}, 401)}} {
			check("a disk that may not be", d, binary, api.ErrArg)
			d.Dead = true
			check("a dead disk that may not be", d, binary, api.ErrArg)
		}
		check("a dead disk", api.Disk{Quota: 90, Dead: true}, binary, api.ErrDown)
		d := both.disk(900)
		d.Dead = true
		check("a dead disk that does not fit 1", d, binary, api.ErrDown)
		d.Files[0].Bytes[3]++
		check("a dead disk that is broken", d, binary, api.ErrDown)
		d.Dead = false
		check("a manifest that is none", d, binary, api.ErrBroken)
		d = single(2, 3, -1).disk(900)
		d.Files[1].Bytes = d.Files[1].Bytes[:1]
		check("a segment without a head", d, binary, api.ErrBroken)
		d.Queue = []api.Op{op(api.OpRemove, "s2.2", "")}
		check("a segment that is gone now", d, binary, api.ErrBroken)
		d = single(1, 2, -1).disk(900)
		d.Fuse, d.Quota = 1, disk.Used(d)-1
		check("too many bytes", d, binary, api.ErrArg)
	}
	for _, p := range places() {
		if !p.two() {
			continue
		}
		d := p.disk(90000)
		check("a file of the second format", d, 1, api.ErrFormat)
		for _, w := range p.waiting(d) {
			check("a file of the second format, something waits", w, 1, api.ErrFormat)
		}
		for _, tail := range p.tails() {
			check("a file of the second format, torn", p.behind(d, tail...), 1, api.ErrFormat)
		}
	}
}

// P16.2: at the disk's first error nothing more is done, and what is done stays: of every fuse, every quota, queues all but full.
func TestDiskErrors(t *testing.T) {
	told := map[api.Errno]int{}
	for _, p := range places() {
		if len(p.m.Segs) > 10 {
			continue
		}
		tails := [][]byte{nil}
		if p.isOpen() {
			tails = [][]byte{nil, {1}, {0, 0, 0, 1, 7, 7, 7}}
		}
		for _, tail := range tails {
			d, torn := p.disk(90000), len(tail) > 0
			if torn {
				d = p.behind(d, tail...)
			}
			for _, w := range append(p.waiting(d), d) {
				for fuse := range 22 {
					w.Fuse = fuse
					told[agrees(t, w, p, torn, 2)]++
				}
				w.Fuse = 0
				used := disk.Used(d)
				for quota := used - 1; quota < used+80; quota++ {
					w.Quota = quota
					told[agrees(t, w, p, torn, 2)]++
				}
				w.Quota = 90000
				for left := range 8 {
					w := disk.Own(w)
					w.Queue = append(slices.Repeat([]api.Op{op(api.OpCreate, "q", "")}, api.MaxQueue-left-len(w.Queue)), w.Queue...)
					told[agrees(t, w, p, torn, 2)]++
				}
			}
		}
	}
	for _, e := range []api.Errno{api.OK, api.ErrArg, api.ErrDown, api.ErrFull} {
		if told[e] < 100 {
			t.Error("too few of a kind:", told)
		}
	}
}

// P16.2, P16.3: what is told is in memory of its own.
func TestMemory(t *testing.T) {
	for i, p := range places() {
		d := p.disk(90000)
		if p.isOpen() {
			d = p.behind(d, 7, 7)
		}
		for _, d := range append(p.waiting(d), d, p.disk(90000)) {
			before := disk.Own(d)
			for _, binary := range binaries[:3] {
				got, _ := Recover(d, binary)
				started, x, _ := Start(d, binary)
				whole := disk.Own(started)
				told := tuple.Own(x)
				spoil(got)
				for at := range x.Log {
					x.Log[at].Value++
				}
				if !disk.Same(started, whole) {
					t.Fatal(i, "answers share memory")
				}
				spoil(started)
				if !disk.Same(d, before) {
					t.Fatal(i, "what was handed in was changed, or is shared")
				}
				if _, again, _ := Start(d, binary); !tuple.Same(again, told) {
					t.Fatal(i, "something is kept")
				}
			}
		}
	}
}

// P16.4: recovered again nothing is done.
func TestAgain(t *testing.T) {
	for i, p := range places() {
		d := p.disk(90000)
		all := append(p.waiting(d), d)
		for _, tail := range p.tails() {
			all = append(all, p.behind(d, tail...))
		}
		for _, d := range all {
			d, e := Recover(d, 2)
			if e != api.OK {
				continue
			}
			d.Fuse = 3
			if again, e := Recover(d, 2); e != api.OK || !disk.Same(again, d) {
				t.Fatal(i, e, again)
			}
			if x, _, _ := store.Load(disk.Crash(d, 0, 0)); !tuple.Same(x, p.tuple()) {
				t.Fatal(i, "it is not safe")
			}
		}
	}
}

// broken are the disks behind a Recover that is broken off at every operation, and a crash, wherever it strikes.
func broken(d api.Disk) []api.Disk {
	var l []api.Disk
	for fuse := 1; ; fuse++ {
		d := disk.Own(d)
		d.Fuse = fuse
		d, e := Recover(d, 2)
		l = append(l, crashes(d)...)
		if e == api.OK && d.Fuse > 0 {
			return l
		}
	}
}

// P16.4: broken off, and crashed, wherever that strikes, and once more, the tuple stays.
func TestCrash(t *testing.T) {
	for i, p := range places() {
		if len(p.m.Segs) > 10 || p.m.Next == top {
			continue
		}
		d := p.disk(90000)
		if p.isOpen() {
			d = p.behind(d, 1, 2, 3)
		}
		crashed := 0
		for _, x := range broken(d) {
			if told, _, e := store.Load(x); e != api.OK || !tuple.Same(told, p.tuple()) {
				t.Fatal(i, told, e)
			}
			for at, y := range broken(x) {
				if told, _, e := store.Load(y); e != api.OK || !tuple.Same(told, p.tuple()) {
					t.Fatal(i, told, e)
				}
				if at%5 == 0 {
					y, told, e := Start(y, 2)
					if e != api.OK || !Clean(y) || !tuple.Same(told, p.tuple()) {
						t.Fatal(i, told, e)
					}
				}
				crashed++
			}
		}
		if crashed == 0 {
			t.Fatal("nothing was tried")
		}
	}
	for _, x := range broken(disk.New(90)) {
		for _, y := range broken(x) {
			if y, told, e := Start(y, 1); e != api.OK || !Clean(y) || !tuple.Same(told, tuple.First()) {
				t.Fatal(told, e)
			}
		}
	}
}

// P16.4: walks of many calls, with crashes, and recovering that is broken off: the tuple stays as the crash left it.
func TestWalk(t *testing.T) {
	r := rand.New(rand.NewSource(16))
	found := 0
	for range 300 {
		d := sure(write.Init(100000))
		d = sure(cut.Hard(d, 3, 1))
		for range 20 {
			now, _, _ := store.Load(d)
			if r.Intn(2) == 0 {
				d.Fuse = 1 + r.Intn(15)
			}
			fmt := 1 + r.Intn(6)/5 // most of the first, so that open segments have room
			switch r.Intn(6) {
			case 0:
				s, _ := tuple.State(now, now.Snap.Index+r.Intn(len(now.Log)+1))
				d, _ = cut.Save(d, s, fmt)
			case 1:
				d, _ = cut.Cut(d, now.Snap.Index+1+r.Intn(len(now.Log)+1), fmt)
			default:
				d.Fuse = r.Intn(4) // so that often a record is torn
				d, _ = write.Append(d, fmt, row(3, 1+r.Intn(6))...)
			}
			d = disk.Crash(d, r.Intn(2), r.Intn(15))
			want, _, e := store.Load(d)
			if e != api.OK {
				t.Fatal(e)
			}
			if Torn(d) {
				found++
			}
			for range r.Intn(3) {
				d.Fuse = 1 + r.Intn(12)
				d, _ = Recover(d, 2)
				d = disk.Crash(d, r.Intn(5), r.Intn(40))
			}
			got, told, e := Start(d, 2)
			if e != api.OK || !tuple.Same(told, want) || !Clean(got) {
				t.Fatal(told, e, "and not", want)
			}
			d = got
		}
	}
	if found < 100 {
		t.Error("too few were torn:", found)
	}
}
