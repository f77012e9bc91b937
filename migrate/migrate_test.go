package migrate

import (
	"bytes"
	"math"
	"math/rand"
	"slices"
	"strconv"
	"testing"

	"moult/api"
	"moult/cut"
	"moult/disk"
	"moult/either"
	"moult/manifest"
	"moult/revive"
	"moult/snap"
	"moult/store"
	"moult/tuple"
	"moult/write"
)

const top = 1073741824 // MaxNumber

// value is an entry of that term, and a value.
func value(term, v int) api.Entry {
	return api.Entry{Term: term, Kind: api.EnData, Value: v}
}

// row is so many entries, all of that term, none like another.
func row(term, many int) []api.Entry {
	var l []api.Entry
	for i := range many {
		l = append(l, value(term, i))
	}
	return l
}

// sure is what a call told with OK.
func sure[T any](x T, e api.Errno) T {
	if e != api.OK {
		panic(e)
	}
	return x
}

// nameOf is what a file with a number is called.
func nameOf(letter string, seq, fmt int) string {
	return letter + strconv.Itoa(seq) + "." + strconv.Itoa(fmt)
}

// plain is a directory in parts: the manifest, the snapshot's state, each segment's entries, what else there is.
type plain struct {
	m    api.Manifest
	s    api.State
	logs [][]api.Entry
	rest []api.File
}

// tuple is what the directory tells.
func (p plain) tuple() api.Tuple {
	t := api.Tuple{Snap: api.State{Level: 1}, Term: p.m.Term, Vote: p.m.Vote}
	if p.m.Snap.Seq > 0 {
		t.Snap = p.s
	}
	for i, s := range p.m.Segs {
		for j, x := range p.logs[i] {
			if s.First+j > t.Snap.Index {
				t.Log = append(t.Log, x)
			}
		}
	}
	return t
}

// disk is one with the directory's files, all safe.
func (p plain) disk(quota int) api.Disk {
	l := append([]api.File{{Name: "M", Bytes: sure(manifest.Put(p.m))}}, p.rest...)
	if p.m.Snap.Seq != 0 {
		l = append(l, api.File{Name: nameOf("p", p.m.Snap.Seq, p.m.Snap.Fmt), Bytes: sure(snap.Put(p.s, p.m.Snap.Fmt))})
	}
	for i, s := range p.m.Segs {
		l = append(l, api.File{Name: nameOf("s", s.Seq, s.Fmt), Bytes: sure(either.File(s.Fmt, s.First, p.logs[i]...))})
	}
	slices.SortFunc(l, func(a, b api.File) int { return bytes.Compare([]byte(a.Name), []byte(b.Name)) })
	return api.Disk{Files: l, Quota: quota}
}

// single is a directory of one segment of so many entries.
func single(fmt, many, count int) plain {
	return plain{m: api.Manifest{Next: 4, Term: 9, Vote: 1, Segs: []api.Seg{{Seq: 2, Fmt: fmt, First: 1, Count: count}}}, logs: [][]api.Entry{row(3, many)}}
}

// small is a directory of so many closed segments of one entry each.
func small(many int) plain {
	p := plain{m: api.Manifest{Next: 100, Term: 9}}
	for i := range many {
		p.m.Segs = append(p.m.Segs, api.Seg{Seq: 99 - i, Fmt: 1 + i%2, First: i + 1, Count: 1})
		p.logs = append(p.logs, row(3, 1))
	}
	return p
}

// places are directories of all kinds.
func places() []plain {
	var full plain
	full.m = api.Manifest{Next: 51, Term: 9}
	for i := range 50 {
		full.m.Segs = append(full.m.Segs, api.Seg{Seq: 50 - i, Fmt: 1 + i%2, First: 1 + 4*i, Count: 4})
		full.logs = append(full.logs, row(1, 4))
	}
	full.m.Segs[49].Count, full.logs[49] = -1, row(1, 1)
	s := api.State{Index: 5, Term: 2, Sum: 5, Level: 2}
	two := [][]api.Entry{row(2, 4), row(3, 2)}
	// Entries that the snapshot has are no tuple's: their terms may be any.
	elder := [][]api.Entry{row(7, 2), row(6, 1), row(8, 1), append(row(9, 1), row(3, 2)...), row(3, 1), row(4, 3)}
	segs := []api.Seg{{Seq: 4, Fmt: 2, First: 1, Count: 2}, {Seq: 12, Fmt: 1, First: 3, Count: 1}, {Seq: 1, Fmt: 2, First: 4, Count: 1}, {Seq: 9, Fmt: 2, First: 5, Count: 3}, {Seq: 7, Fmt: 1, First: 8, Count: 1}, {Seq: 8, Fmt: 2, First: 9, Count: -1}}
	stray := []api.File{{Name: "M.new", Bytes: []byte{1}}, {Name: "a"}, {Name: "p9.1", Bytes: []byte{6, 6}}, {Name: "p9.2"}, {Name: "s9.1", Bytes: []byte{7}}, {Name: "s9.2", Bytes: []byte{7}}}
	return []plain{
		{m: api.Manifest{Next: 1, Term: 9}},
		{m: api.Manifest{Next: 9, Term: 9, Vote: 5, Snap: api.Ref{Seq: 3, Fmt: 1}}, s: s, rest: stray},
		single(1, 1, -1), single(1, 3, -1), single(1, 4, -1), single(1, 2, 2), single(1, 4, 4),
		single(2, 1, -1), single(2, 2, -1), single(2, 4, -1), single(2, 3, 3), single(2, 4, 4),
		{m: api.Manifest{Next: 9, Term: 9, Vote: 1, Snap: api.Ref{Seq: 6, Fmt: 1}, Segs: []api.Seg{{Seq: 7, Fmt: 2, First: 5, Count: 4}, {Seq: 8, Fmt: 1, First: 9, Count: -1}}}, s: s, logs: two, rest: stray},
		{m: api.Manifest{Next: 9, Term: 9, Snap: api.Ref{Seq: 6, Fmt: 2}, Segs: []api.Seg{{Seq: 7, Fmt: 1, First: 2, Count: 4}, {Seq: 8, Fmt: 2, First: 6, Count: -1}}}, s: s, logs: two},
		{m: api.Manifest{Next: 13, Term: 9, Vote: 3, Snap: api.Ref{Seq: 6, Fmt: 2}, Segs: segs}, s: s, logs: elder},
		{m: api.Manifest{Next: 13, Term: 9, Vote: 3, Snap: api.Ref{Seq: 6, Fmt: 2}, Segs: segs[2:5]}, s: s, logs: elder[2:5]},
		small(59), small(60),
		{m: api.Manifest{Next: top - 1, Term: 9, Segs: []api.Seg{{Seq: 2, Fmt: 1, First: 1, Count: -1}}}, logs: [][]api.Entry{row(2, 2)}},
		{m: api.Manifest{Next: top, Term: top, Segs: []api.Seg{{Seq: 2, Fmt: 2, First: 1, Count: 2}, {Seq: 3, Fmt: 1, First: 3, Count: -1}}}, logs: [][]api.Entry{row(2, 2), row(2, 2)}},
		full,
	}
}

// op is an operation.
func op(kind uint8, name, to string, b ...byte) api.Op {
	return api.Op{Kind: kind, Name: name, To: to, Bytes: b}
}

// sync stands for a sync among operations.
var sync = api.Op{Kind: 99}

// run does operations, up to the first error.
func run(d api.Disk, l ...api.Op) (api.Disk, api.Errno) {
	d = disk.Own(d)
	for _, o := range l {
		var e api.Errno
		if o.Kind == sync.Kind {
			d, e = disk.Sync(d)
		} else {
			d, e = disk.Do(d, o)
		}
		if e != api.OK {
			return d, e
		}
	}
	return d, api.OK
}

// writing is the operations that write a file.
func writing(name string, b []byte) []api.Op {
	return []api.Op{op(api.OpCreate, name, ""), op(api.OpAppend, name, "", b...), sync}
}

// swapping is the operations of a swap to m on a disk with those files.
func swapping(m api.Manifest, l []api.File) []api.Op {
	kept := map[string]bool{"M": true, nameOf("p", m.Snap.Seq, m.Snap.Fmt): m.Snap.Seq != 0}
	for _, s := range m.Segs {
		kept[nameOf("s", s.Seq, s.Fmt)] = true
	}
	ops := append(writing("M.new", sure(manifest.Put(m))), op(api.OpRename, "M.new", "M"), sync)
	for _, x := range l {
		if !kept[x.Name] && x.Name != "M.new" { // that one has another name then
			ops = append(ops, op(api.OpRemove, x.Name, ""))
		}
	}
	return ops
}

// spoil changes all that a disk holds.
func spoil(d api.Disk) {
	for i := range d.Files {
		for at := range d.Files[i].Bytes {
			d.Files[i].Bytes[at]++
		}
		d.Files[i].Name = "changed"
	}
	for i := range d.Queue {
		for at := range d.Queue[i].Bytes {
			d.Queue[i].Bytes[at]++
		}
		d.Queue[i].Name = "changed"
	}
}

// crashes are the disks behind a crash, wherever it strikes.
func crashes(d api.Disk) []api.Disk {
	var l []api.Disk
	for keep := range len(d.Queue) + 1 {
		torn := 0
		if keep < len(d.Queue) {
			torn = len(d.Queue[keep].Bytes)
		}
		for torn := range torn + 1 {
			l = append(l, disk.Crash(d, keep, torn))
		}
	}
	return l
}

// strange tells whether there is another file than the directory's.
func (p plain) strange(l []api.File) bool {
	return len(l) != 1+len(p.m.Segs)+min(p.m.Snap.Seq, 1)
}

// kept is the files that a directory names.
func (p plain) kept() map[string]bool {
	kept := map[string]bool{"M": true}
	if p.m.Snap.Seq != 0 {
		kept[nameOf("p", p.m.Snap.Seq, p.m.Snap.Fmt)] = true
	}
	for _, s := range p.m.Segs {
		kept[nameOf("s", s.Seq, s.Fmt)] = true
	}
	return kept
}

// behind is the disk with those bytes behind the ones of the last segment's safe file.
func (p plain) behind(d api.Disk, tail ...byte) api.Disk {
	d = disk.Own(d)
	s := p.m.Segs[len(p.m.Segs)-1]
	for i, x := range d.Files {
		if x.Name == nameOf("s", s.Seq, s.Fmt) {
			d.Files[i].Bytes = append(x.Bytes, tail...)
		}
	}
	return d
}

// waiting are disks of that directory of which not all is safe.
func (p plain) waiting(d api.Disk) []api.Disk {
	made := disk.Own(d)
	made.Queue = []api.Op{op(api.OpCreate, "x", "")}
	none := disk.Own(made)
	none.Queue = append(none.Queue, op(api.OpAppend, "x", "", 1, 2), op(api.OpRemove, "x", ""))
	moved := disk.Own(made)
	moved.Queue = append(moved.Queue, op(api.OpRename, "x", "M.new"))
	late := disk.Own(d)
	last := late.Files[len(late.Files)-1]
	late.Files = late.Files[:len(late.Files)-1]
	half := len(last.Bytes) / 2
	late.Queue = []api.Op{op(api.OpCreate, last.Name, ""), op(api.OpAppend, last.Name, "", last.Bytes[:half]...), op(api.OpAppend, last.Name, "", last.Bytes[half:]...)}
	over := disk.Own(d)
	over.Files[len(over.Files)-1].Bytes = []byte{9, 9, 9}
	over.Queue = late.Queue
	return []api.Disk{made, none, moved, late, over}
}

// isOpen tells whether the last segment is open.
func (p plain) isOpen() bool {
	return len(p.m.Segs) > 0 && p.m.Segs[len(p.m.Segs)-1].Count == -1
}

// ident is what a file's name says.
func ident(kind uint8, seq, fmt int) api.Ident {
	return api.Ident{Kind: kind, Seq: seq, Fmt: fmt}
}

// parts are the idents of a manifest's things, in order.
func parts(m api.Manifest) []api.Ident {
	var l []api.Ident
	if m.Snap.Seq != 0 {
		l = append(l, ident(4, m.Snap.Seq, m.Snap.Fmt))
	}
	for _, s := range m.Segs {
		l = append(l, ident(3, s.Seq, s.Fmt))
	}
	return l
}

// shadow is what the file of the directory's thing at that place is to say in a format.
func (p plain) shadow(at, fmt int) []byte {
	if p.m.Snap.Seq != 0 {
		if at == 0 {
			return sure(snap.Put(p.s, fmt))
		}
		at--
	}
	return sure(either.File(fmt, p.m.Segs[at].First, p.logs[at]...))
}

// formats are those that there are, and others.
var formats = []int{1, 2, 0, 3, -1, 1<<32 + 1, 1<<32 + 2, math.MinInt, math.MaxInt}

// turned is m with the first thing of that ident in a format.
func turned(m api.Manifest, x api.Ident, fmt int) api.Manifest {
	l := slices.Clone(m.Segs)
	m.Segs = l
	if m.Snap.Seq != 0 && x == ident(4, m.Snap.Seq, m.Snap.Fmt) {
		m.Snap.Fmt = fmt
		return m
	}
	for i, s := range l {
		if x == ident(3, s.Seq, s.Fmt) {
			l[i].Fmt = fmt
			return m
		}
	}
	return m
}

// count is how many things are in another format.
func (p plain) count(fmt int) int {
	many := 0
	for _, x := range parts(p.m) {
		if x.Fmt != fmt {
			many++
		}
	}
	return many
}

// other is the place of the first thing in another format, and what the shadow of it is called; -1, if there is none.
func (p plain) other(fmt int) (int, string) {
	for at, x := range parts(p.m) {
		if x.Fmt != fmt {
			return at, nameOf(map[uint8]string{3: "s", 4: "p"}[x.Kind], x.Seq, fmt)
		}
	}
	return -1, ""
}

// says tells whether there is a file that says just that.
func says(l []api.File, name string, b []byte) bool {
	return slices.ContainsFunc(l, func(x api.File) bool { return x.Name == name && bytes.Equal(x.Bytes, b) })
}

// byHand does what the chapter's words say of a step, operation by operation, on a disk of that directory, and tells the directory then.
func byHand(d api.Disk, p plain, fmt int) (api.Disk, plain, bool, api.Errno) {
	d = disk.Own(d)
	files := disk.Now(d)
	if fmt != 1 && fmt != 2 {
		return d, p, false, api.ErrArg
	}
	at, name := p.other(fmt)
	if at < 0 && !p.strange(files) {
		return d, p, true, api.OK
	}
	var e api.Errno
	switch {
	case at < 0:
		var l []api.Op
		for _, x := range files {
			if !p.kept()[x.Name] {
				l = append(l, op(api.OpRemove, x.Name, ""))
			}
		}
		d, e = run(d, append(l, sync)...)
	case says(files, name, p.shadow(at, fmt)):
		p.m = turned(p.m, parts(p.m)[at], fmt)
		d, e = run(d, swapping(p.m, files)...)
	default:
		d, e = run(d, writing(name, p.shadow(at, fmt))...)
	}
	return d, p, false, e
}

// step holds a Step of a disk with that directory against what is done by hand, and tells what came of it.
func step(t *testing.T, d api.Disk, p plain, fmt int) (api.Disk, plain, bool, api.Errno) {
	t.Helper()
	before := disk.Own(d)
	want, to, wantDone, wantE := byHand(d, p, fmt)
	got, done, e := Step(d, fmt)
	if e != wantE || done != wantDone || !disk.Same(got, want) {
		t.Fatal("to", fmt, "of", p, "with", d, "gave", got, done, e, "and not", want, wantDone, wantE)
	}
	if !disk.Same(d, before) {
		t.Fatal("what was handed in was changed")
	}
	if told, _, e := store.Load(got); e != api.OK || !tuple.Same(told, p.tuple()) {
		t.Fatal("to", fmt, "of", p, "the tuple is", told, e)
	}
	return got, to, done, e
}

// all takes all steps there are, each held against what is done by hand, and holds Run of them all against that.
func all(t *testing.T, d api.Disk, p plain, fmt int) (api.Disk, int, api.Errno) {
	t.Helper()
	at, many := disk.Own(d), 0
	for {
		x, to, done, e := step(t, at, p, fmt)
		at, p = x, to
		if !done {
			many++
		}
		if done || e != api.OK {
			got, did, ran := Run(d, fmt, 1000)
			if did != many || ran != e || !disk.Same(got, at) {
				t.Fatal("to", fmt, "with", d, "ran to", got, did, ran, "and not", at, many, e)
			}
			return at, many, e
		}
	}
}

// P18.1: Left is how many things are in another format, or -1; Done is whether that is 0, and no file is strange; Mixed, whether there are both.
func TestLeft(t *testing.T) {
	mixed, finished := 0, 0
	for i, p := range places() {
		d := p.disk(90000)
		all := append(p.waiting(d), d)
		dead := disk.Own(d)
		dead.Dead, dead.Quota, dead.Fuse = true, -1, -4
		all = append(all, dead)
		if p.isOpen() {
			all = append(all, p.behind(d, 7, 7))
		}
		for _, x := range all {
			before := disk.Own(x)
			for _, fmt := range formats {
				done := p.count(fmt) == 0 && !p.strange(disk.Now(x))
				if got := Left(x, fmt); got != p.count(fmt) || Done(x, fmt) != done {
					t.Error(i, fmt, "left", got, "done", !done)
				}
				if done {
					finished++
				}
			}
			both := p.count(1) > 0 && p.count(2) > 0
			if Mixed(x) != both {
				t.Error(i, "is mixed", !both)
			}
			if both {
				mixed++
			}
			if !disk.Same(x, before) {
				t.Fatal("what was handed in was changed")
			}
		}
	}
	if mixed < 20 || finished < 30 {
		t.Error("too few:", mixed, finished)
	}
	empty := sure(write.Init(99))
	for _, fmt := range formats {
		if Left(empty, fmt) != 0 || !Done(empty, fmt) || Mixed(empty) {
			t.Error("an empty directory has no things, of whatever format:", fmt)
		}
	}
	empty = sure(disk.Do(empty, op(api.OpCreate, "a", "")))
	if Left(empty, 2) != 0 || Done(empty, 2) {
		t.Error("a strange file now")
	}
	empty = sure(disk.Do(empty, op(api.OpRemove, "a", "")))
	if !Done(empty, 2) {
		t.Error("no strange file now")
	}
}

// P18.1: a shadow that is there already is none of the manifest's: it changes nothing but that it is one too many.
func TestLeftShadow(t *testing.T) {
	p := single(1, 3, -1)
	d := p.disk(900)
	x := sure(run(d, writing("s2.2", p.shadow(0, 2))...))
	if Left(x, 1) != 0 || Left(x, 2) != 1 || Done(x, 1) || Done(x, 2) || Mixed(x) || !Done(d, 1) {
		t.Error("what counts is the manifest alone")
	}
	x, done, e := Step(x, 1)
	if done || e != api.OK || !disk.Same(x, d) {
		t.Error("it is removed:", x, done, e)
	}
	if y, done, e := Step(x, 1); !done || e != api.OK || !disk.Same(y, d) {
		t.Error("it is done:", y, done, e)
	}
}

// unread are disks whose directories tell errors, and which.
func unread() map[api.Errno][]api.Disk {
	both := places()[12]
	wrong := both.disk(900)
	wrong.Files[0].Bytes[3]++
	gone := both.disk(900)
	gone.Queue = []api.Op{op(api.OpRemove, "s7.2", "")}
	short := single(2, 3, -1).disk(900)
	short.Files[1].Bytes = short.Files[1].Bytes[:1]
	dead := disk.Own(short)
	dead.Dead = true
	lost := single(1, 3, -1).disk(900)
	lost.Queue = []api.Op{op(api.OpRename, "M", "M.new")}
	return map[api.Errno][]api.Disk{
		api.ErrBroken: {wrong, gone, short, dead},
		api.ErrFile:   {{}, disk.New(90), {Dead: true}, {Quota: -1}, lost, {Files: []api.File{{Name: "M.new"}}, Quota: 9}},
	}
}

// P18.1, P18.2, P18.3: a directory that tells an error; a format that is none; with them nothing is done.
func TestErrors(t *testing.T) {
	check := func(what string, d api.Disk, fmt int, want api.Errno) {
		t.Helper()
		before := disk.Own(d)
		got, done, e := Step(d, fmt)
		ran, many, f := Run(d, fmt, 3)
		if e != want || f != want || done || many != 1 || !disk.Same(got, before) || !disk.Same(ran, before) {
			t.Error(what, fmt, done, many, e, f)
		}
		spoil(got)
		spoil(ran)
		if !disk.Same(d, before) {
			t.Fatal(what, "the answer shares memory with what was handed in")
		}
	}
	for e, l := range unread() {
		for i, d := range l {
			for _, fmt := range formats {
				check("a directory that tells an error "+strconv.Itoa(i), d, fmt, e)
				if Left(d, fmt) != -1 || Done(d, fmt) {
					t.Error(i, fmt, "of what tells", e)
				}
			}
			if Mixed(d) {
				t.Error(i, "it tells no tuple:", e)
			}
		}
	}
	for _, p := range places() {
		d := p.disk(90000)
		dead := p.disk(90000)
		dead.Dead = true
		wrong := p.disk(90000)
		wrong.Quota, wrong.Dead = 1, true
		for _, fmt := range formats[2:] {
			check("no format", d, fmt, api.ErrArg)
			check("no format, a dead disk", dead, fmt, api.ErrArg)
		}
		for fmt := 1; fmt <= 2; fmt++ {
			if p.count(fmt) == 0 && len(p.rest) == 0 {
				continue
			}
			check("a dead disk", dead, fmt, api.ErrDown)
			check("a dead disk that may not be", wrong, fmt, api.ErrArg)
		}
	}
	for _, d := range []api.Disk{{Quota: 1}, {Quota: 90, Dead: true}, {Quota: -1}} {
		d.Files = sure(write.Init(99)).Files
		for fmt := 1; fmt <= 2; fmt++ {
			got, done, e := Step(d, fmt)
			ran, many, f := Run(d, fmt, 3)
			if !done || many != 0 || e != api.OK || f != api.OK || !disk.Same(got, d) || !disk.Same(ran, d) {
				t.Error("what is done is so on any disk:", done, many, e, f)
			}
		}
	}
}

// P18.2, P18.3, P18.4: of directories of all kinds the steps are what the chapter's words say, operation by operation.
func TestSteps(t *testing.T) {
	for i, p := range places() {
		d := p.disk(90000)
		disks := append(p.waiting(d), d)
		if p.isOpen() {
			disks = append(disks, p.behind(d, 7, 7), p.behind(d, 0), p.behind(disks[0], bytes.Repeat([]byte{1}, 60)...))
		}
		if len(p.m.Segs) > 10 {
			disks = disks[len(disks)-1:] // enough of what takes long
		}
		for _, d := range disks {
			for fmt := 1; fmt <= 2; fmt++ {
				x, many, e := all(t, d, p, fmt)
				if e != api.OK || !Done(x, fmt) || Left(x, fmt) != 0 || Mixed(x) {
					t.Fatal(i, fmt, "ended with", e)
				}
				sweep := 0
				if p.count(fmt) == 0 && p.strange(disk.Now(d)) {
					sweep = 1 // else the last swap did so
				}
				if many != 2*p.count(fmt)+sweep {
					t.Fatal(i, fmt, "took", many)
				}
				if len(disk.Now(x)) != len(parts(p.m))+1 {
					t.Fatal(i, fmt, "too many files", x)
				}
				y, _, e := all(t, x, p.wholly(fmt), 3-fmt)
				if e != api.OK || !Done(y, 3-fmt) {
					t.Fatal(i, fmt, "and back:", e)
				}
			}
		}
	}
}

// wholly is the directory with all things in one format.
func (p plain) wholly(fmt int) plain {
	for _, x := range parts(p.m) {
		p.m = turned(p.m, x, fmt)
	}
	return p
}

// P18.2: a shadow that is there, but does not say just that, is written again; one that does, is not.
func TestShadows(t *testing.T) {
	for i, p := range places() {
		for fmt := 1; fmt <= 2; fmt++ {
			at, name := p.other(fmt)
			if at < 0 {
				continue
			}
			whole := p.shadow(at, fmt)
			wrong := slices.Clone(whole)
			wrong[len(wrong)-1]++
			sayings := [][]byte{whole, nil, whole[:1], whole[:len(whole)-1], append(slices.Clone(whole), 0), wrong, slices.Concat(whole, whole)}
			if len(p.m.Segs) > 10 {
				sayings = sayings[:1] // enough of what takes long
			}
			for _, b := range sayings {
				d := p.disk(90000)
				x := sure(run(d, writing(name, b)...))
				_, many, e := all(t, x, p, fmt)
				late := sure(run(d, writing(name, b)[:2]...)) // not all of it safe
				_, later, f := all(t, late, p, fmt)
				want := 2 * p.count(fmt)
				if bytes.Equal(b, whole) {
					want--
				}
				if e != api.OK || f != api.OK || many != want || later != want {
					t.Fatal(i, fmt, b, "took", many, later, e, f)
				}
			}
		}
	}
}

// P18.2: what a step is, told one by one.
func TestOneByOne(t *testing.T) {
	p := places()[12] // Next 9; p6.1, s7.2, s8.1, open; others beside them
	d := p.disk(900)
	called := func(d api.Disk) []string {
		var l []string
		for _, x := range disk.Now(d) {
			l = append(l, x.Name)
		}
		return l
	}
	var names [][]string
	for {
		x, done, e := Step(d, 2)
		if e != api.OK {
			t.Fatal(e)
		}
		if done {
			break
		}
		d = x
		names = append(names, called(d))
	}
	want := [][]string{
		{"M", "M.new", "a", "p6.1", "p6.2", "p9.1", "p9.2", "s7.2", "s8.1", "s9.1", "s9.2"},
		{"M", "p6.2", "s7.2", "s8.1"},
		{"M", "p6.2", "s7.2", "s8.1", "s8.2"},
		{"M", "p6.2", "s7.2", "s8.2"},
	}
	if !slices.EqualFunc(names, want, slices.Equal) {
		t.Error(names)
	}
	_, m, _ := store.Load(d)
	if m.Next != 9 || m.Snap != (api.Ref{Seq: 6, Fmt: 2}) || !slices.Equal(m.Segs, []api.Seg{{Seq: 7, Fmt: 2, First: 5, Count: 4}, {Seq: 8, Fmt: 2, First: 9, Count: -1}}) {
		t.Error(m)
	}
	if d, done, e := Step(sure(write.Init(99)), 2); !done || e != api.OK || !disk.Same(d, sure(write.Init(99))) {
		t.Error("an empty directory is done:", e)
	}
	if _, done, e := Step(disk.New(99), 2); done || e != api.ErrFile {
		t.Error("no directory:", e)
	}
}

// P18.3: at most n steps, at most 1000; below 0 none.
func TestRun(t *testing.T) {
	for i, p := range places() {
		d := p.disk(90000)
		for fmt := 1; fmt <= 2; fmt++ {
			_, whole, _ := all(t, d, p, fmt)
			at, is := disk.Own(d), p
			for n := range whole + 3 {
				if n < 6 || n%13 == 0 || n >= whole-1 {
					got, many, e := Run(d, fmt, n)
					if e != api.OK || many != min(n, whole) || !disk.Same(got, at) {
						t.Fatal(i, fmt, n, "ran", many, e)
					}
				}
				at, is, _, _ = byHand(at, is, fmt)
			}
			for _, n := range []int{0, -1, -1000, -1<<32 + 5, math.MinInt} {
				if got, many, e := Run(d, fmt, n); e != api.OK || many != 0 || !disk.Same(got, d) {
					t.Fatal(i, fmt, n, "ran", many, e)
				}
			}
			for _, n := range []int{999, 1000, 1001, 1 << 32, math.MaxInt} {
				if got, many, e := Run(d, fmt, n); e != api.OK || many != whole || !disk.Same(got, at) {
					t.Fatal(i, fmt, n, "ran", many, e)
				}
			}
		}
	}
	for e, l := range unread() {
		for _, d := range l {
			if got, many, f := Run(d, 2, 0); f != api.OK || many != 0 || !disk.Same(got, d) {
				t.Error("no step tells no error:", many, f)
			}
			if got, many, f := Run(d, 2, 1); f != e || many != 1 || !disk.Same(got, d) {
				t.Error("one step tells it:", many, f)
			}
		}
	}
	if _, many, e := Run(single(1, 1, -1).disk(90), 7, -1); many != 0 || e != api.OK {
		t.Error("no step of a format that is none:", many, e)
	}
}

// P18.2, P18.3: at the disk's first error nothing more is done, and what is done stays: of every fuse, every quota, queues all but full.
func TestDiskErrors(t *testing.T) {
	told := map[api.Errno]int{}
	for _, p := range places() {
		if len(p.m.Segs) > 10 {
			continue
		}
		d := p.disk(90000)
		disks := append(p.waiting(d), d)
		if p.isOpen() {
			disks = append(disks, p.behind(d, 1))
		}
		for _, w := range disks {
			for fmt := 1; fmt <= 2; fmt++ {
				for fuse := range 30 {
					w.Fuse = fuse
					_, _, e := all(t, w, p, fmt)
					told[e]++
				}
				w.Fuse = 0
				used := disk.Used(d)
				for quota := used - 1; quota < used+130; quota += 3 {
					w.Quota = quota
					_, _, e := all(t, w, p, fmt)
					told[e]++
				}
				w.Quota = 90000
				for left := range 8 {
					w := disk.Own(w)
					w.Queue = append(slices.Repeat([]api.Op{op(api.OpCreate, "q", "")}, api.MaxQueue-left-len(w.Queue)), w.Queue...)
					_, _, e := all(t, w, p, fmt)
					told[e]++
				}
			}
		}
	}
	for _, e := range []api.Errno{api.OK, api.ErrArg, api.ErrDown, api.ErrFull} {
		if told[e] < 20 {
			t.Error("too few of a kind:", told)
		}
	}
}

// P18.2, P18.3: what is told is in memory of its own.
func TestMemory(t *testing.T) {
	for i, p := range places() {
		d := p.disk(90000)
		for _, d := range append(p.waiting(d), d) {
			before := disk.Own(d)
			for fmt := 1; fmt <= 3; fmt++ {
				for n := range 4 {
					one, _, _ := Step(d, fmt)
					got, _, _ := Run(d, fmt, n)
					again, _, _ := Run(d, fmt, n)
					whole := disk.Own(again)
					spoil(one)
					spoil(got)
					if !disk.Same(again, whole) {
						t.Fatal(i, "answers share memory")
					}
					spoil(again)
					if !disk.Same(d, before) {
						t.Fatal(i, "what was handed in was changed, or is shared")
					}
				}
			}
		}
	}
	p := single(1, 3, -1)
	d := p.disk(900)
	roomy := disk.Own(d)
	roomy.Queue = make([]api.Op, 0, 9)
	roomy.Files = append(make([]api.File, 0, 9), roomy.Files...)
	Run(roomy, 2, 5)
	if room := roomy.Queue[:9]; slices.ContainsFunc(room, func(o api.Op) bool { return o.Kind != 0 }) {
		t.Error("spare room was changed")
	}
	if room := roomy.Files[:9][len(d.Files):]; slices.ContainsFunc(room, func(x api.File) bool { return x.Name != "" }) {
		t.Error("spare room was changed")
	}
}

// broken are the disks behind a Run that is broken off at every operation, and a crash, wherever it strikes.
func broken(d api.Disk, fmt int) []api.Disk {
	var l []api.Disk
	for fuse := 1; ; fuse++ {
		d := disk.Own(d)
		d.Fuse = fuse
		d, _, e := Run(d, fmt, 1000)
		l = append(l, crashes(d)...)
		if e == api.OK && d.Fuse > 0 {
			return l
		}
	}
}

// P18.4: broken off, and crashed, wherever that strikes, and once more the other way, the tuple stays, and the way can be gone to its end.
func TestCrash(t *testing.T) {
	for i, p := range places() {
		if len(p.m.Segs) > 10 {
			continue
		}
		d := p.disk(90000)
		if p.isOpen() {
			d = p.behind(d, 1, 2, 3)
		}
		for fmt := 1; fmt <= 2; fmt++ {
			left := p.count(fmt)
			for _, x := range broken(d, fmt) {
				told, _, e := store.Load(x)
				now := Left(x, fmt)
				if e != api.OK || !tuple.Same(told, p.tuple()) || now > left || now < 0 {
					t.Fatal(i, told, now, e)
				}
				y, many, e := Run(x, fmt, 2*now)
				if e != api.OK || many > 2*now || Left(y, fmt) != 0 {
					t.Fatal(i, fmt, "twice as many are enough:", many, e)
				}
				y, many, e = Run(y, fmt, 1)
				if e != api.OK || many > 1 || !Done(y, fmt) || len(disk.Now(y)) != len(parts(p.m))+1 {
					t.Fatal(i, fmt, "and one:", many, e)
				}
			}
			for at, x := range broken(d, fmt) {
				if at%7 != 0 || left > 3 {
					continue
				}
				for _, y := range broken(x, 3-fmt) {
					if told, _, e := store.Load(y); e != api.OK || !tuple.Same(told, p.tuple()) {
						t.Fatal(i, told, e)
					}
				}
			}
		}
	}
}

// P18.4: walks of many calls, to and fro, with crashes: the tuple stays as it was ahead of the steps.
func TestWalk(t *testing.T) {
	r := rand.New(rand.NewSource(18))
	did, failed := 0, 0
	for range 300 {
		d := sure(write.Init(100000))
		d = sure(cut.Hard(d, 3, 1))
		for range 20 {
			now, _, _ := store.Load(d)
			fmt := 1 + r.Intn(2)
			switch r.Intn(4) {
			case 0:
				s, _ := tuple.State(now, now.Snap.Index+r.Intn(len(now.Log)+1))
				d, _ = cut.Save(d, s, fmt)
			case 1:
				d, _ = cut.Cut(d, now.Snap.Index+1+r.Intn(len(now.Log)+1), fmt)
			default:
				if len(now.Log) < 100 {
					d.Fuse = r.Intn(6)
					d, _ = write.Append(d, fmt, row(3, 1+r.Intn(6))...)
				}
			}
			d = disk.Crash(d, r.Intn(3), r.Intn(15))
			want, _, e := store.Load(d)
			if e != api.OK {
				t.Fatal(e)
			}
			for range r.Intn(4) {
				d.Fuse = r.Intn(14)
				var many int
				d, many, e = Run(d, 1+r.Intn(2), r.Intn(8))
				did += many
				if e != api.OK {
					failed++
				}
				if r.Intn(2) == 0 || d.Dead {
					d = disk.Crash(d, r.Intn(5), r.Intn(40))
				}
				if told, _, e := store.Load(d); e != api.OK || !tuple.Same(told, want) {
					t.Fatal(told, e, "and not", want)
				}
			}
			d.Fuse = 0
			got, told, e := revive.Start(d, 2)
			if e != api.OK || !tuple.Same(told, want) {
				t.Fatal(told, e, "and not", want)
			}
			d = got
		}
	}
	if did < 1000 || failed < 300 {
		t.Error("too few:", did, failed)
	}
}
