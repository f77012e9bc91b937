package write

import (
	"bytes"
	"math"
	"math/rand"
	"reflect"
	"slices"
	"strconv"
	"testing"

	"moult/api"
	"moult/disk"
	"moult/either"
	"moult/manifest"
	"moult/snap"
	"moult/store"
	"moult/tuple"
)

const top = 1073741824 // MaxNumber

// value is an entry of that term, and a value.
func value(term, v int) api.Entry {
	return api.Entry{Term: term, Kind: api.EnData, Value: v}
}

// row is so many entries, all of that term, none like another.
func row(term, many int) []api.Entry {
	var l []api.Entry
	for i := range many {
		l = append(l, value(term, i))
	}
	return l
}

// sure is what a call told with OK.
func sure[T any](x T, e api.Errno) T {
	if e != api.OK {
		panic(e)
	}
	return x
}

// nameOf is what a file with a number is called.
func nameOf(letter string, seq, fmt int) string {
	return letter + strconv.Itoa(seq) + "." + strconv.Itoa(fmt)
}

// plain is a directory in parts: the manifest, the snapshot's state, each segment's entries, what else there is.
type plain struct {
	m    api.Manifest
	s    api.State
	logs [][]api.Entry
	rest []api.File
}

// own is the directory in memory of its own.
func (p plain) own() plain {
	p.m = manifest.Own(p.m)
	p.logs = slices.Clone(p.logs)
	for i := range p.logs {
		p.logs[i] = slices.Clone(p.logs[i])
	}
	return p
}

// tuple is what the directory tells.
func (p plain) tuple() api.Tuple {
	t := api.Tuple{Snap: api.State{Level: 1}, Term: p.m.Term, Vote: p.m.Vote}
	if p.m.Snap.Seq > 0 {
		t.Snap = p.s
	}
	for i, s := range p.m.Segs {
		for j, x := range p.logs[i] {
			if s.First+j > t.Snap.Index {
				t.Log = append(t.Log, x)
			}
		}
	}
	return t
}

// disk is one with the directory's files, all safe.
func (p plain) disk(quota int) api.Disk {
	l := append([]api.File{{Name: "M", Bytes: sure(manifest.Put(p.m))}}, p.rest...)
	if p.m.Snap.Seq != 0 {
		l = append(l, api.File{Name: nameOf("p", p.m.Snap.Seq, p.m.Snap.Fmt), Bytes: sure(snap.Put(p.s, p.m.Snap.Fmt))})
	}
	for i, s := range p.m.Segs {
		l = append(l, api.File{Name: nameOf("s", s.Seq, s.Fmt), Bytes: sure(either.File(s.Fmt, s.First, p.logs[i]...))})
	}
	slices.SortFunc(l, func(a, b api.File) int { return bytes.Compare([]byte(a.Name), []byte(b.Name)) })
	return api.Disk{Files: l, Quota: quota}
}

// single is a directory of one segment of so many entries.
func single(fmt, many, count int) plain {
	return plain{m: api.Manifest{Next: 4, Term: 9, Vote: 1, Segs: []api.Seg{{Seq: 2, Fmt: fmt, First: 1, Count: count}}}, logs: [][]api.Entry{row(3, many)}}
}

// small is a directory of so many closed segments of one entry each.
func small(many int) plain {
	p := plain{m: api.Manifest{Next: 100, Term: 9}}
	for i := range many {
		p.m.Segs = append(p.m.Segs, api.Seg{Seq: 99 - i, Fmt: 1 + i%2, First: i + 1, Count: 1})
		p.logs = append(p.logs, row(3, 1))
	}
	return p
}

// high is the highest state of which a tuple may be.
var high = api.State{Index: top - 1000, Term: 2, Sum: 5, Level: 2}

// places are directories of all kinds.
func places() []plain {
	var full plain
	full.m = api.Manifest{Next: 51, Term: 9}
	for i := range 50 {
		full.m.Segs = append(full.m.Segs, api.Seg{Seq: 50 - i, Fmt: 1 + i%2, First: 1 + 4*i, Count: 4})
		full.logs = append(full.logs, row(1, 4))
	}
	full.m.Segs[49].Count, full.logs[49] = -1, row(1, 1)
	s := api.State{Index: 5, Term: 2, Sum: 5, Level: 2}
	two := [][]api.Entry{row(2, 4), row(3, 2)}
	stray := []api.File{{Name: "M.new", Bytes: []byte{1}}, {Name: "a"}, {Name: "s9.1", Bytes: []byte{7}}, {Name: "s9.2", Bytes: []byte{7}}}
	return []plain{
		{m: api.Manifest{Next: 1, Term: 9}},
		{m: api.Manifest{Next: 9, Term: 9, Vote: 5, Snap: api.Ref{Seq: 3, Fmt: 1}}, s: s, rest: stray},
		single(1, 1, -1), single(1, 3, -1), single(1, 4, -1), single(1, 2, 2), single(1, 4, 4),
		single(2, 1, -1), single(2, 2, -1), single(2, 4, -1), single(2, 3, 3), single(2, 4, 4),
		{m: api.Manifest{Next: 9, Term: 9, Vote: 1, Snap: api.Ref{Seq: 6, Fmt: 1}, Segs: []api.Seg{{Seq: 7, Fmt: 2, First: 5, Count: 4}, {Seq: 8, Fmt: 1, First: 9, Count: -1}}}, s: s, logs: two, rest: stray},
		{m: api.Manifest{Next: 9, Term: 9, Snap: api.Ref{Seq: 6, Fmt: 2}, Segs: []api.Seg{{Seq: 7, Fmt: 1, First: 2, Count: 4}, {Seq: 8, Fmt: 2, First: 6, Count: -1}}}, s: s, logs: two},
		small(58), small(59), small(60),
		{m: api.Manifest{Next: top - 1, Term: 9}}, {m: api.Manifest{Next: top, Term: 9}},
		{m: api.Manifest{Next: top, Term: 9, Segs: []api.Seg{{Seq: 2, Fmt: 1, First: 1, Count: -1}}}, logs: [][]api.Entry{row(2, 2)}},
		{m: api.Manifest{Next: 4, Term: top, Snap: api.Ref{Seq: 3, Fmt: 2}}, s: high},
		full,
	}
}

// op is an operation.
func op(kind uint8, name, to string, b ...byte) api.Op {
	return api.Op{Kind: kind, Name: name, To: to, Bytes: b}
}

// sync stands for a sync among operations.
var sync = api.Op{Kind: 99}

// run does operations, up to the first error.
func run(d api.Disk, l ...api.Op) (api.Disk, api.Errno) {
	d = disk.Own(d)
	for _, o := range l {
		var e api.Errno
		if o.Kind == sync.Kind {
			d, e = disk.Sync(d)
		} else {
			d, e = disk.Do(d, o)
		}
		if e != api.OK {
			return d, e
		}
	}
	return d, api.OK
}

// written is the operations that write a file.
func written(name string, b []byte) []api.Op {
	return []api.Op{op(api.OpCreate, name, ""), op(api.OpAppend, name, "", b...), sync}
}

// swapped is the operations of a swap to m on a disk with those files.
func swapped(m api.Manifest, l []api.File) []api.Op {
	kept := map[string]bool{"M": true, nameOf("p", m.Snap.Seq, m.Snap.Fmt): m.Snap.Seq != 0}
	for _, s := range m.Segs {
		kept[nameOf("s", s.Seq, s.Fmt)] = true
	}
	ops := append(written("M.new", sure(manifest.Put(m))), op(api.OpRename, "M.new", "M"), sync)
	for _, x := range l {
		if !kept[x.Name] && x.Name != "M.new" { // that one has another name then
			ops = append(ops, op(api.OpRemove, x.Name, ""))
		}
	}
	return ops
}

// byHand puts the first parts of the entries by the chapter's words, operation by operation, on a disk of that directory; how many entries the parts have that were put.
func byHand(d api.Disk, p plain, fmt, most int, l []api.Entry) (api.Disk, int, api.Errno) {
	d, p = disk.Own(d), p.own()
	put := 0
	for ; most > 0 && len(l) > 0; most-- {
		last := len(p.m.Segs) - 1
		open := last >= 0 && p.m.Segs[last].Count == -1
		part := l[:min(4, len(l))]
		var e api.Errno
		if open && p.m.Segs[last].Fmt == fmt && len(p.logs[last]) < 4 {
			part = l[:min(4-len(p.logs[last]), len(l))]
			name := nameOf("s", p.m.Segs[last].Seq, fmt)
			more, wrong := either.More(sure(disk.Read(d, name)), fmt, part...)
			if wrong != api.OK {
				return d, put, api.ErrBroken
			}
			d, e = run(d, op(api.OpAppend, name, "", more...), sync)
			p.logs[last] = append(p.logs[last], part...)
		} else {
			if open {
				p.m.Segs[last].Count = len(p.logs[last])
			}
			t := p.tuple()
			s := api.Seg{Seq: p.m.Next, Fmt: fmt, First: t.Snap.Index + len(t.Log) + 1, Count: -1}
			p.m.Segs = append(p.m.Segs, s)
			p.m.Next++
			if manifest.Check(p.m) != api.OK {
				return d, put, api.ErrArg
			}
			d, e = run(d, written(nameOf("s", s.Seq, fmt), sure(either.File(fmt, s.First, part...)))...)
			if e == api.OK {
				d, e = run(d, swapped(p.m, disk.Now(d))...)
			}
			p.logs = append(p.logs, part)
		}
		if e != api.OK {
			return d, put, e
		}
		put += len(part)
		l = l[len(part):]
	}
	return d, put, api.OK
}

// P14.1: Init is an empty disk with a manifest, and no more, or as far as it comes.
func TestInit(t *testing.T) {
	for _, quota := range []int{math.MinInt, -1, 0, 1, 5, 9, 10, 11, 12, 20, 1000, top, math.MaxInt} {
		want, wantE := run(disk.New(quota), swapped(api.Manifest{Next: 1}, nil)...)
		d, e := Init(quota)
		if e != wantE || !disk.Same(d, want) {
			t.Error(quota, d, e, "and not", want, wantE)
		}
		if x, m, f := store.Load(d); e == api.OK && (f != api.OK || !tuple.Same(x, tuple.First()) || !manifest.Same(m, api.Manifest{Next: 1}) || len(d.Queue) != 0 || len(d.Files) != 1) {
			t.Error(quota, x, m, f)
		}
	}
	if d, e := Init(10); e != api.ErrFull || len(d.Queue) != 1 || d.Quota != 10 {
		t.Error("one byte too few:", d, e)
	}
	if d, e := Init(11); e != api.OK || disk.Used(d) != 11 {
		t.Error("just enough:", d, e)
	}
	one, _ := Init(50)
	two, _ := Init(50)
	one.Files[0].Bytes[0] = 9
	if two.Files[0].Bytes[0] != 77 {
		t.Error("two answers share memory")
	}
}

// P14.1: Room is what the open segment lacks, of its format alone.
func TestRoom(t *testing.T) {
	for i, p := range places() {
		d := p.disk(9000)
		for _, fmt := range []int{math.MinInt, -1, 0, 1, 2, 3, 1<<32 + 1, 1<<32 + 2, math.MaxInt} {
			want := 0
			if last := len(p.m.Segs) - 1; last >= 0 && p.m.Segs[last] == (api.Seg{Seq: p.m.Segs[last].Seq, Fmt: fmt, First: p.m.Segs[last].First, Count: -1}) {
				want = 4 - len(p.logs[last])
			}
			before := disk.Own(d)
			if got := Room(d, fmt); got != want || !disk.Same(d, before) {
				t.Error(i, fmt, got, "and not", want)
			}
		}
	}
	if Room(single(2, 1, -1).disk(0), 2) != 3 || Room(single(1, 3, -1).disk(900), 1) != 1 {
		t.Error("the room of those with one and three entries")
	}
	d := single(1, 3, -1).disk(900)
	d.Dead, d.Fuse, d.Quota = true, -5, -7
	if Room(d, 1) != 1 {
		t.Error("the files tell it, whatever the disk")
	}
	d = single(1, 2, -1).disk(900)
	d.Files[1].Bytes = append(d.Files[1].Bytes, 0, 0)
	if Room(d, 1) != 2 {
		t.Error("what stands behind the entries is no entry")
	}
	d.Queue = []api.Op{op(api.OpAppend, "s2.1", "", 0)}
	if Room(d, 1) != 2 {
		t.Error("bytes in the queue are none either")
	}
	d = single(1, 2, -1).disk(900)
	d.Queue = []api.Op{op(api.OpAppend, "s2.1", "", sure(either.More(d.Files[1].Bytes, 1, value(4, 4)))...)}
	if Room(d, 1) != 1 {
		t.Error("an entry in the queue is one")
	}
	d.Queue = append(d.Queue, op(api.OpRemove, "M", ""))
	if Room(d, 1) != 0 || Room(api.Disk{}, 1) != 0 {
		t.Error("there is no manifest")
	}
	d = single(1, 2, -1).disk(900)
	d.Files[0].Bytes[0]++
	if Room(d, 1) != 0 {
		t.Error("the manifest is none")
	}
	broken := single(1, 2, -1)
	broken.logs[0][1].Term = 10
	if Room(broken.disk(900), 1) != 0 {
		t.Error("the directory tells an error")
	}
}

// P14.1: Parts are as few as can be, the first one as great as the room.
func TestParts(t *testing.T) {
	for _, x := range []struct {
		room, many int
		want       []int
	}{
		{1, 6, []int{1, 4, 1}}, {0, 6, []int{4, 2}}, {-1, 8, []int{4, 4}}, {3, 2, []int{2}}, {3, 3, []int{3}}, {2, 3, []int{2, 1}},
		{4, 9, []int{4, 4, 1}}, {5, 9, []int{4, 4, 1}}, {0, 1, []int{1}}, {2, 0, nil}, {2, -1, nil}, {0, math.MinInt, nil}, {0, 0, nil},
		{math.MinInt, 5, []int{4, 1}}, {math.MaxInt, 5, []int{4, 1}}, {1<<32 + 1, 5, []int{4, 1}}, {-1<<32 + 1, 5, []int{4, 1}}, {1, 4, []int{1, 3}},
		{math.MinInt, math.MinInt, nil}, {1, -1<<32 + 1, nil},
	} {
		if got := Parts(x.room, x.many); !slices.Equal(got, x.want) {
			t.Error(x.room, x.many, got)
		}
	}
	for room := -6; room < 10; room++ {
		for many := -6; many < 220; many++ {
			first := min(room, 4)
			if room <= 0 {
				first = 4
			}
			first = max(0, min(first, many))
			got := Parts(room, many)
			sum := 0
			for i, n := range got {
				if n < 1 || n > 4 || i == 0 && n != first || i > 0 && i < len(got)-1 && n != 4 {
					t.Fatal(room, many, got)
				}
				sum += n
			}
			if sum != max(many, 0) || len(got) != min(first, 1)+(max(many, 0)-first+3)/4 {
				t.Fatal(room, many, got)
			}
		}
	}
	if got := Parts(3, 1<<20); len(got) != 1<<18+1 || got[0] != 3 || got[1<<18] != 1 {
		t.Error("of very many:", len(got))
	}
}

// agrees holds Append and Part of a disk with that directory against what is done by hand.
func agrees(t *testing.T, d api.Disk, p plain, fmt int, l []api.Entry) api.Errno {
	t.Helper()
	before, handed := disk.Own(d), slices.Clone(l)
	want, _, wantE := byHand(d, p, fmt, 1000, l)
	got, e := Append(d, fmt, l...)
	if e != wantE || !disk.Same(got, want) {
		t.Fatal("Append of", len(l), "in", fmt, "behind", p, "with", d.Fuse, d.Quota, "gave", got, e, "and not", want, wantE)
	}
	want, wantN, wantF := byHand(d, p, fmt, 1, l)
	got, n, f := Part(d, fmt, l...)
	if f != wantF || n != wantN || !disk.Same(got, want) {
		t.Fatal("Part of", len(l), "in", fmt, "behind", p, "with", d.Fuse, d.Quota, "gave", got, n, f, "and not", want, wantN, wantF)
	}
	if !disk.Same(d, before) || !slices.Equal(l, handed) {
		t.Fatal("what was handed in was changed")
	}
	return e
}

// P14.2, P14.3: of directories of all kinds, and as many entries as they take, put as the chapter says.
func TestAppend(t *testing.T) {
	told := map[api.Errno]int{}
	for _, p := range places() {
		d := p.disk(100000)
		for _, fmt := range []int{1, 2} {
			for _, many := range []int{0, 1, 2, 3, 4, 5, 6, 7, 8, 9, 12, 13, 30} {
				l := row(9, many)
				if len(p.tuple().Log)+many > 200 {
					continue // see TestRefused
				}
				told[agrees(t, d, p, fmt, l)]++
				got, e := Append(d, fmt, l...)
				x, _, f := store.Load(got)
				tuple := p.tuple()
				tuple.Log = append(tuple.Log, l...)
				if e == api.OK && (f != api.OK || !reflect.DeepEqual(x, tuple) && len(tuple.Log) > 0) {
					t.Fatal(p, fmt, many, "tell", x, f)
				}
			}
		}
	}
	if told[api.OK] < 300 || told[api.ErrArg] < 10 {
		t.Error("too few of a kind:", told)
	}
	d, n, e := Part(single(1, 1, -1).disk(900), 1, row(9, 6)...)
	if x, _, _ := store.Load(d); e != api.OK || n != 3 || len(x.Log) != 4 {
		t.Error("the first part alone:", x, n, e)
	}
	d, n, e = Part(d, 1, row(9, 6)...)
	if x, m, _ := store.Load(d); e != api.OK || n != 4 || len(x.Log) != 8 || len(m.Segs) != 2 || m.Segs[0].Count != 4 {
		t.Error("the next one:", x, n, e)
	}
}

// P14.2: as many entries as a tuple may have, from none on, in either format, and in one part after another.
func TestAppendMany(t *testing.T) {
	for _, fmt := range []int{1, 2} {
		p := places()[0]
		if e := agrees(t, p.disk(100000), p, fmt, row(9, 200)); e != api.OK {
			t.Error(e)
		}
		d, _ := Append(p.disk(100000), fmt, row(9, 200)...)
		x, m, e := store.Load(d)
		if e != api.OK || len(x.Log) != 200 || len(m.Segs) != 50 || m.Next != 51 || m.Segs[49].Count != -1 || m.Segs[48].Count != 4 {
			t.Error(x, m, e)
		}
		if again, e := Append(d, fmt, value(9, 1)); e != api.ErrArg || !disk.Same(again, d) {
			t.Error("one entry too many:", e)
		}
	}
	p := small(59)
	d := p.disk(9000)
	if got, n, e := Part(d, 1, row(9, 5)...); n != 4 || e != api.OK || disk.Same(got, d) {
		t.Error("the sixtieth segment:", n, e)
	}
	got, e := Append(d, 1, row(9, 5)...)
	if x, m, f := store.Load(got); e != api.ErrArg || f != api.OK || len(x.Log) != 63 || len(m.Segs) != 60 {
		t.Error("what is done ahead of an error stays:", x, e, f)
	}
	if got, n, e := Part(got, 1, row(9, 5)...); n != 0 || e != api.ErrArg || len(got.Queue) != 0 || len(got.Files) != 61 {
		t.Error("there is no sixty-first one:", n, e)
	}
}

// P14.2, P14.3: what is refused changes nothing: a directory that tells an error, a format that is none, entries that cannot be appended.
func TestRefused(t *testing.T) {
	check := func(what string, d api.Disk, fmt int, l []api.Entry, want api.Errno) {
		t.Helper()
		before := disk.Own(d)
		got, e := Append(d, fmt, l...)
		part, n, f := Part(d, fmt, l...)
		if e != want || f != want || n != 0 || !disk.Same(got, before) || !disk.Same(part, before) || !disk.Same(d, before) {
			t.Error(what, e, f, n)
		}
	}
	rest := func(many int) []api.Entry { return row(9, many) }
	for _, p := range places() {
		d := p.disk(90000)
		for _, fmt := range []int{math.MinInt, -1, 0, 3, 1<<32 + 1, 1<<32 + 2, math.MaxInt} {
			check("a format that is none", d, fmt, rest(1), api.ErrArg)
			check("a format that is none, of no entries", d, fmt, nil, api.ErrArg)
		}
		for _, fmt := range []int{1, 2} {
			check("no entries", d, fmt, nil, api.OK)
			check("empty entries", d, fmt, []api.Entry{}, api.OK)
			low := p.m.Term
			wrong := []api.Entry{{Term: low + 1}, {Term: -1}, {Term: low, Kind: 5}, {Term: low, Kind: 1, Value: -1}, {Term: low, Kind: 1, Value: top + 1}, {Term: low, Kind: 0, Value: 1}, {Term: math.MaxInt}, {Term: 1<<32 + low}}
			if last, _ := tuple.TermAt(p.tuple(), tuple.Last(p.tuple())); last > 0 {
				wrong = append(wrong, api.Entry{Term: last - 1})
			}
			for _, x := range wrong {
				check("an entry that may not be", d, fmt, []api.Entry{x}, api.ErrArg)
				check("one behind others", d, fmt, append(slices.Repeat([]api.Entry{{Term: low}}, 5), x), api.ErrArg)
			}
			check("terms that fall", d, fmt, []api.Entry{{Term: low}, {Term: low - 1}}, api.ErrArg)
			check("terms that fall in the third part", d, fmt, append(slices.Repeat([]api.Entry{{Term: low}}, 11), api.Entry{Term: low - 1}), api.ErrArg)
			check("too many entries", d, fmt, slices.Repeat([]api.Entry{{Term: low}}, 201-len(p.tuple().Log)), api.ErrArg)
		}
	}
	for _, fmt := range []int{0, 1, 2} {
		for _, l := range [][]api.Entry{nil, rest(1), {{Term: -1}}} {
			check("no manifest", api.Disk{Quota: 900}, fmt, l, api.ErrFile)
			d := single(1, 2, -1).disk(900)
			d.Files[0].Bytes[3]++
			check("a manifest that is none", d, fmt, l, api.ErrBroken)
			d = single(1, 2, -1).disk(900)
			d.Files[1].Name = "s2.2"
			check("a file that is not there", d, fmt, l, api.ErrBroken)
			d = single(1, 2, -1).disk(900)
			d.Dead, d.Queue = true, []api.Op{op(api.OpRemove, "M", "")}
			check("a dead disk, no manifest now", d, fmt, l, api.ErrFile)
			check("a disk that may not be, no manifest", api.Disk{Quota: -1}, fmt, l, api.ErrFile)
		}
	}
	dead := single(1, 2, -1).disk(900)
	dead.Dead = true
	odd := single(1, 2, -1).disk(-1)
	for _, fmt := range []int{1, 2} {
		check("no entries for a dead disk", dead, fmt, nil, api.OK)
		check("a dead disk", dead, fmt, rest(1), api.ErrDown)
		check("entries that may not be, for a dead disk", dead, fmt, []api.Entry{{Term: -1}}, api.ErrArg)
		check("no entries for a disk that may not be", odd, fmt, nil, api.OK)
		check("a disk that may not be", odd, fmt, rest(1), api.ErrArg)
	}
}

// P14.2: with bytes behind the open segment's entries nothing is put there, but a new segment is, in the other format, or when there is no room.
func TestTorn(t *testing.T) {
	for _, fmt := range []int{1, 2} {
		for many := 1; many <= 4; many++ {
			p := single(fmt, many, -1)
			d := p.disk(900)
			whole := d.Files[1].Bytes
			more := sure(either.More(whole, fmt, value(9, 1)))
			for torn := 1; torn < len(more); torn++ {
				d.Files[1].Bytes = append(slices.Clone(whole), more[:torn]...)
				for _, to := range []int{1, 2} {
					e := agrees(t, d, p, to, row(9, 6))
					if want := to == fmt && many < 4; want != (e == api.ErrBroken) || !want && e != api.OK {
						t.Fatal(fmt, many, torn, to, e)
					}
				}
			}
			if got, e := Append(d, fmt); e != api.OK || !disk.Same(got, d) {
				t.Error("of no entries nothing is done:", e)
			}
		}
	}
}

// P14.2, P14.3: at the first error of the disk nothing more is done, and what is done stays: of every fuse, every quota, queues all but full.
func TestDiskErrors(t *testing.T) {
	told := map[api.Errno]int{}
	for i, p := range places() {
		if len(p.m.Segs) > 10 {
			continue
		}
		for _, fmt := range []int{1, 2} {
			l := row(9, 6)
			d := p.disk(90000)
			used := disk.Used(d)
			for fuse := range 28 {
				d.Fuse = fuse
				told[agrees(t, d, p, fmt, l)]++
			}
			for quota := used - 1; quota < used+240; quota += 1 + i%3 {
				told[agrees(t, p.disk(quota), p, fmt, l)]++
			}
			for left := range 12 {
				d := p.disk(90000)
				d.Queue = slices.Repeat([]api.Op{op(api.OpCreate, "q", "")}, api.MaxQueue-left)
				told[agrees(t, d, p, fmt, l)]++
			}
		}
	}
	for _, e := range []api.Errno{api.OK, api.ErrArg, api.ErrDown, api.ErrFull} {
		if told[e] < 10 {
			t.Error("too few of a kind:", told)
		}
	}
}

// spoil changes all that a disk holds.
func spoil(d api.Disk) {
	for i := range d.Files {
		for at := range d.Files[i].Bytes {
			d.Files[i].Bytes[at]++
		}
		d.Files[i].Name = "changed"
	}
	for i := range d.Queue {
		for at := range d.Queue[i].Bytes {
			d.Queue[i].Bytes[at]++
		}
		d.Queue[i].Name = "changed"
	}
}

// P14.1 to P14.3: disks that are told are in memory of their own, beside errors and where nothing is done, too; spare room stays as it is.
func TestMemory(t *testing.T) {
	spare := append(row(9, 6), row(8, 3)...)
	for i, p := range places() {
		d := p.disk(90000)
		if i%2 == 0 {
			d, _ = disk.Do(d, op(api.OpCreate, "q", ""))
			d, _ = disk.Do(d, op(api.OpAppend, "q", "", 1, 2))
		}
		dead := disk.Own(d)
		dead.Dead = true
		for _, d := range []api.Disk{d, dead, {Files: d.Files, Quota: -1}, {Quota: 9, Files: []api.File{{Name: "b", Bytes: []byte{1}}}}} {
			for _, fmt := range []int{1, 2, 3} {
				for _, l := range [][]api.Entry{nil, spare[:1], spare[:6], {{Term: -1}}} {
					before := disk.Own(d)
					got, _ := Append(d, fmt, l...)
					spoil(got)
					part, _, _ := Part(d, fmt, l...)
					spoil(part)
					if !disk.Same(d, before) || !slices.Equal(spare, append(row(9, 6), row(8, 3)...)) {
						t.Fatal(i, fmt, l, "what was handed in was changed, or is shared")
					}
				}
			}
		}
	}
	one, two := Parts(1, 6), Parts(1, 6)
	one[1] = 9
	if two[1] != 4 {
		t.Error("two answers share memory")
	}
}

// crashes are the disks behind a crash, wherever it strikes.
func crashes(d api.Disk) []api.Disk {
	var l []api.Disk
	for keep := range len(d.Queue) + 1 {
		torn := 0
		if keep < len(d.Queue) {
			torn = len(d.Queue[keep].Bytes)
		}
		for torn := range torn + 1 {
			l = append(l, disk.Crash(d, keep, torn))
		}
	}
	return l
}

// first is how many of the entries the tuple has behind those of old; -1: it is none of these.
func first(x, old api.Tuple, l []api.Entry) int {
	for many := range len(l) + 1 {
		to := tuple.Own(old)
		to.Log = append(to.Log, l[:many]...)
		if tuple.Same(x, to) {
			return many
		}
	}
	return -1
}

// P14.4: behind OK all entries are told, whatever crash comes; else, and behind a crash, the first few of them; the same in either format.
func TestCrash(t *testing.T) {
	for i, p := range places() {
		if len(p.m.Segs) > 10 {
			continue
		}
		for _, fmt := range []int{1, 2} {
			for _, many := range []int{1, 3, 6} {
				l := row(9, many)
				seen := map[int]bool{}
				for fuse := range 28 {
					d := p.disk(9000 + fuse)
					d.Fuse = fuse
					d, e := Append(d, fmt, l...)
					for _, c := range append(crashes(d), d) {
						x, _, f := store.Load(c)
						got := first(x, p.tuple(), l)
						if f != api.OK || got < 0 || e == api.OK && got < many {
							t.Fatal(i, fmt, many, fuse, e, c, "tells", x, f)
						}
						seen[got] = true
						if e == api.OK {
							continue
						}
						if again, e := Append(c, fmt, l[got:]...); e == api.OK {
							if x, _, f := store.Load(again); f != api.OK || first(x, p.tuple(), l) != many {
								t.Fatal(i, fmt, many, fuse, "the others behind", got, "tell", x, f)
							}
						}
					}
				}
				if p.m.Next < 100 && (!seen[0] || !seen[many]) {
					t.Error(i, fmt, many, "not both were seen:", seen)
				}
			}
		}
	}
}

// P14.4: walks of many appends, in either format by turns, with crashes: what was acknowledged stays, and the format makes no difference.
func TestWalk(t *testing.T) {
	r := rand.New(rand.NewSource(14))
	for range 150 {
		d, _ := Init(100000)
		d, _ = store.Swap(d, api.Manifest{Next: 1, Term: 3})
		want, _, _ := store.Load(d)
		plainly := want
		for range 12 {
			l := row(3, r.Intn(7))
			d.Fuse = r.Intn(40)
			next, e := Append(d, 1+r.Intn(2), l...)
			d = next
			if e != api.OK {
				d = disk.Crash(d, r.Intn(4), r.Intn(30))
			} else if r.Intn(2) == 0 {
				d = disk.Crash(d, 0, 0)
			}
			x, _, f := store.Load(d)
			many := first(x, want, l)
			if f != api.OK || many < 0 || e == api.OK && many < len(l) {
				t.Fatal("a walk tells", x, f, "behind", want, e)
			}
			var g api.Errno
			if plainly, g = tuple.Append(plainly, l[:many]...); g != api.OK || !tuple.Same(x, plainly) {
				t.Fatal("a walk tells another tuple than one without a disk:", x, plainly, g)
			}
			want = x
		}
	}
}
