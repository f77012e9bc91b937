package cut

import (
	"bytes"
	"math"
	"math/big"
	"math/rand"
	"slices"
	"strconv"
	"testing"

	"moult/api"
	"moult/disk"
	"moult/either"
	"moult/manifest"
	"moult/snap"
	"moult/store"
	"moult/tuple"
	"moult/write"
)

const top = 1073741824 // MaxNumber

// value is an entry of that term, and a value.
func value(term, v int) api.Entry {
	return api.Entry{Term: term, Kind: api.EnData, Value: v}
}

// row is so many entries, all of that term, none like another.
func row(term, many int) []api.Entry {
	var l []api.Entry
	for i := range many {
		l = append(l, value(term, i))
	}
	return l
}

// sure is what a call told with OK.
func sure[T any](x T, e api.Errno) T {
	if e != api.OK {
		panic(e)
	}
	return x
}

// nameOf is what a file with a number is called.
func nameOf(letter string, seq, fmt int) string {
	return letter + strconv.Itoa(seq) + "." + strconv.Itoa(fmt)
}

// plain is a directory in parts: the manifest, the snapshot's state, each segment's entries, what else there is.
type plain struct {
	m    api.Manifest
	s    api.State
	logs [][]api.Entry
	rest []api.File
}

// tuple is what the directory tells.
func (p plain) tuple() api.Tuple {
	t := api.Tuple{Snap: api.State{Level: 1}, Term: p.m.Term, Vote: p.m.Vote}
	if p.m.Snap.Seq > 0 {
		t.Snap = p.s
	}
	for i, s := range p.m.Segs {
		for j, x := range p.logs[i] {
			if s.First+j > t.Snap.Index {
				t.Log = append(t.Log, x)
			}
		}
	}
	return t
}

// disk is one with the directory's files, all safe.
func (p plain) disk(quota int) api.Disk {
	l := append([]api.File{{Name: "M", Bytes: sure(manifest.Put(p.m))}}, p.rest...)
	if p.m.Snap.Seq != 0 {
		l = append(l, api.File{Name: nameOf("p", p.m.Snap.Seq, p.m.Snap.Fmt), Bytes: sure(snap.Put(p.s, p.m.Snap.Fmt))})
	}
	for i, s := range p.m.Segs {
		l = append(l, api.File{Name: nameOf("s", s.Seq, s.Fmt), Bytes: sure(either.File(s.Fmt, s.First, p.logs[i]...))})
	}
	slices.SortFunc(l, func(a, b api.File) int { return bytes.Compare([]byte(a.Name), []byte(b.Name)) })
	return api.Disk{Files: l, Quota: quota}
}

// single is a directory of one segment of so many entries.
func single(fmt, many, count int) plain {
	return plain{m: api.Manifest{Next: 4, Term: 9, Vote: 1, Segs: []api.Seg{{Seq: 2, Fmt: fmt, First: 1, Count: count}}}, logs: [][]api.Entry{row(3, many)}}
}

// small is a directory of so many closed segments of one entry each.
func small(many int) plain {
	p := plain{m: api.Manifest{Next: 100, Term: 9}}
	for i := range many {
		p.m.Segs = append(p.m.Segs, api.Seg{Seq: 99 - i, Fmt: 1 + i%2, First: i + 1, Count: 1})
		p.logs = append(p.logs, row(3, 1))
	}
	return p
}

// high is the highest state of which a tuple may be.
var high = api.State{Index: top - 1000, Term: 2, Sum: 5, Level: 2}

// places are directories of all kinds.
func places() []plain {
	var full plain
	full.m = api.Manifest{Next: 51, Term: 9}
	for i := range 50 {
		full.m.Segs = append(full.m.Segs, api.Seg{Seq: 50 - i, Fmt: 1 + i%2, First: 1 + 4*i, Count: 4})
		full.logs = append(full.logs, row(1, 4))
	}
	full.m.Segs[49].Count, full.logs[49] = -1, row(1, 1)
	s := api.State{Index: 5, Term: 2, Sum: 5, Level: 2}
	two := [][]api.Entry{row(2, 4), row(3, 2)}
	// Entries that the snapshot has are no tuple's: their terms may be any.
	elder := [][]api.Entry{row(7, 2), row(6, 1), row(8, 1), append(row(9, 1), row(3, 2)...), row(3, 1), row(4, 3)}
	segs := []api.Seg{{Seq: 4, Fmt: 2, First: 1, Count: 2}, {Seq: 12, Fmt: 1, First: 3, Count: 1}, {Seq: 1, Fmt: 2, First: 4, Count: 1}, {Seq: 9, Fmt: 2, First: 5, Count: 3}, {Seq: 7, Fmt: 1, First: 8, Count: 1}, {Seq: 8, Fmt: 2, First: 9, Count: -1}}
	stray := []api.File{{Name: "M.new", Bytes: []byte{1}}, {Name: "a"}, {Name: "p9.1", Bytes: []byte{6, 6}}, {Name: "p9.2"}, {Name: "s9.1", Bytes: []byte{7}}, {Name: "s9.2", Bytes: []byte{7}}}
	return []plain{
		{m: api.Manifest{Next: 1, Term: 9}},
		{m: api.Manifest{Next: 9, Term: 9, Vote: 5, Snap: api.Ref{Seq: 3, Fmt: 1}}, s: s, rest: stray},
		single(1, 1, -1), single(1, 3, -1), single(1, 4, -1), single(1, 2, 2), single(1, 4, 4),
		single(2, 1, -1), single(2, 2, -1), single(2, 4, -1), single(2, 3, 3), single(2, 4, 4),
		{m: api.Manifest{Next: 9, Term: 9, Vote: 1, Snap: api.Ref{Seq: 6, Fmt: 1}, Segs: []api.Seg{{Seq: 7, Fmt: 2, First: 5, Count: 4}, {Seq: 8, Fmt: 1, First: 9, Count: -1}}}, s: s, logs: two, rest: stray},
		{m: api.Manifest{Next: 9, Term: 9, Snap: api.Ref{Seq: 6, Fmt: 2}, Segs: []api.Seg{{Seq: 7, Fmt: 1, First: 2, Count: 4}, {Seq: 8, Fmt: 2, First: 6, Count: -1}}}, s: s, logs: two},
		{m: api.Manifest{Next: 13, Term: 9, Vote: 3, Snap: api.Ref{Seq: 6, Fmt: 2}, Segs: segs}, s: s, logs: elder},
		{m: api.Manifest{Next: 13, Term: 9, Vote: 3, Snap: api.Ref{Seq: 6, Fmt: 2}, Segs: segs[2:5]}, s: s, logs: elder[2:5]},
		small(59), small(60),
		{m: api.Manifest{Next: top - 1, Term: 9, Segs: []api.Seg{{Seq: 2, Fmt: 1, First: 1, Count: -1}}}, logs: [][]api.Entry{row(2, 2)}},
		{m: api.Manifest{Next: top, Term: top, Segs: []api.Seg{{Seq: 2, Fmt: 2, First: 1, Count: 2}, {Seq: 3, Fmt: 1, First: 3, Count: -1}}}, logs: [][]api.Entry{row(2, 2), row(2, 2)}},
		{m: api.Manifest{Next: 4, Term: top, Snap: api.Ref{Seq: 3, Fmt: 2}}, s: high},
		{m: api.Manifest{Next: 4, Term: 9, Snap: api.Ref{Seq: 3, Fmt: 2}, Segs: []api.Seg{{Seq: 1, Fmt: 1, First: high.Index - 1, Count: 4}}}, s: high, logs: [][]api.Entry{row(2, 4)}},
		full,
	}
}

// op is an operation.
func op(kind uint8, name, to string, b ...byte) api.Op {
	return api.Op{Kind: kind, Name: name, To: to, Bytes: b}
}

// sync stands for a sync among operations.
var sync = api.Op{Kind: 99}

// run does operations, up to the first error.
func run(d api.Disk, l ...api.Op) (api.Disk, api.Errno) {
	d = disk.Own(d)
	for _, o := range l {
		var e api.Errno
		if o.Kind == sync.Kind {
			d, e = disk.Sync(d)
		} else {
			d, e = disk.Do(d, o)
		}
		if e != api.OK {
			return d, e
		}
	}
	return d, api.OK
}

// writing is the operations that write a file.
func writing(name string, b []byte) []api.Op {
	return []api.Op{op(api.OpCreate, name, ""), op(api.OpAppend, name, "", b...), sync}
}

// swapped is the operations of a swap to m on a disk with those files.
func swapped(m api.Manifest, l []api.File) []api.Op {
	kept := map[string]bool{"M": true, nameOf("p", m.Snap.Seq, m.Snap.Fmt): m.Snap.Seq != 0}
	for _, s := range m.Segs {
		kept[nameOf("s", s.Seq, s.Fmt)] = true
	}
	ops := append(writing("M.new", sure(manifest.Put(m))), op(api.OpRename, "M.new", "M"), sync)
	for _, x := range l {
		if !kept[x.Name] && x.Name != "M.new" { // that one has another name then
			ops = append(ops, op(api.OpRemove, x.Name, ""))
		}
	}
	return ops
}

// spoil changes all that a disk holds.
func spoil(d api.Disk) {
	for i := range d.Files {
		for at := range d.Files[i].Bytes {
			d.Files[i].Bytes[at]++
		}
		d.Files[i].Name = "changed"
	}
	for i := range d.Queue {
		for at := range d.Queue[i].Bytes {
			d.Queue[i].Bytes[at]++
		}
		d.Queue[i].Name = "changed"
	}
}

// crashes are the disks behind a crash, wherever it strikes.
func crashes(d api.Disk) []api.Disk {
	var l []api.Disk
	for keep := range len(d.Queue) + 1 {
		torn := 0
		if keep < len(d.Queue) {
			torn = len(d.Queue[keep].Bytes)
		}
		for torn := range torn + 1 {
			l = append(l, disk.Crash(d, keep, torn))
		}
	}
	return l
}

// act is a call, as the chapter's words have it: what it makes of a tuple, and of a directory.
type act struct {
	name  string
	call  func(d api.Disk) (api.Disk, api.Errno)
	tuple func(t api.Tuple) (api.Tuple, api.Errno)
	// plan is the manifest then, a new file's name and bytes, if there is one; whether there is something to do.
	plan func(p plain) (m api.Manifest, name string, b []byte, does bool)
	fmt  int
}

// hard is a call of Hard.
func hard(term, vote int) act {
	return act{
		name:  "Hard " + strconv.Itoa(term) + " " + strconv.Itoa(vote),
		call:  func(d api.Disk) (api.Disk, api.Errno) { return Hard(d, term, vote) },
		tuple: func(t api.Tuple) (api.Tuple, api.Errno) { return tuple.Hard(t, term, vote) },
		plan: func(p plain) (api.Manifest, string, []byte, bool) {
			m := manifest.Own(p.m)
			m.Term, m.Vote = term, vote
			return m, "", nil, true
		},
		fmt: 1,
	}
}

// leave is the segments that have an entry above index, of a directory.
func (p plain) leave(index int) []api.Seg {
	var l []api.Seg
	for i, s := range p.m.Segs {
		if s.First+len(p.logs[i])-1 > index {
			l = append(l, s)
		}
	}
	return l
}

// snapped is the manifest with a snapshot of s as its new file, and the segments that are left.
func (p plain) snapped(s api.State, fmt int) (api.Manifest, string, []byte) {
	m := p.m
	m.Snap = api.Ref{Seq: m.Next, Fmt: fmt}
	m.Segs = p.leave(s.Index)
	m.Next++
	b, _ := snap.Put(s, fmt)
	return m, nameOf("p", m.Snap.Seq, fmt), b
}

// save is a call of Save.
func save(s api.State, fmt int) act {
	return act{
		name:  "Save " + strconv.Itoa(s.Index) + " " + strconv.Itoa(s.Term),
		call:  func(d api.Disk) (api.Disk, api.Errno) { return Save(d, s, fmt) },
		tuple: func(t api.Tuple) (api.Tuple, api.Errno) { return tuple.Save(t, s) },
		plan: func(p plain) (api.Manifest, string, []byte, bool) {
			m, name, b := p.snapped(s, fmt)
			return m, name, b, true
		},
		fmt: fmt,
	}
}

// install is a call of Install.
func install(s api.State, fmt int) act {
	return act{
		name:  "Install " + strconv.Itoa(s.Index) + " " + strconv.Itoa(s.Term),
		call:  func(d api.Disk) (api.Disk, api.Errno) { return Install(d, s, fmt) },
		tuple: func(t api.Tuple) (api.Tuple, api.Errno) { return tuple.Install(t, s) },
		plan: func(p plain) (api.Manifest, string, []byte, bool) {
			m, name, b := p.snapped(s, fmt)
			t := p.tuple()
			far := s.Index - t.Snap.Index
			if far > len(t.Log) || t.Log[far-1].Term != s.Term {
				m.Segs = nil
			}
			return m, name, b, true
		},
		fmt: fmt,
	}
}

// cutting is a call of Cut.
func cutting(from, fmt int) act {
	return act{
		name:  "Cut " + strconv.Itoa(from),
		call:  func(d api.Disk) (api.Disk, api.Errno) { return Cut(d, from, fmt) },
		tuple: func(t api.Tuple) (api.Tuple, api.Errno) { return tuple.Cut(t, from) },
		plan: func(p plain) (api.Manifest, string, []byte, bool) {
			t := p.tuple()
			if from == t.Snap.Index+len(t.Log)+1 {
				return p.m, "", nil, false
			}
			m := p.m
			m.Segs = nil
			var name string
			var b []byte
			for i, s := range p.m.Segs {
				last := s.First + len(p.logs[i]) - 1
				switch {
				case last < from && last > t.Snap.Index:
					m.Segs = append(m.Segs, s)
				case last >= from && s.First < from && from-1 > t.Snap.Index:
					m.Segs = append(m.Segs, api.Seg{Seq: m.Next, Fmt: fmt, First: s.First, Count: -1})
					name = nameOf("s", m.Next, fmt)
					b, _ = either.File(fmt, s.First, p.logs[i][:from-s.First]...)
					m.Next++
				}
			}
			return m, name, b, true
		},
		fmt: fmt,
	}
}

// byHand does what the chapter's words say of that call, operation by operation, on a disk of that directory.
func byHand(d api.Disk, p plain, a act) (api.Disk, api.Errno) {
	d = disk.Own(d)
	if _, e := a.tuple(p.tuple()); e != api.OK || a.fmt != 1 && a.fmt != 2 {
		return d, api.ErrArg
	}
	m, name, b, does := a.plan(p)
	if !does {
		return d, api.OK
	}
	if manifest.Check(m) != api.OK {
		return d, api.ErrArg
	}
	if name != "" {
		var e api.Errno
		if d, e = run(d, writing(name, b)...); e != api.OK {
			return d, e
		}
	}
	return run(d, swapped(m, disk.Now(d))...)
}

// formats are those that there are, and others.
var formats = []int{1, 2, 0, 3, -1, 1<<32 + 1, 1<<32 + 2, math.MinInt, math.MaxInt}

// right are calls of which most do something with that directory.
func right(p plain, fmt int) []act {
	t := p.tuple()
	l := []act{hard(t.Term, t.Vote), hard(t.Term+1, 0), hard(t.Term+1, 5), hard(top, 2), hard(t.Term, 1)}
	step := max(1, len(t.Log)/12)
	for i := 0; i <= len(t.Log); i += step {
		s := t.Snap
		s.Sum = 77
		if i > 0 {
			s = api.State{Index: t.Snap.Index + i, Term: t.Log[i-1].Term, Sum: i, Level: 2, Final: true}
		}
		l = append(l, save(s, fmt), install(s, fmt), cutting(s.Index+1, fmt))
		s.Term++ // another one's, now
		l = append(l, install(s, fmt))
	}
	far := api.State{Index: t.Snap.Index + len(t.Log) + 1, Term: t.Term, Level: 1}
	l = append(l, install(far, fmt), cutting(far.Index, fmt))
	far.Index += 500
	return append(l, install(far, fmt))
}

// odd are calls of which most are refused.
func odd(p plain, fmt int) []act {
	var l []act
	t := p.tuple()
	for _, term := range []int{t.Term - 1, t.Term, -1, top + 1, math.MinInt, math.MaxInt, 1<<32 + t.Term} {
		for _, vote := range []int{-1, 0, 1, 2, 6, 1<<32 + 1, math.MinInt, math.MaxInt} {
			l = append(l, hard(term, vote))
		}
	}
	last := t.Snap.Index + len(t.Log)
	for _, s := range []api.State{
		{}, t.Snap, {Index: -1, Level: 1}, {Index: math.MinInt, Level: 1}, {Index: math.MaxInt, Level: 1}, {Index: top, Term: 9, Level: 1}, {Index: top - 999, Term: 9, Level: 1},
		{Index: t.Snap.Index, Term: t.Snap.Term + 1, Level: 1}, {Index: t.Snap.Index - 1, Term: t.Snap.Term, Level: 1}, {Index: last + 1, Term: t.Term + 1, Level: 1},
		{Index: last, Term: -1, Level: 1}, {Index: last + 1, Term: t.Term, Level: 3}, {Index: last + 1, Term: t.Term, Level: 0}, {Index: last + 1, Term: t.Term, Level: 1, Sum: -1},
		{Index: 1<<32 + last, Term: t.Term, Level: 1}, {Index: last, Term: 1<<32 + t.Term, Level: 1},
	} {
		l = append(l, save(s, fmt), install(s, fmt))
	}
	for _, from := range []int{t.Snap.Index, t.Snap.Index - 1, last + 2, 0, -1, math.MinInt, math.MaxInt, top, 1<<32 + last, -1<<32 + last} {
		l = append(l, cutting(from, fmt))
	}
	return l
}

// agrees holds a call of a disk with that directory against what is done by hand, and what is told then against the tuple's function.
func agrees(t *testing.T, d api.Disk, p plain, a act) api.Errno {
	t.Helper()
	before := disk.Own(d)
	want, wantE := byHand(d, p, a)
	got, e := a.call(d)
	if e != wantE || !disk.Same(got, want) {
		t.Fatal(a.name, a.fmt, "of", p, "with", d.Fuse, d.Quota, "gave", got, e, "and not", want, wantE)
	}
	if !disk.Same(d, before) {
		t.Fatal("what was handed in was changed")
	}
	if e == api.OK {
		x, _, f := store.Load(got)
		if to, _ := a.tuple(p.tuple()); f != api.OK || !tuple.Same(x, to) {
			t.Fatal(a.name, a.fmt, "of", p, "tells", x, f, "and not", to)
		}
	}
	return e
}

// P15.1: Trim leaves out just those whose last entry's index is at most index, of an open one: last.
func TestTrim(t *testing.T) {
	m := api.Manifest{Next: 9, Term: 3, Vote: 2, Snap: api.Ref{Seq: 1, Fmt: 2}, Segs: []api.Seg{{Seq: 2, Fmt: 1, First: 5, Count: 4}, {Seq: 3, Fmt: 2, First: 9, Count: 1}, {Seq: 4, Fmt: 2, First: 10, Count: -1}}}
	for _, x := range []struct{ index, last, gone int }{{7, 12, 0}, {8, 12, 1}, {9, 12, 2}, {9, 9, 3}, {9, 10, 2}, {11, 12, 2}, {12, 12, 3}, {13, 12, 3}, {-1, 0, 0}, {math.MinInt, math.MaxInt, 0}, {math.MaxInt, math.MaxInt, 3}} {
		want := manifest.Own(m)
		want.Segs = want.Segs[x.gone:]
		if got := Trim(m, x.index, x.last); !manifest.Same(got, want) {
			t.Error(x, got)
		}
	}
	if got := Trim(m, 7, 7); len(got.Segs) != 2 || got.Segs[1].Seq != 3 {
		t.Error("an open one goes by last alone:", got)
	}
	if got := Trim(api.Manifest{Next: -5, Vote: 77}, 3, 3); !manifest.Same(got, api.Manifest{Next: -5, Vote: 77}) {
		t.Error("of one that may not be the rest stays:", got)
	}
	spare := slices.Clone(m.Segs)
	m.Segs = m.Segs[:1]
	got := Trim(m, 0, 0)
	got.Segs = append(got.Segs, api.Seg{Seq: 99})
	got.Segs[0].Seq = 98
	if !slices.Equal(m.Segs[:3], spare) {
		t.Error("the answer shares memory with what was handed in")
	}
	gone := Trim(api.Manifest{Segs: m.Segs[:3]}, 8, 12)
	if !slices.Equal(m.Segs[:3], spare) || len(gone.Segs) != 2 {
		t.Error("what was handed in was changed")
	}
}

// P15.1: of any manifest: all numbers that there are, in any order, exactly.
func TestTrimAny(t *testing.T) {
	odd := []int{math.MinInt, math.MinInt + 1, math.MinInt + 3, -1<<32 - 1, -1 << 32, -65537, -65536, -65535, -2, -1, 0, 1, 2, 4, 65534, 65535, 65536, 65537, 1 << 32, 1<<32 + 1, math.MaxInt - 4, math.MaxInt - 1, math.MaxInt}
	for _, first := range odd {
		for _, count := range odd {
			for _, index := range odd {
				for _, last := range []int{math.MinInt, index, index + 1, math.MaxInt} {
					end := new(big.Int).Add(big.NewInt(int64(first)), big.NewInt(int64(count)))
					end.Sub(end, big.NewInt(1))
					if count == -1 {
						end = big.NewInt(int64(last))
					}
					stays := end.Cmp(big.NewInt(int64(index))) > 0
					s := api.Seg{Seq: -3, Fmt: 9, First: first, Count: count}
					other := api.Seg{Seq: 5, First: math.MinInt, Count: 1}
					got := Trim(api.Manifest{Segs: []api.Seg{other, s, other, s}}, index, last).Segs
					want := []api.Seg{s, s}
					if !stays {
						want = nil
					}
					if !slices.Equal(got, want) {
						t.Fatal(first, count, index, last, got)
					}
				}
			}
		}
	}
}

// P15.2, P15.3: of directories of all kinds each call does what the table says, operation by operation.
func TestCalls(t *testing.T) {
	told := map[string]int{}
	for _, p := range places() {
		for _, fmt := range formats {
			for _, a := range append(right(p, fmt), odd(p, fmt)...) {
				e := agrees(t, p.disk(100000), p, a)
				told[a.name[:3]+strconv.Itoa(int(e))]++
			}
		}
	}
	for _, kind := range []string{"Har", "Sav", "Ins", "Cut"} {
		if told[kind+"0"] < 100 || told[kind+"2"] < 100 {
			t.Error("too few of a kind:", told)
		}
	}
}

// P15.2: what the table says of a directory with a snapshot in the midst of a segment, told one by one.
func TestTable(t *testing.T) {
	p := places()[12] // Snap at 5; s7.2 has 5 to 8, s8.1 is open, has 9 and 10
	d := p.disk(9000)
	manifests := func(d api.Disk, e api.Errno) api.Manifest {
		t.Helper()
		_, m, f := store.Load(d)
		if e != api.OK || f != api.OK {
			t.Fatal(e, f)
		}
		return m
	}
	seg := func(seq, fmt, first, count int) api.Seg {
		return api.Seg{Seq: seq, Fmt: fmt, First: first, Count: count}
	}
	to := func(next, snapSeq, snapFmt int, l ...api.Seg) api.Manifest {
		return api.Manifest{Next: next, Term: 9, Vote: 1, Snap: api.Ref{Seq: snapSeq, Fmt: snapFmt}, Segs: l}
	}
	state := func(index, term int) api.State { return api.State{Index: index, Term: term, Level: 1} }
	for name, x := range map[string]struct{ got, want api.Manifest }{
		"Cut at 11":                  {manifests(Cut(d, 11, 2)), p.m},
		"Cut at 10":                  {manifests(Cut(d, 10, 2)), to(10, 6, 1, seg(7, 2, 5, 4), seg(9, 2, 9, -1))},
		"Cut at 9":                   {manifests(Cut(d, 9, 2)), to(9, 6, 1, seg(7, 2, 5, 4))},
		"Cut at 8":                   {manifests(Cut(d, 8, 1)), to(10, 6, 1, seg(9, 1, 5, -1))},
		"Cut at 7":                   {manifests(Cut(d, 7, 2)), to(10, 6, 1, seg(9, 2, 5, -1))},
		"Cut at 6":                   {manifests(Cut(d, 6, 2)), to(9, 6, 1)},
		"Save at 5":                  {manifests(Save(d, state(5, 2), 2)), to(10, 9, 2, p.m.Segs...)},
		"Save at 7":                  {manifests(Save(d, state(7, 2), 2)), to(10, 9, 2, p.m.Segs...)},
		"Save at 8":                  {manifests(Save(d, state(8, 2), 1)), to(10, 9, 1, seg(8, 1, 9, -1))},
		"Save at 9":                  {manifests(Save(d, state(9, 3), 1)), to(10, 9, 1, seg(8, 1, 9, -1))},
		"Save at 10":                 {manifests(Save(d, state(10, 3), 1)), to(10, 9, 1)},
		"Install of what is there":   {manifests(Install(d, state(8, 2), 2)), to(10, 9, 2, seg(8, 1, 9, -1))},
		"Install of another term":    {manifests(Install(d, state(8, 3), 2)), to(10, 9, 2)},
		"Install of what is not yet": {manifests(Install(d, state(11, 3), 1)), to(10, 9, 1)},
	} {
		if !manifest.Same(x.got, x.want) {
			t.Error(name, x.got)
		}
	}
	if b, e := disk.Read(sure(Cut(d, 7, 1)), "s9.1"); e != api.OK || !bytes.Equal(b, sure(either.File(1, 5, row(2, 2)...))) {
		t.Error("an entry that the snapshot has stays in its segment's file:", b, e)
	}
	if x := sure(Cut(d, 11, 1)); !disk.Same(x, d) || len(x.Queue) != 0 {
		t.Error("nothing is done:", x)
	}
	if x, e := Cut(d, 11, 3); e != api.ErrArg || !disk.Same(x, d) {
		t.Error("a format that is none, nothing to cut:", e)
	}
}

// P15.2: of a disk that is not read: Load's error, and the disk, ahead of all else; what the disk is like is no matter, if nothing is done.
func TestNotRead(t *testing.T) {
	check := func(what string, d api.Disk, want api.Errno, l ...act) {
		t.Helper()
		before := disk.Own(d)
		for _, a := range l {
			got, e := a.call(d)
			if e != want || !disk.Same(got, before) || !disk.Same(d, before) {
				t.Error(what, a.name, a.fmt, e)
			}
			spoil(got)
			if !disk.Same(d, before) {
				t.Fatal(what, a.name, "the answer shares memory with what was handed in")
			}
		}
	}
	p := single(1, 3, -1)
	for _, fmt := range formats {
		all := append(right(p, fmt), odd(p, fmt)...)
		check("no disk", api.Disk{}, api.ErrFile, all...)
		check("no manifest", disk.New(99), api.ErrFile, all...)
		check("no manifest, and a disk that may not be", api.Disk{Quota: -1, Files: []api.File{{Name: "s1.1", Bytes: []byte{1}}}}, api.ErrFile, all...)
		d := p.disk(900)
		d.Files[0].Bytes[2]++
		check("a manifest that is none", d, api.ErrBroken, all...)
		d = p.disk(900)
		d.Files[1].Name = "s3.1"
		check("a file that is not there", d, api.ErrBroken, all...)
		d = p.disk(900)
		d.Queue, d.Dead = []api.Op{op(api.OpRemove, "s2.1", "")}, true
		check("a file that is gone now", d, api.ErrBroken, all...)
		d = p.disk(900)
		d.Dead = true
		check("nothing to be done of a dead disk", d, map[bool]api.Errno{true: api.OK, false: api.ErrArg}[fmt == 1 || fmt == 2], cutting(4, fmt))
		check("a dead disk, wrong numbers", d, api.ErrArg, cutting(5, fmt), hard(8, 0), save(api.State{}, fmt), install(api.State{}, fmt))
		if fmt != 1 && fmt != 2 {
			continue
		}
		some := []act{hard(9, 1), hard(10, 2), cutting(1, fmt), cutting(2, fmt), save(api.State{Index: 2, Term: 3, Level: 1}, fmt), install(api.State{Index: 2, Term: 3, Level: 1}, fmt), install(api.State{Index: 7, Term: 3, Level: 1}, fmt)}
		check("a dead disk", d, api.ErrDown, some...)
		d = p.disk(-1)
		check("a disk that may not be", d, api.ErrArg, some...)
		check("nothing to be done of a disk that may not be", d, api.OK, cutting(4, fmt))
	}
}

// P15.2: bytes behind a segment's entries are not put into the new file.
func TestTorn(t *testing.T) {
	for _, fmt := range []int{1, 2} {
		p := single(fmt, 3, -1)
		d := p.disk(900)
		d.Files[1].Bytes = append(d.Files[1].Bytes, 0, 0, 7)
		for from := 1; from <= 4; from++ {
			agrees(t, d, p, cutting(from, 3-fmt))
		}
		agrees(t, d, p, save(api.State{Index: 2, Term: 3, Level: 1}, fmt))
		agrees(t, d, p, install(api.State{Index: 3, Term: 3, Level: 1}, fmt))
	}
}

// P15.2: at the disk's first error nothing more is done, and what is done stays: of every fuse, every quota, queues all but full.
func TestDiskErrors(t *testing.T) {
	told := map[api.Errno]int{}
	for i, p := range places() {
		if len(p.m.Segs) > 10 {
			continue
		}
		for _, fmt := range []int{1, 2} {
			for _, a := range right(p, fmt) {
				d := p.disk(90000)
				used := disk.Used(d)
				for fuse := range 22 {
					d.Fuse = fuse
					told[agrees(t, d, p, a)]++
				}
				for quota := used - 1; quota < used+100; quota += 1 + i%3 {
					told[agrees(t, p.disk(quota), p, a)]++
				}
				for left := range 6 {
					d := p.disk(90000)
					d.Queue = slices.Repeat([]api.Op{op(api.OpCreate, "q", "")}, api.MaxQueue-left)
					told[agrees(t, d, p, a)]++
				}
			}
		}
	}
	for _, e := range []api.Errno{api.OK, api.ErrArg, api.ErrDown, api.ErrFull} {
		if told[e] < 100 {
			t.Error("too few of a kind:", told)
		}
	}
}

// P15.2: disks that are told are in memory of their own, beside errors, too.
func TestMemory(t *testing.T) {
	for i, p := range places() {
		d := p.disk(90000)
		if i%2 == 0 {
			d, _ = disk.Do(d, op(api.OpCreate, "q", ""))
			d, _ = disk.Do(d, op(api.OpAppend, "q", "", 1, 2))
		}
		dead := disk.Own(d)
		dead.Dead = true
		for _, d := range []api.Disk{d, dead, {Files: d.Files, Quota: -1}} {
			for _, a := range append(right(p, 1+i%2), odd(p, 3)...) {
				before := disk.Own(d)
				got, _ := a.call(d)
				spoil(got)
				if !disk.Same(d, before) {
					t.Fatal(i, a.name, "what was handed in was changed, or is shared")
				}
			}
		}
	}
}

// P15.3: with an error of the disk, and behind a crash wherever it strikes, it is the tuple ahead, or the one behind; with OK the one behind.
func TestCrash(t *testing.T) {
	for i, p := range places() {
		if len(p.m.Segs) > 10 {
			continue
		}
		for _, fmt := range []int{1, 2} {
			for _, a := range right(p, fmt) {
				old := p.tuple()
				to, wrong := a.tuple(old)
				if wrong != api.OK {
					continue
				}
				for fuse := range 20 {
					d := p.disk(9000 + fuse)
					d.Fuse = fuse
					d, e := a.call(d)
					for _, c := range append(crashes(d), d) {
						x, _, f := store.Load(c)
						if f != api.OK || !tuple.Same(x, to) && (e == api.OK || !tuple.Same(x, old)) {
							t.Fatal(i, a.name, fmt, fuse, e, c, "tells", x, f)
						}
					}
				}
			}
		}
	}
}

// walk is a call by chance, and what it makes of a tuple.
func walk(r *rand.Rand, t api.Tuple) act {
	fmt := 1 + r.Intn(2)
	i := t.Snap.Index + r.Intn(len(t.Log)+1)
	s, _ := tuple.State(t, i)
	switch r.Intn(7) {
	case 0:
		return hard(t.Term+r.Intn(3)-1, r.Intn(6))
	case 1:
		return save(s, fmt)
	case 2:
		s.Term += r.Intn(2)
		return install(s, fmt)
	case 3:
		s.Index = tuple.Last(t) + r.Intn(3)
		return install(s, fmt)
	case 4:
		return cutting(i+r.Intn(3), fmt)
	}
	l := row(t.Term, r.Intn(7))
	return act{
		name:  "Append",
		call:  func(d api.Disk) (api.Disk, api.Errno) { return write.Append(d, fmt, l...) },
		tuple: func(t api.Tuple) (api.Tuple, api.Errno) { return tuple.Append(t, l...) },
	}
}

// P15.3: walks of many calls, with crashes: the directory tells what the tuple's functions make.
func TestWalk(t *testing.T) {
	r := rand.New(rand.NewSource(15))
	for range 300 {
		d, _ := write.Init(100000)
		want := tuple.First()
		for range 25 {
			a := walk(r, want)
			to, wrong := a.tuple(want)
			if r.Intn(3) == 0 {
				d.Fuse = 1 + r.Intn(25)
			}
			next, e := a.call(d)
			d = next
			if (wrong != api.OK) != (e == api.ErrArg) {
				t.Fatal(a.name, "gave", e, "and the tuple's", wrong)
			}
			if e != api.OK || r.Intn(2) == 0 {
				d = disk.Crash(d, r.Intn(4), r.Intn(30))
			}
			x, _, f := store.Load(d)
			part := a.name == "Append" && len(x.Log) > len(want.Log) && len(x.Log) < len(to.Log) && slices.Equal(x.Log, to.Log[:len(x.Log)])
			if f != api.OK || !tuple.Same(x, to) && (e == api.OK || !part && !tuple.Same(x, want)) {
				t.Fatal(a.name, e, "of", want, "tells", x, f)
			}
			want = x
		}
	}
}
