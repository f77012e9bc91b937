package store

import (
	"bytes"
	"math"
	"math/rand"
	"reflect"
	"slices"
	"strconv"
	"testing"

	"moult/api"
	"moult/disk"
	"moult/either"
	"moult/manifest"
	"moult/snap"
	"moult/tuple"
)

const top = 1073741824 // MaxNumber

// value is an entry of that term, and a value.
func value(term, v int) api.Entry {
	return api.Entry{Term: term, Kind: api.EnData, Value: v}
}

// row is so many entries, all of that term.
func row(term, many int) []api.Entry {
	var l []api.Entry
	for i := range many {
		l = append(l, value(term, i))
	}
	return l
}

// plain is a directory in parts: the manifest, the snapshot's state, each segment's entries.
type plain struct {
	m    api.Manifest
	s    api.State
	logs [][]api.Entry
}

// nameOf is what a file with a number is called.
func nameOf(letter string, seq, fmt int) string {
	return letter + strconv.Itoa(seq) + "." + strconv.Itoa(fmt)
}

// sure is what a call told with OK.
func sure[T any](x T, e api.Errno) T {
	if e != api.OK {
		panic(e)
	}
	return x
}

// files are those of the directory, the manifest's first.
func (p plain) files() []api.File {
	l := []api.File{{Name: "M", Bytes: sure(manifest.Put(p.m))}}
	if p.m.Snap.Seq != 0 {
		l = append(l, api.File{Name: nameOf("p", p.m.Snap.Seq, p.m.Snap.Fmt), Bytes: sure(snap.Put(p.s, p.m.Snap.Fmt))})
	}
	for i, s := range p.m.Segs {
		l = append(l, api.File{Name: nameOf("s", s.Seq, s.Fmt), Bytes: sure(either.File(s.Fmt, s.First, p.logs[i]...))})
	}
	return l
}

// state is one that has come to that index.
func state(index int) api.State {
	return api.State{Index: index, Term: 2, Sum: 5, Level: 2}
}

// good are directories that tell a tuple, and how many entries of their segments the snapshot has.
func good() []plain {
	two := [][]api.Entry{row(2, 4), row(3, 3)}
	var full plain
	full.m = api.Manifest{Next: 51, Term: 1}
	for i := range 50 {
		full.m.Segs = append(full.m.Segs, api.Seg{Seq: 50 - i, Fmt: 1 + i%2, First: 1 + 4*i, Count: 4})
		full.logs = append(full.logs, row(1, 4))
	}
	return []plain{
		{m: api.Manifest{Next: 1}},
		{m: api.Manifest{Next: top, Term: top, Vote: 5}},
		{m: api.Manifest{Next: 2, Term: 3, Vote: 2, Segs: []api.Seg{{Seq: 1, Fmt: 1, First: 1, Count: -1}}}, logs: [][]api.Entry{row(3, 1)}},
		{m: api.Manifest{Next: 3, Term: 3, Segs: []api.Seg{{Seq: 2, Fmt: 2, First: 1, Count: -1}}}, logs: [][]api.Entry{row(3, 4)}},
		{m: api.Manifest{Next: 8, Term: 3, Segs: []api.Seg{{Seq: 7, Fmt: 2, First: 1, Count: 4}, {Seq: 1, Fmt: 1, First: 5, Count: -1}}}, logs: two},
		{m: api.Manifest{Next: 4, Term: 2, Snap: api.Ref{Seq: 3, Fmt: 1}}, s: state(9)},
		{m: api.Manifest{Next: 4, Term: 2, Vote: 1, Snap: api.Ref{Seq: 1, Fmt: 2}}, s: state(9)},
		{m: api.Manifest{Next: 9, Term: 3, Vote: 1, Snap: api.Ref{Seq: 5, Fmt: 2}, Segs: []api.Seg{{Seq: 3, Fmt: 1, First: 10, Count: 4}, {Seq: 4, Fmt: 2, First: 14, Count: 3}}}, s: state(9), logs: two},
		{m: api.Manifest{Next: 9, Term: 4, Snap: api.Ref{Seq: 5, Fmt: 1}, Segs: []api.Seg{{Seq: 3, Fmt: 2, First: 8, Count: 4}, {Seq: 4, Fmt: 2, First: 12, Count: -1}}}, s: state(9), logs: two},
		{m: api.Manifest{Next: 9, Term: 4, Snap: api.Ref{Seq: 5, Fmt: 1}, Segs: []api.Seg{{Seq: 3, Fmt: 1, First: 1, Count: 4}, {Seq: 4, Fmt: 1, First: 5, Count: 3}}}, s: state(6), logs: two},
		{m: api.Manifest{Next: 9, Term: 4, Snap: api.Ref{Seq: 5, Fmt: 1}, Segs: []api.Seg{{Seq: 3, Fmt: 1, First: 1, Count: 1}}}, logs: [][]api.Entry{row(4, 1)}, s: api.State{Level: 1}},
		{m: api.Manifest{Next: 9, Term: 2, Snap: api.Ref{Seq: 5, Fmt: 2}, Segs: []api.Seg{{Seq: 3, Fmt: 1, First: top - 999, Count: -1}}}, logs: [][]api.Entry{row(2, 2)}, s: state(top - 1000)},
		full,
	}
}

// tuple is what the directory tells, worked out of its parts.
func (p plain) tuple() api.Tuple {
	t := api.Tuple{Snap: api.State{Level: 1}, Term: p.m.Term, Vote: p.m.Vote}
	if p.m.Snap.Seq > 0 {
		t.Snap = p.s
	}
	for i, s := range p.m.Segs {
		for j, x := range p.logs[i] {
			if s.First+j > t.Snap.Index {
				t.Log = append(t.Log, x)
			}
		}
	}
	return t
}

// expected is what files tell by the chapter's words, its six points one by one.
func expected(l []api.File) (api.Tuple, api.Manifest, api.Errno) {
	none := func(e api.Errno) (api.Tuple, api.Manifest, api.Errno) { return api.Tuple{}, api.Manifest{}, e }
	read := map[string][]byte{}
	there := map[string]bool{}
	for _, x := range slices.Backward(l) {
		read[x.Name], there[x.Name] = x.Bytes, true
	}
	if !there["M"] {
		return none(api.ErrFile)
	}
	m, e := manifest.Take(read["M"])
	if e != api.OK {
		return none(api.ErrBroken)
	}
	t := api.Tuple{Snap: api.State{Level: 1}, Term: m.Term, Vote: m.Vote}
	if m.Snap.Seq != 0 {
		t.Snap, e = snap.Take(read[nameOf("p", m.Snap.Seq, m.Snap.Fmt)], m.Snap.Fmt)
		if e != api.OK {
			return none(api.ErrBroken)
		}
	}
	reach := 0
	for _, s := range m.Segs {
		got, e := either.Scan(read[nameOf("s", s.Seq, s.Fmt)], s.Fmt)
		if e != api.OK || got.First != s.First || s.Count > 0 && len(got.Log) != s.Count || len(got.Log) < 1 || len(got.Log) > 4 {
			return none(api.ErrBroken)
		}
		for i, x := range got.Log {
			reach = got.First + i
			if reach > t.Snap.Index {
				t.Log = append(t.Log, x)
			}
		}
	}
	if len(m.Segs) > 0 && (m.Segs[0].First > t.Snap.Index+1 || reach <= t.Snap.Index) || !tuple.Right(t) {
		return none(api.ErrBroken)
	}
	return t, m, api.OK
}

// copied is files in memory of their own.
func copied(l []api.File) []api.File {
	var to []api.File
	for _, x := range l {
		to = append(to, api.File{Name: x.Name, Bytes: append([]byte(nil), x.Bytes...)})
	}
	return to
}

// sameFiles tells whether both are the same, name by name, byte by byte.
func sameFiles(a, b []api.File) bool {
	return slices.EqualFunc(a, b, func(x, y api.File) bool {
		return x.Name == y.Name && bytes.Equal(x.Bytes, y.Bytes)
	})
}

// holds holds what Read tells of the files against what is expected.
func holds(t *testing.T, l []api.File, what string) api.Errno {
	t.Helper()
	before := copied(l)
	x, m, e := Read(l)
	wantX, wantM, wantE := expected(l)
	if e != wantE || !tuple.Same(x, wantX) || !manifest.Same(m, wantM) {
		t.Fatal(what, l, "tell", x, m, e, "and not", wantX, wantM, wantE)
	}
	if e != api.OK && !(reflect.DeepEqual(x, api.Tuple{}) && reflect.DeepEqual(m, api.Manifest{})) {
		t.Fatal(what, "tell something beside an error:", x, m, e)
	}
	if !sameFiles(l, before) {
		t.Fatal(what, "changed what was handed in")
	}
	return e
}

// P13.1: files tell the tuple of their parts, and the manifest, in whatever order they stand, whatever stands beside them.
func TestRead(t *testing.T) {
	if x, m, e := Read(nil); e != api.ErrFile || !reflect.DeepEqual(x, api.Tuple{}) || !reflect.DeepEqual(m, api.Manifest{}) {
		t.Error("of no files:", x, m, e)
	}
	for i, p := range good() {
		l := p.files()
		backward := copied(l)
		slices.Reverse(backward)
		beside := append(copied(l), api.File{Name: "M.new", Bytes: []byte{1}}, api.File{Name: "s60.1"}, api.File{Name: ""}, api.File{Name: "M", Bytes: []byte{7}})
		for j, files := range [][]api.File{l, backward, beside} {
			x, m, e := Read(files)
			if e != api.OK || !tuple.Same(x, p.tuple()) || !manifest.Same(m, p.m) {
				t.Error(i, j, x, m, e)
			}
			holds(t, files, "good")
		}
	}
	if x, _, e := Read(good()[9].files()); e != api.OK || len(x.Log) != 1 || x.Log[0] != value(3, 2) || x.Snap.Index != 6 {
		t.Error("what the snapshot has is told again:", x, e)
	}
}

// P13.1: what stands behind a segment's entries is no matter; of those of one name the first file counts.
func TestReadTorn(t *testing.T) {
	for _, p := range good() {
		l := p.files()
		for i := range l {
			if l[i].Name[0] == 's' {
				l[i].Bytes = append(l[i].Bytes, 9, 9)
			}
		}
		twice := append(copied(l), api.File{Name: "M"})
		for _, x := range l {
			twice = append(twice, api.File{Name: x.Name, Bytes: []byte{3}})
		}
		for _, files := range [][]api.File{l, twice} {
			x, m, e := Read(files)
			if e != api.OK || !tuple.Same(x, p.tuple()) || !manifest.Same(m, p.m) {
				t.Error(x, m, e)
			}
		}
		slices.Reverse(twice)
		if e := holds(t, twice, "twice"); e != api.ErrBroken {
			t.Error("of those of one name the first is another one:", e)
		}
	}
}

// base is a directory that has all that there may be: a snapshot up to 5, entries 5 to 8, and, of the open segment, 9 and 10.
func base() plain {
	return plain{
		m:    api.Manifest{Next: 9, Term: 4, Vote: 1, Snap: api.Ref{Seq: 6, Fmt: 1}, Segs: []api.Seg{{Seq: 7, Fmt: 2, First: 5, Count: 4}, {Seq: 8, Fmt: 1, First: 9, Count: -1}}},
		s:    state(5),
		logs: [][]api.Entry{row(2, 4), row(3, 2)},
	}
}

// P13.1: each of the six points, broken alone, at its edges.
func TestReadBroken(t *testing.T) {
	for _, x := range []struct {
		what string
		does func(p *plain)
		e    api.Errno
	}{
		{"as it is", func(p *plain) {}, api.OK},
		{"no snapshot, and entries from 5 on", func(p *plain) { p.m.Snap = api.Ref{} }, api.ErrBroken},
		{"a snapshot up to 3", func(p *plain) { p.s.Index = 3 }, api.ErrBroken},
		{"a snapshot up to 4", func(p *plain) { p.s.Index = 4 }, api.OK},
		{"a snapshot up to 9", func(p *plain) { p.s.Index = 9 }, api.OK},
		{"a snapshot up to 10", func(p *plain) { p.s.Index = 10 }, api.ErrBroken},
		{"a snapshot up to 11", func(p *plain) { p.s.Index = 11 }, api.ErrBroken},
		{"a snapshot up to the greatest", func(p *plain) { p.s.Index = top }, api.ErrBroken},
		{"an open segment without entries", func(p *plain) { p.logs[1] = nil }, api.ErrBroken},
		{"an open segment of one entry", func(p *plain) { p.logs[1] = row(3, 1) }, api.OK},
		{"an open segment of four entries", func(p *plain) { p.logs[1] = row(3, 4) }, api.OK},
		{"an open segment of five entries", func(p *plain) { p.logs[1] = row(3, 5) }, api.ErrBroken},
		{"three entries where four are to be", func(p *plain) { p.logs[0] = row(2, 3) }, api.ErrBroken},
		{"five entries where four are to be", func(p *plain) { p.logs[0] = row(2, 5) }, api.ErrBroken},
		{"a closed last segment", func(p *plain) { p.m.Segs[1].Count = 2 }, api.OK},
		{"a closed last segment of more", func(p *plain) { p.m.Segs[1].Count = 1 }, api.ErrBroken},
		{"a closed last segment of fewer", func(p *plain) { p.m.Segs[1].Count = 3 }, api.ErrBroken},
		{"terms that fall", func(p *plain) { p.logs[0][3].Term = 4 }, api.ErrBroken},
		{"a term below the snapshot's", func(p *plain) { p.s.Term, p.s.Index = 3, 7 }, api.ErrBroken},
		{"a term below the snapshot's, of what it has", func(p *plain) { p.s.Term, p.s.Index = 3, 8 }, api.OK},
		{"a term above the manifest's", func(p *plain) { p.m.Term = 2 }, api.ErrBroken},
		{"the last entry's term", func(p *plain) { p.m.Term = 3 }, api.OK},
		{"a snapshot alone", func(p *plain) { p.m.Segs = nil }, api.OK},
		{"a snapshot alone, above the manifest's term", func(p *plain) { p.m.Segs, p.m.Term = nil, 1 }, api.ErrBroken},
		{"a snapshot alone, at the highest index", func(p *plain) { p.m.Segs, p.s.Index = nil, top-1000 }, api.OK},
		{"a snapshot alone, above the highest index", func(p *plain) { p.m.Segs, p.s.Index = nil, top-999 }, api.ErrBroken},
		{"nothing", func(p *plain) { p.m.Segs, p.m.Snap = nil, api.Ref{} }, api.OK},
	} {
		p := base()
		x.does(&p)
		if e := holds(t, p.files(), x.what); e != x.e {
			t.Error(x.what, e)
		}
	}
	p := base()
	p.s = state(1)
	for i := range 51 {
		p.m.Segs = append(p.m.Segs[:i], api.Seg{Seq: 100 + i, Fmt: 1, First: 1 + 4*i, Count: 4})
		p.logs = append(p.logs[:i], row(2, 4))
	}
	p.m.Next = 200
	if e := holds(t, p.files(), "203 entries"); e != api.ErrBroken {
		t.Error("more entries than a tuple may have:", e)
	}
	p.s.Index = 4
	if e := holds(t, p.files(), "200 entries"); e != api.OK {
		t.Error("as many entries as a tuple may have:", e)
	}
}

// P13.1: a file that is not there, is called otherwise, has other bytes.
func TestReadFiles(t *testing.T) {
	for _, p := range good() {
		l := p.files()
		if len(l) > 10 {
			continue
		}
		for i := range l {
			want := api.ErrBroken
			if l[i].Name == "M" {
				want = api.ErrFile
			}
			if e := holds(t, slices.Delete(copied(l), i, i+1), "one less"); e != want {
				t.Error(l[i].Name, "is not there:", e)
			}
			for _, name := range []string{"", "m", "M.new", "MM", l[i].Name + " ", "s" + l[i].Name, "p1.1", "s1.1", "s8.1", "p5.1", "p5.2"} {
				other := copied(l)
				other[i].Name = name
				holds(t, other, "called "+name)
			}
			for at := range len(l[i].Bytes) + 1 {
				short := copied(l)
				short[i].Bytes = short[i].Bytes[:at]
				holds(t, short, "cut off")
				if at == len(l[i].Bytes) {
					break
				}
				for _, by := range []byte{1, 2, 3, 128, 255} {
					other := copied(l)
					other[i].Bytes[at] ^= by
					holds(t, other, "another byte")
				}
			}
			for j := range l {
				other := copied(l)
				other[i].Bytes = slices.Clone(l[j].Bytes)
				holds(t, other, "another one's bytes")
			}
		}
	}
}

// P13.1: of manifests that may be, with files of another directory.
func TestReadMixed(t *testing.T) {
	r := rand.New(rand.NewSource(131))
	told := map[api.Errno]int{}
	for range 3000 {
		p, q := good()[r.Intn(12)], good()[r.Intn(12)]
		for i := range p.m.Segs {
			s := &p.m.Segs[i]
			switch r.Intn(8) {
			case 0:
				s.Fmt = 3 - s.Fmt
			case 1:
				s.Seq = 1 + r.Intn(8)
			case 2:
				s.First += r.Intn(3) - 1
			case 3:
				s.Count = r.Intn(5)
			}
		}
		if r.Intn(3) == 0 {
			p.m.Snap = q.m.Snap
		}
		b, e := manifest.Put(p.m)
		if e != api.OK {
			continue
		}
		l := append([]api.File{{Name: "M", Bytes: b}}, q.files()...)
		for _, x := range good()[4+r.Intn(6)].files() {
			l = append(l, x)
		}
		told[holds(t, l, "mixed")]++
	}
	if told[api.OK] < 50 || told[api.ErrBroken] < 50 {
		t.Error("too few of a kind:", told)
	}
}

// P13.1: a segment's entries, of any segment that is asked.
func TestEntries(t *testing.T) {
	five, four, none := row(2, 5), row(2, 4), row(2, 0)
	l := []api.File{
		{Name: "s1.1", Bytes: sure(either.File(1, 7, four...))},
		{Name: "s2.2", Bytes: append(sure(either.File(2, 7, four...)), 0, 1)},
		{Name: "s3.1", Bytes: sure(either.File(1, top, five...))},
		{Name: "s4.2", Bytes: sure(either.File(2, 1, none...))},
		{Name: "s5.1", Bytes: sure(either.File(2, 1, four...))},
		{Name: "s6.1"},
		{Name: "s0.1", Bytes: sure(either.File(1, 1, four...))},
		{Name: "s7.3", Bytes: sure(either.File(1, 1, four...))},
		{Name: "", Bytes: sure(either.File(1, 1, four...))},
		{Name: "p8.1", Bytes: sure(either.File(1, 1, four...))},
		{Name: "s9.1", Bytes: sure(either.File(1, 7, row(9, 1)...))},
		{Name: "s9.1", Bytes: sure(either.File(1, 8, four...))},
	}
	good := map[api.Seg][]api.Entry{
		{Seq: 1, Fmt: 1, First: 7, Count: 4}: four, {Seq: 1, Fmt: 1, First: 7, Count: -1}: four,
		{Seq: 2, Fmt: 2, First: 7, Count: 4}: four, {Seq: 2, Fmt: 2, First: 7, Count: -1}: four,
		{Seq: 3, Fmt: 1, First: top, Count: 5}: five,
		{Seq: 4, Fmt: 2, First: 1, Count: 0}:   none,
		{Seq: 9, Fmt: 1, First: 7, Count: 1}:   row(9, 1), {Seq: 9, Fmt: 1, First: 7, Count: -1}: row(9, 1),
	}
	numbers := []int{math.MinInt, -top, -2, -1, 0, 1, 2, 3, 4, 5, 6, 7, 8, 9, top, top + 1, 1<<32 + 1, 1<<32 + 7, math.MaxInt}
	before := copied(l)
	for _, seq := range numbers {
		for _, fmt := range numbers {
			for _, first := range numbers {
				for _, count := range numbers {
					s := api.Seg{Seq: seq, Fmt: fmt, First: first, Count: count}
					want, is := good[s]
					got, e := Entries(l, s)
					if is != (e == api.OK) || !is && (e != api.ErrBroken || got != nil) || !slices.Equal(got, want) {
						t.Fatal(s, got, e)
					}
				}
			}
		}
	}
	if !sameFiles(l, before) {
		t.Error("Entries changed what was handed in")
	}
	if got, e := Entries(nil, api.Seg{Seq: 1, Fmt: 1, First: 7, Count: 4}); e != api.ErrBroken || got != nil {
		t.Error("of no files:", got, e)
	}
	one, _ := Entries(l, api.Seg{Seq: 1, Fmt: 1, First: 7, Count: 4})
	two, _ := Entries(l, api.Seg{Seq: 1, Fmt: 1, First: 7, Count: 4})
	one[0].Value = 99
	if again, _ := Entries(l, api.Seg{Seq: 1, Fmt: 1, First: 7, Count: 4}); again[0].Value != 0 || two[0].Value != 0 {
		t.Error("answers share memory")
	}
}

// op is an operation.
func op(kind uint8, name, to string, b ...byte) api.Op {
	return api.Op{Kind: kind, Name: name, To: to, Bytes: b}
}

// P13.1: Load tells what the files now tell, of whatever disk.
func TestLoad(t *testing.T) {
	p := base()
	l := p.files()
	slices.SortFunc(l, func(a, b api.File) int { return bytes.Compare([]byte(a.Name), []byte(b.Name)) })
	next := p.m
	next.Term, next.Vote = 7, 3
	other := sure(manifest.Put(next))
	for i, x := range []struct {
		d api.Disk
		m api.Manifest
		e api.Errno
	}{
		{api.Disk{}, api.Manifest{}, api.ErrFile},
		{api.Disk{Files: l, Quota: 1000}, p.m, api.OK},
		{api.Disk{Files: l, Quota: 1000, Dead: true}, p.m, api.OK},
		{api.Disk{Files: l, Quota: 1000, Queue: []api.Op{op(api.OpRemove, "M", "")}}, api.Manifest{}, api.ErrFile},
		{api.Disk{Files: l, Quota: 1000, Queue: []api.Op{op(api.OpCreate, "M", "")}}, api.Manifest{}, api.ErrBroken},
		{api.Disk{Files: l, Quota: 1000, Queue: []api.Op{op(api.OpCreate, "M", ""), op(api.OpAppend, "M", "", other...)}}, next, api.OK},
		{api.Disk{Files: l, Quota: 1000, Queue: []api.Op{op(api.OpRename, "s7.2", "x")}}, api.Manifest{}, api.ErrBroken},
		{api.Disk{Files: l, Quota: -1, Fuse: -1}, p.m, api.OK},
		{api.Disk{Files: append(copied(l), api.File{Name: "M"})}, p.m, api.OK},
		{api.Disk{Files: append([]api.File{{Name: "M", Bytes: other}}, l...)}, next, api.OK},
	} {
		before := disk.Own(x.d)
		got, m, e := Load(x.d)
		want := api.Tuple{}
		if e == api.OK {
			want = p.tuple()
			want.Term, want.Vote = m.Term, m.Vote
		}
		if e != x.e || !manifest.Same(m, x.m) || !tuple.Same(got, want) || !disk.Same(x.d, before) {
			t.Error(i, got, m, e)
		}
	}
}

// P13.1: what Read and Load tell shares memory with nothing.
func TestReadMemory(t *testing.T) {
	p := base()
	l := p.files()
	d := api.Disk{Files: l, Quota: 1000}
	x, m, _ := Read(l)
	y, n, _ := Load(d)
	for i := range x.Log {
		x.Log[i].Value = 77
	}
	m.Segs[0].Seq = 77
	for i := range l {
		for j := range l[i].Bytes {
			l[i].Bytes[j] = 77
		}
	}
	if !tuple.Same(y, p.tuple()) || !manifest.Same(n, p.m) {
		t.Error("what was told was changed by another answer, or by what was handed in")
	}
	if _, _, e := Load(d); e != api.ErrBroken {
		t.Error("what was handed in was kept:", e)
	}
}

// sync stands for a sync among operations.
var sync = api.Op{Kind: 99}

// run does operations, up to the first error.
func run(d api.Disk, l ...api.Op) (api.Disk, api.Errno) {
	d = disk.Own(d)
	for _, o := range l {
		var e api.Errno
		if o.Kind == sync.Kind {
			d, e = disk.Sync(d)
		} else {
			d, e = disk.Do(d, o)
		}
		if e != api.OK {
			return d, e
		}
	}
	return d, api.OK
}

// written is the operations that write a file.
func written(name string, b []byte) []api.Op {
	return []api.Op{op(api.OpCreate, name, ""), op(api.OpAppend, name, "", b...), sync}
}

// swapped is the operations of a swap to m on a disk with those files.
func swapped(m api.Manifest, l []api.File) []api.Op {
	kept := map[string]bool{"M": true, nameOf("p", m.Snap.Seq, m.Snap.Fmt): m.Snap.Seq != 0}
	for _, s := range m.Segs {
		kept[nameOf("s", s.Seq, s.Fmt)] = true
	}
	ops := append(written("M.new", sure(manifest.Put(m))), op(api.OpRename, "M.new", "M"), sync)
	for _, x := range l {
		if !kept[x.Name] && x.Name != "M.new" { // that one has another name then
			ops = append(ops, op(api.OpRemove, x.Name, ""))
		}
	}
	return ops
}

// diskOf is one with those files, some of them not safe yet.
func diskOf(l []api.File, quota, safe int) api.Disk {
	d := disk.New(quota)
	for i, x := range l {
		if i == safe {
			d, _ = disk.Sync(d)
		}
		d, _ = run(d, written(x.Name, x.Bytes)[:2]...)
	}
	if safe >= len(l) {
		d, _ = disk.Sync(d)
	}
	return d
}

// disks are such of all kinds: empty, with files, dead, short of quota, of a queue that is full or all but, and such as may not be.
func disks() []api.Disk {
	l := append(base().files(), api.File{Name: "M.new", Bytes: []byte{1, 2}}, api.File{Name: "a"}, api.File{Name: "zz", Bytes: []byte{5}})
	some := []api.Disk{disk.New(0), disk.New(3), disk.New(500), diskOf(l, 500, 99), diskOf(l, 500, 3), diskOf(l, 500, 0), diskOf(l[:2], 70, 1)}
	used := disk.Used(some[3])
	for more := range 40 {
		some = append(some, diskOf(l, used+more, 99))
	}
	for left := range 9 {
		d := disk.Own(some[4])
		for len(d.Queue) < api.MaxQueue-left {
			d.Queue = append(d.Queue, op(api.OpCreate, "q", ""))
		}
		some = append(some, d)
	}
	var all []api.Disk
	for _, d := range some {
		for fuse := range 15 {
			d := disk.Own(d)
			d.Fuse = fuse
			all = append(all, d)
		}
		d := disk.Own(d)
		d.Dead = true
		all = append(all, d)
	}
	return append(all,
		api.Disk{Quota: -1}, api.Disk{Quota: 9, Fuse: -1}, api.Disk{Files: l, Quota: used}, api.Disk{Files: []api.File{{Name: "M"}}, Quota: -9},
		api.Disk{Files: []api.File{{Name: "b", Bytes: []byte{1}}, {Name: "a"}, {Name: "b"}}, Quota: 9}, api.Disk{Files: []api.File{{}}, Quota: 9},
		api.Disk{Quota: 900, Queue: []api.Op{{Kind: 7, Name: "M"}}}, api.Disk{Files: []api.File{{Name: "M", Bytes: []byte{1}}}},
		api.Disk{Quota: 900, Queue: make([]api.Op, api.MaxQueue+1)})
}

// idents are those of names that may be, and others.
func idents() []api.Ident {
	l := []api.Ident{{}, {Kind: api.FkManifest}, {Kind: api.FkNew}, {Kind: api.FkManifest, Seq: 1}, {Kind: api.FkNew, Fmt: 1}, {Kind: 5, Seq: 1, Fmt: 1}, {Kind: 255}}
	for _, kind := range []uint8{api.FkSegment, api.FkSnap} {
		for _, seq := range []int{math.MinInt, -1, 0, 1, 7, top, top + 1, 1<<32 + 1, math.MaxInt} {
			for _, fmt := range []int{math.MinInt, -1, 0, 1, 2, 3, 1<<32 + 1, math.MaxInt} {
				l = append(l, api.Ident{Kind: kind, Seq: seq, Fmt: fmt})
			}
		}
	}
	return l
}

// nameBy is the name of an ident that may be, else empty.
func nameBy(x api.Ident) string {
	numbered := x.Seq >= 1 && x.Seq <= top && (x.Fmt == 1 || x.Fmt == 2)
	switch {
	case x == api.Ident{Kind: api.FkManifest}:
		return "M"
	case x == api.Ident{Kind: api.FkNew}:
		return "M.new"
	case x.Kind == api.FkSegment && numbered:
		return nameOf("s", x.Seq, x.Fmt)
	case x.Kind == api.FkSnap && numbered:
		return nameOf("p", x.Seq, x.Fmt)
	}
	return ""
}

// P13.2: Put writes by three operations, up to the first error; what may not be is ErrArg, ahead of all that the disk tells.
func TestPut(t *testing.T) {
	told := map[api.Errno]int{}
	for i, d := range disks() {
		before := disk.Own(d)
		for _, x := range idents() {
			for _, b := range [][]byte{nil, {1}, bytes.Repeat([]byte{6, 7}, 15)} {
				want, wantE := before, api.ErrArg
				if name := nameBy(x); name != "" {
					want, wantE = run(d, written(name, b)...)
				} else if i%16 > 1 {
					continue
				}
				got, e := Put(d, x, b)
				if e != wantE || !disk.Same(got, want) {
					t.Fatal(i, x, b, "gave", got, e, "and not", want, wantE)
				}
				told[e]++
			}
		}
		if !disk.Same(d, before) {
			t.Fatal(i, "Put changed what was handed in")
		}
	}
	if told[api.OK] == 0 || told[api.ErrArg] == 0 || told[api.ErrDown] == 0 || told[api.ErrFull] == 0 {
		t.Error("an error was not told:", told)
	}
	d, e := Put(disk.New(5), api.Ident{Kind: api.FkSnap, Seq: 3, Fmt: 2}, []byte{8, 9})
	if e != api.OK || len(d.Queue) != 0 || !sameFiles(d.Files, []api.File{{Name: "p3.2", Bytes: []byte{8, 9}}}) {
		t.Error(d, e)
	}
}

// P13.2: Drop removes what is none of keep's, in order, up to the first error, and syncs nothing.
func TestDrop(t *testing.T) {
	keeps := [][]api.Ident{
		nil, {{Kind: api.FkManifest}}, {{Kind: api.FkNew}, {Kind: api.FkSegment, Seq: 7, Fmt: 2}}, manifest.Keep(base().m), idents(),
		{{}, {Kind: api.FkSegment, Seq: 7, Fmt: 1}, {Kind: api.FkSnap, Seq: 6, Fmt: 1}, {Kind: api.FkSnap, Seq: 6, Fmt: 1}},
	}
	told := map[api.Errno]int{}
	for i, d := range disks() {
		before := disk.Own(d)
		for j, keep := range keeps {
			kept := map[string]bool{}
			for _, x := range keep {
				if name := nameBy(x); name != "" {
					kept[name] = true
				}
			}
			var ops []api.Op
			for _, x := range disk.Now(d) {
				if !kept[x.Name] {
					ops = append(ops, op(api.OpRemove, x.Name, ""))
				}
			}
			want, wantE := run(d, ops...)
			handed := slices.Clone(keep)
			got, e := Drop(d, keep...)
			if e != wantE || !disk.Same(got, want) || !slices.Equal(keep, handed) {
				t.Fatal(i, j, "gave", got, e, "and not", want, wantE)
			}
			told[e]++
		}
		if !disk.Same(d, before) {
			t.Fatal(i, "Drop changed what was handed in")
		}
	}
	if told[api.OK] == 0 || told[api.ErrArg] == 0 || told[api.ErrDown] == 0 || told[api.ErrFull] == 0 {
		t.Error("an error was not told:", told)
	}
	d, e := Drop(diskOf([]api.File{{Name: "M"}, {Name: "b"}, {Name: "c"}}, 9, 9), api.Ident{Kind: api.FkManifest})
	if e != api.OK || len(d.Files) != 3 || len(d.Queue) != 2 || !sameFiles(disk.Now(d), []api.File{{Name: "M"}}) {
		t.Error(d, e)
	}
	if dead, e := Drop(api.Disk{Dead: true}); e != api.OK || !disk.Same(dead, api.Disk{Dead: true}) {
		t.Error("where nothing is to be removed nothing is done:", dead, e)
	}
}

// P13.3: Swap is its operations, in order, up to the first error; what may not be is ErrArg, ahead of all that the disk tells.
func TestSwap(t *testing.T) {
	other := base().m
	other.Snap.Fmt, other.Segs[0] = 2, api.Seg{Seq: 5, Fmt: 2, First: 5, Count: 4}
	wrong := []api.Manifest{{}, {Next: top + 1}, {Next: 1, Vote: 6}, {Next: 1, Term: -1}, {Next: 3, Segs: []api.Seg{{Seq: 3, Fmt: 1, First: 1, Count: 1}}}, {Next: math.MinInt}}
	told := map[api.Errno]int{}
	for i, d := range disks() {
		before := disk.Own(d)
		for j, m := range append(wrong, api.Manifest{Next: 1}, base().m, other, good()[7].m) {
			want, wantE := before, api.ErrArg
			if j >= len(wrong) {
				want, wantE = run(d, swapped(m, disk.Now(d))...)
			}
			handed := manifest.Own(m)
			got, e := Swap(d, m)
			if e != wantE || !disk.Same(got, want) || !manifest.Same(m, handed) {
				t.Fatal(i, j, "gave", got, e, "and not", want, wantE)
			}
			told[e]++
		}
		if !disk.Same(d, before) {
			t.Fatal(i, "Swap changed what was handed in")
		}
	}
	if told[api.OK] == 0 || told[api.ErrArg] == 0 || told[api.ErrDown] == 0 || told[api.ErrFull] == 0 {
		t.Error("an error was not told:", told)
	}
	d, e := Swap(disk.New(100), api.Manifest{Next: 1})
	x, m, f := Load(d)
	if e != api.OK || f != api.OK || len(d.Queue) != 0 || len(d.Files) != 1 || m.Next != 1 || !tuple.Same(x, tuple.First()) {
		t.Error(d, e, x, m, f)
	}
}

// P13.2, P13.3: disks that are told are in memory of their own, beside errors and where nothing is done, too.
func TestDiskMemory(t *testing.T) {
	for i, d := range disks() {
		for j, call := range []func() (api.Disk, api.Errno){
			func() (api.Disk, api.Errno) { return Put(d, api.Ident{}, nil) },
			func() (api.Disk, api.Errno) { return Put(d, api.Ident{Kind: api.FkNew}, []byte{1}) },
			func() (api.Disk, api.Errno) { return Swap(d, api.Manifest{}) },
			func() (api.Disk, api.Errno) { return Swap(d, base().m) },
			func() (api.Disk, api.Errno) { return Drop(d) },
			func() (api.Disk, api.Errno) {
				keep := idents()
				for seq := range 9 {
					for _, kind := range []uint8{api.FkSegment, api.FkSnap} {
						keep = append(keep, api.Ident{Kind: kind, Seq: seq, Fmt: 1}, api.Ident{Kind: kind, Seq: seq, Fmt: 2})
					}
				}
				return Drop(d, keep...)
			},
		} {
			before := disk.Own(d)
			o, _ := call()
			for k := range o.Files {
				o.Files[k].Name = "changed"
				for at := range o.Files[k].Bytes {
					o.Files[k].Bytes[at]++
				}
			}
			for k := range o.Queue {
				o.Queue[k].Name = "changed"
				for at := range o.Queue[k].Bytes {
					o.Queue[k].Bytes[at]++
				}
			}
			if !disk.Same(d, before) {
				t.Fatal(i, j, "what was told shares memory with what was handed in")
			}
		}
	}
	b := []byte{1, 2, 3}
	d, _ := Put(disk.New(9), api.Ident{Kind: api.FkManifest}, b)
	b[0] = 9
	if got, _ := disk.Read(d, "M"); !bytes.Equal(got, []byte{1, 2, 3}) {
		t.Error("the bytes that were handed in are kept:", got)
	}
}

// crashes are the disks behind a crash, wherever it strikes.
func crashes(d api.Disk) []api.Disk {
	var l []api.Disk
	for keep := range len(d.Queue) + 1 {
		torn := 0
		if keep < len(d.Queue) {
			torn = len(d.Queue[keep].Bytes)
		}
		for torn := range torn + 1 {
			l = append(l, disk.Crash(d, keep, torn))
		}
	}
	return l
}

// P13.4: behind a crash within a swap the manifest is the old one, or the new one; its files are as they were, and tell what they told.
func TestSwapCrash(t *testing.T) {
	to := base()
	to.m.Snap, to.s = api.Ref{Seq: 2, Fmt: 2}, state(6)
	to.m.Segs, to.logs = []api.Seg{to.m.Segs[0], {Seq: 3, Fmt: 2, First: 9, Count: 1}}, [][]api.Entry{row(2, 4), row(4, 1)}
	for _, old := range []plain{base(), {m: api.Manifest{Next: 1, Term: 2}}} {
		l := append(old.files(), api.File{Name: "M.new", Bytes: []byte{77}}, api.File{Name: "stray"})
		for _, x := range to.files() {
			if x.Name != "M" && !slices.ContainsFunc(l, func(y api.File) bool { return x.Name == y.Name }) {
				l = append(l, x)
			}
		}
		whole := diskOf(l, 1000, 99)
		seen := map[int]int{}
		for fuse := range 20 {
			d := disk.Own(whole)
			d.Fuse = fuse
			d, e := Swap(d, to.m)
			for _, c := range append(crashes(d), d) {
				x, m, f := Load(c)
				p := old
				if f == api.OK && manifest.Same(m, to.m) {
					p = to
				}
				seen[m.Next]++
				if f != api.OK || !manifest.Same(m, p.m) || !tuple.Same(x, p.tuple()) || e == api.OK && m.Next != to.m.Next {
					t.Fatal(fuse, e, c, "tell", x, m, f)
				}
				for _, y := range p.files() {
					if b, e := disk.Read(c, y.Name); e != api.OK || !bytes.Equal(b, y.Bytes) {
						t.Fatal(fuse, y.Name, "is not as it was:", b, e)
					}
				}
			}
		}
		if len(old.m.Segs) == 0 && len(seen) != 2 {
			t.Error("not both were seen:", seen)
		}
	}
}

// P13.4: what is read may be, whatever files there are.
func TestReadMay(t *testing.T) {
	r := rand.New(rand.NewSource(132))
	read := 0
	for range 4000 {
		l := good()[r.Intn(12)].files()
		for range r.Intn(4) {
			x := &l[r.Intn(len(l))]
			switch r.Intn(4) {
			case 0:
				x.Bytes = x.Bytes[:r.Intn(len(x.Bytes)+1)]
			case 1:
				x.Bytes = append(x.Bytes, byte(r.Intn(256)))
			case 2:
				l = append(l, good()[r.Intn(12)].files()...)
				r.Shuffle(len(l), func(i, j int) { l[i], l[j] = l[j], l[i] })
			case 3:
				l[r.Intn(len(l))].Bytes = slices.Clone(x.Bytes)
			}
		}
		x, m, e := Read(l)
		if e != api.OK {
			continue
		}
		read++
		if !tuple.Right(x) || manifest.Check(m) != api.OK || m.Term != x.Term || m.Vote != x.Vote {
			t.Fatal(l, "tell what may not be:", x, m)
		}
	}
	if read < 500 {
		t.Error("too few are read:", read)
	}
}
