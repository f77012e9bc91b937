package shadow

import (
	"bytes"
	"math"
	"math/rand"
	"slices"
	"strconv"
	"testing"

	"moult/api"
	"moult/either"
	"moult/manifest"
	"moult/snap"
	"moult/store"
	"moult/tuple"
)

const top = 1073741824 // MaxNumber

// value is an entry of that term, and a value.
func value(term, v int) api.Entry {
	return api.Entry{Term: term, Kind: api.EnData, Value: v}
}

// row is so many entries, all of that term, none like another.
func row(term, many int) []api.Entry {
	var l []api.Entry
	for i := range many {
		l = append(l, value(term, i))
	}
	return l
}

// sure is what a call told with OK.
func sure[T any](x T, e api.Errno) T {
	if e != api.OK {
		panic(e)
	}
	return x
}

// nameOf is what a file with a number is called.
func nameOf(letter string, seq, fmt int) string {
	return letter + strconv.Itoa(seq) + "." + strconv.Itoa(fmt)
}

// plain is a directory in parts: the manifest, the snapshot's state, each segment's entries, what else there is.
type plain struct {
	m    api.Manifest
	s    api.State
	logs [][]api.Entry
	rest []api.File
}

// tuple is what the directory tells.
func (p plain) tuple() api.Tuple {
	t := api.Tuple{Snap: api.State{Level: 1}, Term: p.m.Term, Vote: p.m.Vote}
	if p.m.Snap.Seq > 0 {
		t.Snap = p.s
	}
	for i, s := range p.m.Segs {
		for j, x := range p.logs[i] {
			if s.First+j > t.Snap.Index {
				t.Log = append(t.Log, x)
			}
		}
	}
	return t
}

// files are the directory's.
func (p plain) files() []api.File {
	l := append([]api.File{{Name: "M", Bytes: sure(manifest.Put(p.m))}}, p.rest...)
	if p.m.Snap.Seq != 0 {
		l = append(l, api.File{Name: nameOf("p", p.m.Snap.Seq, p.m.Snap.Fmt), Bytes: sure(snap.Put(p.s, p.m.Snap.Fmt))})
	}
	for i, s := range p.m.Segs {
		l = append(l, api.File{Name: nameOf("s", s.Seq, s.Fmt), Bytes: sure(either.File(s.Fmt, s.First, p.logs[i]...))})
	}
	slices.SortFunc(l, func(a, b api.File) int { return bytes.Compare([]byte(a.Name), []byte(b.Name)) })
	return l
}

// single is a directory of one segment of so many entries.
func single(fmt, many, count int) plain {
	return plain{m: api.Manifest{Next: 4, Term: 9, Vote: 1, Segs: []api.Seg{{Seq: 2, Fmt: fmt, First: 1, Count: count}}}, logs: [][]api.Entry{row(3, many)}}
}

// small is a directory of so many closed segments of one entry each.
func small(many int) plain {
	p := plain{m: api.Manifest{Next: 100, Term: 9}}
	for i := range many {
		p.m.Segs = append(p.m.Segs, api.Seg{Seq: 99 - i, Fmt: 1 + i%2, First: i + 1, Count: 1})
		p.logs = append(p.logs, row(3, 1))
	}
	return p
}

// places are directories of all kinds.
func places() []plain {
	var full plain
	full.m = api.Manifest{Next: 51, Term: 9}
	for i := range 50 {
		full.m.Segs = append(full.m.Segs, api.Seg{Seq: 50 - i, Fmt: 1 + i%2, First: 1 + 4*i, Count: 4})
		full.logs = append(full.logs, row(1, 4))
	}
	full.m.Segs[49].Count, full.logs[49] = -1, row(1, 1)
	s := api.State{Index: 5, Term: 2, Sum: 5, Level: 2}
	two := [][]api.Entry{row(2, 4), row(3, 2)}
	// Entries that the snapshot has are no tuple's: their terms may be any.
	elder := [][]api.Entry{row(7, 2), row(6, 1), row(8, 1), append(row(9, 1), row(3, 2)...), row(3, 1), row(4, 3)}
	segs := []api.Seg{{Seq: 4, Fmt: 2, First: 1, Count: 2}, {Seq: 12, Fmt: 1, First: 3, Count: 1}, {Seq: 1, Fmt: 2, First: 4, Count: 1}, {Seq: 9, Fmt: 2, First: 5, Count: 3}, {Seq: 7, Fmt: 1, First: 8, Count: 1}, {Seq: 8, Fmt: 2, First: 9, Count: -1}}
	stray := []api.File{{Name: "M.new", Bytes: []byte{1}}, {Name: "a"}, {Name: "p9.1", Bytes: []byte{6, 6}}, {Name: "p9.2"}, {Name: "s9.1", Bytes: []byte{7}}, {Name: "s9.2", Bytes: []byte{7}}}
	return []plain{
		{m: api.Manifest{Next: 1, Term: 9}},
		{m: api.Manifest{Next: 9, Term: 9, Vote: 5, Snap: api.Ref{Seq: 3, Fmt: 1}}, s: s, rest: stray},
		single(1, 1, -1), single(1, 3, -1), single(1, 4, -1), single(1, 2, 2), single(1, 4, 4),
		single(2, 1, -1), single(2, 2, -1), single(2, 4, -1), single(2, 3, 3), single(2, 4, 4),
		{m: api.Manifest{Next: 9, Term: 9, Vote: 1, Snap: api.Ref{Seq: 6, Fmt: 1}, Segs: []api.Seg{{Seq: 7, Fmt: 2, First: 5, Count: 4}, {Seq: 8, Fmt: 1, First: 9, Count: -1}}}, s: s, logs: two, rest: stray},
		{m: api.Manifest{Next: 9, Term: 9, Snap: api.Ref{Seq: 6, Fmt: 2}, Segs: []api.Seg{{Seq: 7, Fmt: 1, First: 2, Count: 4}, {Seq: 8, Fmt: 2, First: 6, Count: -1}}}, s: s, logs: two},
		{m: api.Manifest{Next: 13, Term: 9, Vote: 3, Snap: api.Ref{Seq: 6, Fmt: 2}, Segs: segs}, s: s, logs: elder},
		{m: api.Manifest{Next: 13, Term: 9, Vote: 3, Snap: api.Ref{Seq: 6, Fmt: 2}, Segs: segs[2:5]}, s: s, logs: elder[2:5]},
		small(59), small(60),
		{m: api.Manifest{Next: top - 1, Term: 9, Segs: []api.Seg{{Seq: 2, Fmt: 1, First: 1, Count: -1}}}, logs: [][]api.Entry{row(2, 2)}},
		{m: api.Manifest{Next: top, Term: top, Segs: []api.Seg{{Seq: 2, Fmt: 2, First: 1, Count: 2}, {Seq: 3, Fmt: 1, First: 3, Count: -1}}}, logs: [][]api.Entry{row(2, 2), row(2, 2)}},
		full,
	}
}

// ident is what a file's name says.
func ident(kind uint8, seq, fmt int) api.Ident {
	return api.Ident{Kind: kind, Seq: seq, Fmt: fmt}
}

// parts are the idents of a manifest's things, in order.
func parts(m api.Manifest) []api.Ident {
	var l []api.Ident
	if m.Snap.Seq != 0 {
		l = append(l, ident(4, m.Snap.Seq, m.Snap.Fmt))
	}
	for _, s := range m.Segs {
		l = append(l, ident(3, s.Seq, s.Fmt))
	}
	return l
}

// shadow is what the file of the directory's thing at that place is to say in a format.
func (p plain) shadow(at, fmt int) []byte {
	if p.m.Snap.Seq != 0 {
		if at == 0 {
			return sure(snap.Put(p.s, fmt))
		}
		at--
	}
	return sure(either.File(fmt, p.m.Segs[at].First, p.logs[at]...))
}

// formats are those that there are, and others.
var formats = []int{1, 2, 0, 3, -1, 1<<32 + 1, 1<<32 + 2, math.MinInt, math.MaxInt}

// odd is a manifest such as nothing makes.
func odd(r *rand.Rand) api.Manifest {
	some := func() int {
		return []int{0, 1, 2, 3, -1, 7, top, math.MinInt, math.MaxInt}[r.Intn(9)]
	}
	m := api.Manifest{Next: some(), Term: some(), Vote: some(), Snap: api.Ref{Seq: some(), Fmt: some()}}
	for range r.Intn(6) {
		m.Segs = append(m.Segs, api.Seg{Seq: some(), Fmt: some(), First: some(), Count: some()})
	}
	return m
}

// manifests are those of all places, and such as nothing makes.
func manifests() []api.Manifest {
	var l []api.Manifest
	for _, p := range places() {
		l = append(l, p.m)
	}
	r := rand.New(rand.NewSource(17))
	for range 500 {
		l = append(l, odd(r))
	}
	return append(l, api.Manifest{})
}

// P17.1: Next is the first thing whose Fmt is another one, Left is how many there are.
func TestNext(t *testing.T) {
	found := 0
	for _, m := range manifests() {
		before := manifest.Own(m)
		for _, fmt := range formats {
			var others []api.Ident
			for _, x := range parts(m) {
				if x.Fmt != fmt {
					others = append(others, x)
				}
			}
			x, ok := Next(m, fmt)
			if many := Left(m, fmt); many != len(others) || ok != (many > 0) {
				t.Fatal(m, fmt, many, ok)
			}
			if ok && x != others[0] || !ok && x != (api.Ident{}) {
				t.Fatal(m, fmt, x)
			}
			if ok {
				found++
			}
		}
		if !manifest.Same(m, before) {
			t.Fatal("what was handed in was changed")
		}
	}
	if found < 1000 {
		t.Error("too few:", found)
	}
	both := api.Manifest{Snap: api.Ref{Seq: 5, Fmt: 2}, Segs: []api.Seg{{Seq: 1, Fmt: 1}, {Seq: 2, Fmt: 2}, {Seq: 3, Fmt: 1}}}
	if x, ok := Next(both, 1); x != ident(4, 5, 2) || !ok || Left(both, 1) != 2 {
		t.Error("the snapshot is ahead:", x)
	}
	if x, ok := Next(both, 2); x != ident(3, 1, 1) || !ok || Left(both, 2) != 2 {
		t.Error("the first segment:", x)
	}
	both.Snap.Seq = 0
	if x, ok := Next(both, 1); x != ident(3, 2, 2) || !ok || Left(both, 1) != 1 {
		t.Error("there is no snapshot:", x)
	}
	if x, ok := Next(both, 0); x != ident(3, 1, 1) || !ok || Left(both, 0) != 3 {
		t.Error("no format:", x)
	}
	if x, ok := Next(api.Manifest{Snap: api.Ref{Seq: -3, Fmt: 9}}, 2); x != ident(4, -3, 9) || !ok {
		t.Error("any manifest:", x)
	}
	if _, ok := Next(api.Manifest{}, 1); ok || Left(api.Manifest{}, 1) != 0 || Left(api.Manifest{}, 0) != 0 {
		t.Error("an empty one")
	}
}

// P17.1: Of is the ident with that Fmt, whatever both are.
func TestOf(t *testing.T) {
	for _, kind := range []uint8{0, 1, 2, 3, 4, 5, 255} {
		for _, seq := range formats {
			for _, from := range formats {
				for _, to := range formats {
					if got := Of(ident(kind, seq, from), to); got != ident(kind, seq, to) {
						t.Fatal(kind, seq, from, to, got)
					}
				}
			}
		}
	}
}

// P17.2: the shadow of a thing says the same, in that format, at once.
func TestBytes(t *testing.T) {
	for i, p := range places() {
		l := p.files()
		for at, x := range parts(p.m) {
			for fmt := 1; fmt <= 2; fmt++ {
				b, e := Bytes(l, p.m, x, fmt)
				if e != api.OK || !bytes.Equal(b, p.shadow(at, fmt)) {
					t.Fatal(i, x, fmt, b, e)
				}
			}
			for _, fmt := range formats[2:] {
				if b, e := Bytes(l, p.m, x, fmt); e != api.ErrArg || b != nil {
					t.Fatal(i, x, "in", fmt, "gave", b, e)
				}
				if b, e := Bytes(nil, p.m, x, fmt); e != api.ErrArg || b != nil {
					t.Fatal(i, x, "in", fmt, "without a file gave", b, e)
				}
			}
			if b, e := Bytes(nil, p.m, x, 2); e != api.ErrBroken || b != nil {
				t.Fatal(i, "without a file", b, e)
			}
		}
	}
	two := []api.File{{Name: "s1.1", Bytes: sure(either.File(1, 5, value(1, 2)))}}
	m := api.Manifest{Next: 2, Term: 1, Segs: []api.Seg{{Seq: 1, Fmt: 1, First: 5, Count: 1}}}
	b, e := Bytes(two, m, ident(3, 1, 1), 2)
	if e != api.OK || !bytes.Equal(b[:6], []byte{2, 5, 1, 1, 1, 2}) || len(b) != 10 {
		t.Error(b, e)
	}
	b, e = Bytes(two, m, ident(3, 1, 1), 1)
	if e != api.OK || !bytes.Equal(b[:17], []byte{1, 0, 0, 0, 0, 5, 0, 0, 0, 0, 1, 1, 0, 0, 0, 0, 2}) || len(b) != 21 {
		t.Error(b, e)
	}
}

// P17.2: what is no thing of the manifest's has no shadow, be there a file or not.
func TestNoThing(t *testing.T) {
	for i, p := range places() {
		l := p.files()
		are := parts(p.m)
		for kind := range uint8(6) {
			for _, seq := range append([]int{3, 6, 7, 8, 9, top, p.m.Next}, formats...) {
				for _, of := range formats {
					x := ident(kind, seq, of)
					if slices.Contains(are, x) {
						continue
					}
					for fmt := 1; fmt <= 2; fmt++ {
						if b, e := Bytes(l, p.m, x, fmt); e != api.ErrArg || b != nil {
							t.Fatal(i, x, fmt, b, e)
						}
					}
				}
			}
		}
	}
	none := api.Manifest{Snap: api.Ref{Seq: 0, Fmt: 1}}
	if b, e := Bytes([]api.File{{Name: "p0.1"}}, none, ident(4, 0, 1), 2); e != api.ErrArg || b != nil {
		t.Error("there is no snapshot:", b, e)
	}
	if b, e := Bytes(nil, api.Manifest{Segs: []api.Seg{{}}}, api.Ident{}, 2); e != api.ErrArg || b != nil {
		t.Error("no kind:", b, e)
	}
}

// P17.2: what may not be named has no file, and so it does not tell.
func TestUnnamed(t *testing.T) {
	l := []api.File{{Name: ""}, {Name: "s0.1", Bytes: sure(either.File(1, 1))}, {Name: "p-3.1"}, {Name: "s5.3", Bytes: sure(either.File(1, 1, value(1, 1)))}}
	for _, s := range []api.Seg{{Seq: 0, Fmt: 1, First: 1}, {Seq: -3, Fmt: 1, First: 1}, {Seq: 5, Fmt: 3, First: 1, Count: 1}, {Seq: top + 1, Fmt: 1, First: 1, Count: 1}, {}} {
		m := api.Manifest{Segs: []api.Seg{s}}
		if b, e := Bytes(l, m, ident(3, s.Seq, s.Fmt), 2); e != api.ErrBroken || b != nil {
			t.Error(s, b, e)
		}
	}
	for _, r := range []api.Ref{{Seq: -3, Fmt: 1}, {Seq: 3, Fmt: 0}, {Seq: math.MinInt, Fmt: 2}, {Seq: 1<<32 + 1, Fmt: 2}} {
		if b, e := Bytes(l, api.Manifest{Snap: r}, ident(4, r.Seq, r.Fmt), 1); e != api.ErrBroken || b != nil {
			t.Error(r, b, e)
		}
	}
}

// told is what a segment's file tells by chapter 13, or ErrBroken.
func told(b []byte, s api.Seg) ([]api.Entry, api.Errno) {
	scan, e := either.Scan(b, s.Fmt)
	many := len(scan.Log)
	if e != api.OK || scan.First != s.First || many != s.Count && (s.Count != -1 || many < 1 || many > 4) {
		return nil, api.ErrBroken
	}
	return scan.Log, api.OK
}

// P17.2: a file that does not tell; what is behind a segment's entries is no matter.
func TestBroken(t *testing.T) {
	broken, fine := 0, 0
	for i, p := range places() {
		if len(p.m.Segs) > 10 {
			continue
		}
		all := p.files()
		for at, x := range parts(p.m) {
			its := slices.IndexFunc(all, func(y api.File) bool {
				return y.Name == nameOf(map[uint8]string{3: "s", 4: "p"}[x.Kind], x.Seq, x.Fmt)
			})
			whole := all[its].Bytes
			var files [][]byte
			for n := range whole {
				files = append(files, whole[:n])
				wrong := slices.Clone(whole)
				wrong[n] ^= 1
				files = append(files, wrong)
			}
			files = append(files, append(slices.Clone(whole), 0), append(slices.Clone(whole), whole...), []byte{1}, []byte{2, 1})
			for _, b := range files {
				l := slices.Clone(all)
				l[its].Bytes = b
				for fmt := 1; fmt <= 2; fmt++ {
					got, e := Bytes(l, p.m, x, fmt)
					if e != api.OK && (e != api.ErrBroken || got != nil) {
						t.Fatal(i, got, e)
					}
					if x.Kind == 4 {
						if e != api.ErrBroken {
							t.Fatal(i, "that is no snapshot:", b)
						}
						broken++
						continue
					}
					s := p.m.Segs[at-len(parts(p.m))+len(p.m.Segs)]
					log, f := told(b, s)
					if e != f || e == api.OK && !bytes.Equal(got, sure(either.File(fmt, s.First, log...))) {
						t.Fatal(i, x, b, "gave", got, e)
					}
					if e == api.OK {
						fine++
					} else {
						broken++
					}
				}
			}
		}
	}
	if broken < 1000 || fine < 30 {
		t.Error("too few:", broken, fine)
	}
}

// P17.2: how many entries there are to be, and of which first index.
func TestCount(t *testing.T) {
	for many := range 9 {
		for from := 1; from <= 2; from++ {
			l := []api.File{{Name: nameOf("s", 3, from), Bytes: sure(either.File(from, 7, row(2, many)...))}}
			for count := -2; count < 10; count++ {
				for _, first := range []int{7, 6, 8, 0, -7, 7 + 1<<32} {
					m := api.Manifest{Segs: []api.Seg{{Seq: 3, Fmt: from, First: first, Count: count}}}
					for fmt := 1; fmt <= 2; fmt++ {
						b, e := Bytes(l, m, ident(3, 3, from), fmt)
						tells := first == 7 && (count == many || count == -1 && many >= 1 && many <= 4)
						if tells && (e != api.OK || !bytes.Equal(b, sure(either.File(fmt, 7, row(2, many)...)))) || !tells && (e != api.ErrBroken || b != nil) {
							t.Fatal(many, from, count, first, fmt, b, e)
						}
					}
				}
			}
		}
	}
}

// P17.2: entries that were put one by one are put at once.
func TestAtOnce(t *testing.T) {
	b := sure(either.File(2, 1, value(1, 1)))
	for i := 2; i <= 4; i++ {
		b = append(b, sure(either.More(b, 2, value(1, i)))...)
	}
	log := []api.Entry{value(1, 1), value(1, 2), value(1, 3), value(1, 4)}
	m := api.Manifest{Next: 2, Term: 1, Segs: []api.Seg{{Seq: 1, Fmt: 2, First: 1, Count: 4}}}
	l := []api.File{{Name: "s1.2", Bytes: b}}
	for fmt := 1; fmt <= 2; fmt++ {
		got, e := Bytes(l, m, ident(3, 1, 2), fmt)
		if e != api.OK || !bytes.Equal(got, sure(either.File(fmt, 1, log...))) || bytes.Equal(got, b) {
			t.Error(fmt, got, e)
		}
	}
}

// P17.2, P17.3: of things of one ident the first one counts, and of files of one name.
func TestTwice(t *testing.T) {
	seg := func(first, count int) api.Seg {
		return api.Seg{Seq: 3, Fmt: 1, First: first, Count: count}
	}
	one := api.File{Name: "s3.1", Bytes: sure(either.File(1, 5, row(2, 3)...))}
	two := api.File{Name: "s3.1", Bytes: sure(either.File(1, 8, row(2, 1)...))}
	x := ident(3, 3, 1)
	right := api.Manifest{Segs: []api.Seg{seg(5, 3), seg(8, 1)}}
	wrong := api.Manifest{Segs: []api.Seg{seg(8, 1), seg(5, 3)}}
	if b, e := Bytes([]api.File{one, two}, right, x, 2); e != api.OK || !bytes.Equal(b, sure(either.File(2, 5, row(2, 3)...))) {
		t.Error(b, e)
	}
	if b, e := Bytes([]api.File{one, two}, wrong, x, 2); e != api.ErrBroken || b != nil {
		t.Error(b, e)
	}
	if b, e := Bytes([]api.File{two, one}, wrong, x, 2); e != api.OK || !bytes.Equal(b, sure(either.File(2, 8, row(2, 1)...))) {
		t.Error(b, e)
	}
	if !Says([]api.File{one, two}, x, one.Bytes) || Says([]api.File{one, two}, x, two.Bytes) {
		t.Error("the first file of a name")
	}
	if got := Turned(right, x, 2); got.Segs[0] != (api.Seg{Seq: 3, Fmt: 2, First: 5, Count: 3}) || got.Segs[1] != seg(8, 1) {
		t.Error(got)
	}
}

// P17.2: Says tells whether there is a file of that ident, with just these bytes.
func TestSays(t *testing.T) {
	l := []api.File{{Name: "M", Bytes: []byte{1}}, {Name: "p2.1"}, {Name: "s2.1", Bytes: []byte{1, 2, 3}}, {Name: "", Bytes: []byte{4}}, {Name: "s0.1", Bytes: []byte{4}}, {Name: "s02.2", Bytes: []byte{4}}}
	for _, x := range []struct {
		ident api.Ident
		b     []byte
		so    bool
	}{
		{ident(3, 2, 1), []byte{1, 2, 3}, true},
		{ident(3, 2, 1), []byte{1, 2}, false},
		{ident(3, 2, 1), []byte{1, 2, 3, 0}, false},
		{ident(3, 2, 1), []byte{1, 2, 4}, false},
		{ident(3, 2, 1), nil, false},
		{ident(3, 2, 2), []byte{1, 2, 3}, false},
		{ident(4, 2, 1), nil, true},
		{ident(4, 2, 1), []byte{}, true},
		{ident(4, 2, 1), []byte{0}, false},
		{ident(4, 3, 1), nil, false},
		{ident(1, 0, 0), []byte{1}, true},
		{ident(2, 0, 0), nil, false},
		{ident(1, 1, 0), []byte{1}, false},
		{ident(0, 0, 0), []byte{4}, false},
		{ident(3, 0, 1), []byte{4}, false},
		{ident(3, 2, 2), []byte{4}, false},
		{ident(3, 1<<32+2, 1), []byte{1, 2, 3}, false},
		{ident(3, 2, 3), nil, false},
	} {
		if Says(l, x.ident, x.b) != x.so || Says(nil, x.ident, x.b) {
			t.Error(x)
		}
	}
	for i, p := range places() {
		l := p.files()
		for at, x := range parts(p.m) {
			for fmt := 1; fmt <= 2; fmt++ {
				if Says(l, Of(x, fmt), p.shadow(at, fmt)) != (fmt == x.Fmt) {
					t.Error(i, x, fmt)
				}
			}
		}
	}
}

// turned is m with the first thing of that ident in a format.
func turned(m api.Manifest, x api.Ident, fmt int) api.Manifest {
	l := slices.Clone(m.Segs)
	m.Segs = l
	if m.Snap.Seq != 0 && x == ident(4, m.Snap.Seq, m.Snap.Fmt) {
		m.Snap.Fmt = fmt
		return m
	}
	for i, s := range l {
		if x == ident(3, s.Seq, s.Fmt) {
			l[i].Fmt = fmt
			return m
		}
	}
	return m
}

// P17.3: Turned is the manifest with the first thing of that ident in that format; all else is as it was.
func TestTurned(t *testing.T) {
	did := 0
	for _, m := range manifests() {
		before := manifest.Own(m)
		for _, x := range append(parts(m), ident(3, 7, 1), ident(4, 7, 2), ident(4, 0, 1), ident(4, 0, 0), ident(1, 0, 0), api.Ident{}) {
			for _, fmt := range formats {
				want := turned(m, x, fmt)
				got := Turned(m, x, fmt)
				if !manifest.Same(got, want) {
					t.Fatal(m, x, fmt, "gave", got)
				}
				if !manifest.Same(got, m) {
					did++
				}
				for i := range got.Segs {
					got.Segs[i].Seq++
				}
				if !manifest.Same(m, before) {
					t.Fatal("what was handed in was changed, or is shared")
				}
			}
		}
	}
	if did < 1000 {
		t.Error("too few:", did)
	}
	m := api.Manifest{Next: 9, Term: 4, Vote: 2, Snap: api.Ref{Seq: 3, Fmt: 1}, Segs: []api.Seg{{Seq: 3, Fmt: 1, First: 7, Count: 2}, {Seq: 4, Fmt: 2, First: 9, Count: -1}}}
	if got := Turned(m, ident(4, 3, 1), 2); got.Snap != (api.Ref{Seq: 3, Fmt: 2}) || !slices.Equal(got.Segs, m.Segs) || got.Next != 9 || got.Term != 4 || got.Vote != 2 {
		t.Error(got)
	}
	if got := Turned(m, ident(3, 3, 1), 2); got.Snap != m.Snap || got.Segs[0] != (api.Seg{Seq: 3, Fmt: 2, First: 7, Count: 2}) || got.Segs[1] != m.Segs[1] {
		t.Error(got)
	}
	if got := Turned(m, ident(3, 4, 1), 2); !manifest.Same(got, m) {
		t.Error("that is another thing's ident:", got)
	}
	roomy := m
	roomy.Segs = make([]api.Seg, 2, 9)
	copy(roomy.Segs, m.Segs)
	got := Turned(roomy, ident(1, 0, 0), 2)
	got.Segs = append(got.Segs, api.Seg{Seq: 77})
	if got := roomy.Segs[:3][2]; got != (api.Seg{}) {
		t.Error("spare room was changed:", got)
	}
}

// P17.2: what is handed in is not changed, and not kept; answers share no memory.
func TestMemory(t *testing.T) {
	for i, p := range places() {
		l := p.files()
		for at, x := range parts(p.m) {
			for fmt := 1; fmt <= 2; fmt++ {
				before := p.files()
				m := manifest.Own(p.m)
				b, _ := Bytes(l, p.m, x, fmt)
				again, _ := Bytes(l, p.m, x, fmt)
				for n := range again {
					again[n]++
				}
				if !bytes.Equal(b, p.shadow(at, fmt)) {
					t.Fatal(i, "answers share memory")
				}
				Says(l, x, b[:2])
				if !slices.EqualFunc(l, before, func(a, b api.File) bool { return a.Name == b.Name && bytes.Equal(a.Bytes, b.Bytes) }) || !manifest.Same(p.m, m) {
					t.Fatal(i, "what was handed in was changed, or is shared")
				}
			}
		}
	}
}

// P17.4: things turn one by one, shadows beside the files: the tuple stays, and there is one less each time.
func TestTurning(t *testing.T) {
	for i, p := range places() {
		for fmt := 1; fmt <= 2; fmt++ {
			l, m := p.files(), p.m
			many := Left(m, fmt)
			for {
				x, ok := Next(m, fmt)
				if !ok {
					break
				}
				b, e := Bytes(l, m, x, fmt)
				if e != api.OK {
					t.Fatal(i, e)
				}
				name := nameOf(map[uint8]string{3: "s", 4: "p"}[x.Kind], x.Seq, fmt)
				l = slices.DeleteFunc(l, func(y api.File) bool { return y.Name == name })
				if Says(l, Of(x, fmt), b) {
					t.Fatal(i, "it is not there yet")
				}
				l = append(l, api.File{Name: name, Bytes: b})
				if !Says(l, Of(x, fmt), b) {
					t.Fatal(i, "it is there")
				}
				if told, is, e := store.Read(l); e != api.OK || !tuple.Same(told, p.tuple()) || !manifest.Same(is, m) {
					t.Fatal(i, "a shadow changes nothing:", e)
				}
				m = Turned(m, x, fmt)
				many--
				if Left(m, fmt) != many {
					t.Fatal(i, "there is one less")
				}
				l[slices.IndexFunc(l, func(y api.File) bool { return y.Name == "M" })].Bytes = sure(manifest.Put(m))
				if told, is, e := store.Read(l); e != api.OK || !tuple.Same(told, p.tuple()) || !manifest.Same(is, m) {
					t.Fatal(i, "turned it tells the same:", e)
				}
			}
			if many != 0 || fmt == 1 && manifest.Two(m) {
				t.Fatal(i, many)
			}
			// All that is left in the one format goes back, to the bytes that it would be put with.
			for at, x := range parts(m) {
				b, e := Bytes(l, m, x, 3-fmt)
				if e != api.OK || !bytes.Equal(b, p.shadow(at, 3-fmt)) {
					t.Fatal(i, b, e)
				}
			}
		}
	}
}
