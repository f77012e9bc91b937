package manifest

import (
	"bytes"
	"encoding/binary"
	"hash/crc32"
	"math"
	"reflect"
	"slices"
	"testing"

	"moult/api"
	"moult/names"
)

const top = 1073741824 // MaxNumber

// edges are numbers at which something comes to it, and those beside them, and great ones.
func edges() []int {
	return []int{
		0, 1, 2, 3, 4, 5, 6, 7, 8, 9, 10, 59, 60, 61, 127, 128, 129, 255, 256, 257, 258, 16383, 16384, 2097152, 268435455, 268435456,
		top - 6, top - 5, top - 4, top - 3, top - 2, top - 1, top, top + 1, 1<<31 - 1, 1 << 31, 1<<32 - 1, 1 << 32, 1<<32 + 1, 1<<32 + 2,
		math.MaxInt - 4, math.MaxInt - 1, math.MaxInt, math.MinInt, math.MinInt + 1, -1 << 32, -256, -255, -5, -4, -3, -2, -1,
	}
}

// row is so many segments, one behind the other, from that index on, all of them closed, their numbers from seq on.
func row(seq, first, many int) []api.Seg {
	var l []api.Seg
	for i := range many {
		s := api.Seg{Seq: seq + i, Fmt: 1 + i%2, First: first, Count: 1 + i%4}
		l, first = append(l, s), first+s.Count
	}
	return l
}

// opened is those segments, the last one open.
func opened(l []api.Seg) []api.Seg {
	l = slices.Clone(l)
	l[len(l)-1].Count = -1
	return l
}

// good are manifests that may be: empty ones, full ones, at all edges.
func good() []api.Manifest {
	return []api.Manifest{
		{Next: 1},
		{Next: 1, Segs: []api.Seg{}},
		{Next: top, Term: top, Vote: 5},
		{Next: 300, Term: 5, Vote: 1},
		{Next: 2, Snap: api.Ref{Seq: 1, Fmt: 1}},
		{Next: top, Term: 1, Snap: api.Ref{Seq: top - 1, Fmt: 2}},
		{Next: 2, Segs: []api.Seg{{Seq: 1, Fmt: 1, First: 1, Count: 1}}},
		{Next: 2, Segs: []api.Seg{{Seq: 1, Fmt: 2, First: 1, Count: -1}}},
		{Next: 2, Segs: []api.Seg{{Seq: 1, Fmt: 2, First: 1, Count: 4}}},
		{Next: top, Segs: []api.Seg{{Seq: top - 1, Fmt: 2, First: top - 4, Count: -1}}},
		{Next: top, Segs: []api.Seg{{Seq: top - 1, Fmt: 2, First: top - 4, Count: 4}}},
		{Next: 9, Segs: []api.Seg{{Seq: 8, Fmt: 2, First: top - 8, Count: 4}, {Seq: 1, Fmt: 1, First: top - 4, Count: -1}}},
		{Next: 5, Term: 3, Vote: 2, Snap: api.Ref{Seq: 3, Fmt: 2}, Segs: []api.Seg{{Seq: 4, Fmt: 1, First: 300, Count: 4}, {Seq: 1, Fmt: 2, First: 304, Count: 3}, {Seq: 2, Fmt: 2, First: 307, Count: -1}}},
		{Next: 200, Term: 129, Vote: 3, Snap: api.Ref{Seq: 128, Fmt: 1}, Segs: row(129, 16380, 30)},
		{Next: 61, Term: 1, Segs: row(1, 1, 60)},
		{Next: 62, Term: 1, Snap: api.Ref{Seq: 61, Fmt: 2}, Segs: opened(row(1, 128, 60))},
	}
}

// may tells by the chapter's words whether m may be.
func may(m api.Manifest) bool {
	within := func(n, low, high int) bool { return n >= low && n <= high }
	file := func(seq, format int) bool { return within(seq, 1, m.Next-1) && within(format, 1, 2) }
	fine := within(m.Next, 1, top) && within(m.Term, 0, top) && within(m.Vote, 0, 5) && len(m.Segs) <= 60
	fine = fine && (m.Snap == api.Ref{} || file(m.Snap.Seq, m.Snap.Fmt))
	for i, s := range m.Segs {
		fine = fine && file(s.Seq, s.Fmt) && s.Seq != m.Snap.Seq && within(s.First, 1, top-4)
		fine = fine && (within(s.Count, 1, 4) || s.Count == -1 && i == len(m.Segs)-1)
		for j, other := range m.Segs[:min(i, 61)] {
			fine = fine && s.Seq != other.Seq
			fine = fine && (j != i-1 || s.First == other.First+other.Count)
		}
	}
	return fine
}

// raw is the bytes of m by the chapter's words, whether it may be or not (of numbers from 0 on, and a Count from -1 on).
func raw(m api.Manifest) []byte {
	l := []int{m.Next, m.Term, m.Vote, m.Snap.Seq, m.Snap.Fmt, len(m.Segs)}
	for _, s := range m.Segs {
		l = append(l, s.Seq, s.Fmt, s.First, s.Count+1)
	}
	return sealed(append([]byte{77}, shorts(l...)...))
}

// shorts is short bytes, worked out from the last digit on.
func shorts(l ...int) []byte {
	var b []byte
	for _, n := range l {
		short := []byte{byte(n % 128)}
		for n /= 128; n > 0; n /= 128 {
			short = append([]byte{byte(n%128 + 128)}, short...)
		}
		b = append(b, short...)
	}
	return b
}

// sealed is b, and the four bytes of its sum, by the library's.
func sealed(b []byte) []byte {
	return binary.LittleEndian.AppendUint32(slices.Clone(b), crc32.Checksum(b, crc32.MakeTable(crc32.Castagnoli)))
}

// alike tells whether both are the same, field by field.
func alike(a, b api.Manifest) bool {
	if len(a.Segs) == 0 && len(b.Segs) == 0 {
		a.Segs, b.Segs = nil, nil
	}
	return reflect.DeepEqual(a, b)
}

// changed goes over manifests that are m but for one number, which is each of the edges.
func changed(m api.Manifest, yield func(api.Manifest)) {
	for _, n := range edges() {
		for at := range 5 + 4*len(m.Segs) {
			o := m
			o.Segs = slices.Clone(m.Segs)
			*numberOf(&o, at) = n
			yield(o)
		}
	}
}

// numberOf is the place of m's number at that place.
func numberOf(m *api.Manifest, at int) *int {
	own := []*int{&m.Next, &m.Term, &m.Vote, &m.Snap.Seq, &m.Snap.Fmt}
	if at < len(own) {
		return own[at]
	}
	s := &m.Segs[(at-len(own))/4]
	return []*int{&s.Seq, &s.Fmt, &s.First, &s.Count}[(at-len(own))%4]
}

// others are manifests of all kinds: such as may be, those with another number, and such as nothing makes.
func others() []api.Manifest {
	l := append(good(), api.Manifest{})
	for _, m := range good() {
		if len(m.Segs) < 10 {
			changed(m, func(o api.Manifest) { l = append(l, o) })
		}
	}
	l = append(l,
		api.Manifest{Next: 62, Segs: row(1, 1, 61)},
		api.Manifest{Next: 63, Snap: api.Ref{Seq: 62, Fmt: 1}, Segs: opened(row(1, 1, 61))},
		api.Manifest{Next: top, Segs: row(1, 1, 5000)},
		api.Manifest{Next: -1, Term: -1, Vote: -1, Snap: api.Ref{Seq: -1, Fmt: -1}, Segs: []api.Seg{{Seq: -1, Fmt: -1, First: -1, Count: -1}}},
		api.Manifest{Next: math.MinInt, Term: math.MinInt, Vote: math.MinInt, Snap: api.Ref{Seq: math.MinInt, Fmt: math.MinInt}, Segs: []api.Seg{{Seq: math.MinInt, Fmt: math.MinInt, First: math.MinInt, Count: math.MinInt}, {}}},
		api.Manifest{Next: math.MaxInt, Term: math.MaxInt, Vote: math.MaxInt, Snap: api.Ref{Seq: math.MaxInt, Fmt: math.MaxInt}, Segs: []api.Seg{{Seq: math.MaxInt, Fmt: math.MaxInt, First: math.MaxInt, Count: math.MaxInt}, {}}},
		api.Manifest{Next: 9, Segs: make([]api.Seg, 3)},
		api.Manifest{Next: 9, Segs: make([]api.Seg, 100)},
	)
	return l
}

// P11.1: what may be, and what may not, each edge of each number.
func TestCheck(t *testing.T) {
	for i, m := range good() {
		if e := Check(m); e != api.OK || !may(m) {
			t.Error(i, m, e)
		}
	}
	var yes, no int
	for _, m := range others() {
		want := api.ErrArg
		if may(m) {
			want = api.OK
			yes++
		} else {
			no++
		}
		if e := Check(m); e != want {
			t.Error(m, e)
		}
	}
	if yes < 100 || no < 1000 {
		t.Error("few were asked:", yes, no)
	}
}

// P11.1: rules of the chapter, each broken alone.
func TestCheckWrong(t *testing.T) {
	one := func(seq, format, first, count int) api.Seg {
		return api.Seg{Seq: seq, Fmt: format, First: first, Count: count}
	}
	for what, m := range map[string]api.Manifest{
		"nothing":                           {},
		"next 0":                            {Term: 1},
		"next above all":                    {Next: top + 1},
		"term below 0":                      {Next: 1, Term: -1},
		"term above all":                    {Next: 1, Term: top + 1},
		"vote below 0":                      {Next: 1, Vote: -1},
		"vote above all":                    {Next: 1, Vote: 6},
		"snap's format alone":               {Next: 9, Snap: api.Ref{Fmt: 1}},
		"snap's number alone":               {Next: 9, Snap: api.Ref{Seq: 1}},
		"snap's number below 0":             {Next: 9, Snap: api.Ref{Seq: -1, Fmt: 1}},
		"snap's number is next":             {Next: 9, Snap: api.Ref{Seq: 9, Fmt: 1}},
		"snap's format is none":             {Next: 9, Snap: api.Ref{Seq: 8, Fmt: 3}},
		"snap's format is another":          {Next: 9, Snap: api.Ref{Seq: 8, Fmt: 258}},
		"a segment's number is 0":           {Next: 9, Segs: []api.Seg{one(0, 1, 1, 1)}},
		"a segment's number is next":        {Next: 9, Segs: []api.Seg{one(9, 1, 1, 1)}},
		"a segment's format is 0":           {Next: 9, Segs: []api.Seg{one(1, 0, 1, 1)}},
		"a segment's format is none":        {Next: 9, Segs: []api.Seg{one(1, 3, 1, 1)}},
		"numbers of segments are the same":  {Next: 9, Segs: []api.Seg{one(1, 1, 1, 1), one(1, 1, 2, 1)}},
		"of other formats":                  {Next: 9, Segs: []api.Seg{one(1, 1, 1, 1), one(1, 2, 2, 1)}},
		"of segments apart":                 {Next: 9, Segs: []api.Seg{one(4, 1, 1, 1), one(1, 2, 2, 1), one(4, 1, 3, -1)}},
		"the snapshot's number is the same": {Next: 9, Snap: api.Ref{Seq: 2, Fmt: 1}, Segs: []api.Seg{one(1, 1, 1, 1), one(2, 1, 2, 1)}},
		"first 0":                           {Next: 9, Segs: []api.Seg{one(1, 1, 0, 1)}},
		"first too great":                   {Next: 9, Segs: []api.Seg{one(1, 1, top-3, 1)}},
		"first too great, open":             {Next: 9, Segs: []api.Seg{one(1, 1, top-3, -1)}},
		"a later first too great":           {Next: 9, Segs: []api.Seg{one(1, 1, top-4, 1), one(2, 1, top-3, 1)}},
		"count 0":                           {Next: 9, Segs: []api.Seg{one(1, 1, 1, 0)}},
		"count 5":                           {Next: 9, Segs: []api.Seg{one(1, 1, 1, 5)}},
		"count -2":                          {Next: 9, Segs: []api.Seg{one(1, 1, 1, -2)}},
		"open ahead":                        {Next: 9, Segs: []api.Seg{one(1, 1, 2, -1), one(2, 1, 1, 1)}},
		"two open":                          {Next: 9, Segs: []api.Seg{one(1, 1, 2, -1), one(2, 1, 1, -1)}},
		"open in the middle":                {Next: 9, Segs: []api.Seg{one(1, 1, 1, 1), one(2, 1, 2, -1), one(3, 1, 1, 1)}},
		"a gap":                             {Next: 9, Segs: []api.Seg{one(1, 1, 1, 2), one(2, 1, 4, 1)}},
		"one over the other":                {Next: 9, Segs: []api.Seg{one(1, 1, 1, 2), one(2, 1, 2, 1)}},
		"61 segments":                       {Next: 99, Segs: row(1, 1, 61)},
	} {
		if e := Check(m); e != api.ErrArg {
			t.Error(what, e)
		}
		if may(m) {
			t.Error(what, "may be by the test's own words")
		}
	}
}

// P11.1: in memory of its own, of any manifest; what is handed in stays, spare room behind it included.
func TestOwn(t *testing.T) {
	for i, m := range others() {
		room := append(slices.Clone(m.Segs), api.Seg{Seq: 77}, api.Seg{Seq: 78})
		m.Segs = room[:len(m.Segs)]
		o := Own(m)
		if !alike(o, m) {
			t.Error(i, o, m)
		}
		for at := range o.Segs {
			o.Segs[at] = api.Seg{Seq: -9, Fmt: -9, First: -9, Count: -9}
		}
		o.Segs = append(o.Segs, api.Seg{Seq: 5})
		if slices.Contains(room, api.Seg{Seq: -9, Fmt: -9, First: -9, Count: -9}) || room[len(m.Segs)].Seq != 77 || room[len(m.Segs)+1].Seq != 78 {
			t.Error(i, "shares memory")
		}
	}
}

// P11.1: the same in all, of any manifest: another number, one more segment, or segments in another order.
func TestSame(t *testing.T) {
	if !Same(api.Manifest{}, api.Manifest{Segs: []api.Seg{}}) || !Same(api.Manifest{Next: 1, Segs: make([]api.Seg, 0, 5)}, api.Manifest{Next: 1}) {
		t.Error("none is not none")
	}
	for i, m := range good() {
		for j, o := range good() {
			if Same(m, o) != alike(m, o) {
				t.Error(i, j)
			}
		}
		changed(m, func(o api.Manifest) {
			if Same(m, o) != alike(m, o) || Same(o, m) != alike(m, o) || !Same(o, Own(o)) {
				t.Error(m, o)
			}
		})
		more := Own(m)
		more.Segs = append(more.Segs, api.Seg{})
		if Same(m, more) || Same(more, m) {
			t.Error(i, "with one more")
		}
		if len(m.Segs) > 1 {
			other := Own(m)
			slices.Reverse(other.Segs)
			if Same(m, other) {
				t.Error(i, "in another order")
			}
		}
	}
}

// P11.2: bytes written out.
func TestBytes(t *testing.T) {
	for _, c := range []struct {
		m api.Manifest
		b []byte
	}{
		{api.Manifest{Next: 1}, []byte{77, 1, 0, 0, 0, 0, 0, 0x44, 0x12, 0x77, 0xad}},
		{api.Manifest{Next: 2, Term: 7, Vote: 5, Segs: []api.Seg{{Seq: 1, Fmt: 2, First: 9, Count: -1}}}, sealed([]byte{77, 2, 7, 5, 0, 0, 1, 1, 2, 9, 0})},
		{
			api.Manifest{Next: 300, Term: 128, Vote: 3, Snap: api.Ref{Seq: 299, Fmt: 2}, Segs: []api.Seg{{Seq: 4, Fmt: 1, First: 126, Count: 4}, {Seq: 200, Fmt: 2, First: 130, Count: 1}, {Seq: 3, Fmt: 1, First: 131, Count: -1}}},
			sealed([]byte{77, 130, 44, 129, 0, 3, 130, 43, 2, 3, 4, 1, 126, 5, 129, 72, 2, 129, 2, 2, 3, 1, 129, 3, 0}),
		},
		{api.Manifest{Next: top, Term: top}, sealed([]byte{77, 132, 128, 128, 128, 0, 132, 128, 128, 128, 0, 0, 0, 0, 0})},
	} {
		if b, e := Put(c.m); e != api.OK || !bytes.Equal(b, c.b) {
			t.Errorf("%v: %d, %d", c.m, b, e)
		}
		if m, e := Take(c.b); e != api.OK || !alike(m, c.m) {
			t.Errorf("%d: %v, %d", c.b, m, e)
		}
	}
}

// P11.2: the bytes of each that may be; ErrArg, and nothing, of others.
func TestPut(t *testing.T) {
	for i, m := range others() {
		b, e := Put(m)
		switch {
		case may(m) && (e != api.OK || !bytes.Equal(b, raw(m))):
			t.Errorf("%d: %v: %d, %d", i, m, b, e)
		case !may(m) && (e != api.ErrArg || len(b) != 0):
			t.Errorf("%d: %v may not be: %d, %d", i, m, b, e)
		}
	}
}

// P11.2, P11.4: what is put is taken; of what may not be there is none, though its sum is right.
func TestTake(t *testing.T) {
	asked := 0
	for i, m := range others() {
		if may(m) {
			b, _ := Put(m)
			o, e := Take(b)
			if e != api.OK || !alike(o, m) || !Same(o, m) {
				t.Errorf("%d: %v: %v, %d", i, m, o, e)
			}
			continue
		}
		if told(m) {
			asked++
			none(t, "what may not be", raw(m))
		}
	}
	if asked < 1000 {
		t.Error("few were asked:", asked)
	}
}

// told tells whether m's numbers are such as raw puts.
func told(m api.Manifest) bool {
	for at := range 5 + 4*len(m.Segs) {
		n := *numberOf(&m, at)
		if at > 5 && (at-5)%4 == 3 {
			n = min(n, math.MaxInt-1) + 1
		}
		if n < 0 || n > 1<<40 {
			return false
		}
	}
	return true
}

// none fails if b is the bytes of a manifest.
func none(t *testing.T, what string, b []byte) {
	t.Helper()
	if m, e := Take(b); e != api.ErrForm || !alike(m, api.Manifest{}) {
		t.Errorf("%s: %d: %v, %d", what, b, m, e)
	}
}

// P11.2: bytes with right sums that are no manifest's.
func TestTakeWrong(t *testing.T) {
	for _, b := range [][]byte{nil, {}, {77}, {77, 1, 0, 0}, {0, 0, 0, 0}, make([]byte, 11), bytes.Repeat([]byte{77}, 11), {77, 1, 0, 0, 0, 0, 0}} {
		none(t, "no sum", b)
	}
	seg := []byte{1, 1, 1, 2}
	for what, b := range map[string][]byte{
		"nothing":                       {},
		"a mark alone":                  {77},
		"another mark":                  {76, 1, 0, 0, 0, 0, 0},
		"no mark":                       {1, 0, 0, 0, 0, 0},
		"a mark twice":                  {77, 77, 1, 0, 0, 0, 0, 0},
		"numbers missing":               {77, 1, 0, 0, 0, 0},
		"a number more":                 {77, 1, 0, 0, 0, 0, 0, 0},
		"a number that ends nowhere":    {77, 1, 0, 0, 0, 0, 128},
		"a nought ahead of a number":    {77, 128, 1, 0, 0, 0, 0, 0},
		"a nought ahead of how many":    {77, 1, 0, 0, 0, 0, 128, 0},
		"a number that is none":         {77, 132, 128, 128, 128, 1, 0, 0, 0, 0, 0},
		"a number of six":               {77, 129, 128, 128, 128, 128, 0, 0, 0, 0, 0, 0},
		"next 0":                        {77, 0, 0, 0, 0, 0, 0},
		"vote 6":                        {77, 1, 0, 6, 0, 0, 0},
		"a snapshot's format alone":     {77, 1, 0, 0, 0, 1, 0},
		"a snapshot's number, next":     {77, 1, 0, 0, 1, 1, 0},
		"fewer segments than told":      append([]byte{77, 2, 0, 0, 0, 0, 2}, seg...),
		"more segments than told":       append([]byte{77, 2, 0, 0, 0, 0, 0}, seg...),
		"a segment cut off":             append([]byte{77, 2, 0, 0, 0, 0, 1}, seg[:3]...),
		"a segment and a byte":          append([]byte{77, 2, 0, 0, 0, 0, 1}, append(slices.Clone(seg), 0)...),
		"a segment's Count above":       {77, 2, 0, 0, 0, 0, 1, 1, 1, 1, 6},
		"a segment's Count 0":           {77, 2, 0, 0, 0, 0, 1, 1, 1, 1, 1},
		"as many segments as can be":    {77, 2, 0, 0, 0, 0, 132, 128, 128, 128, 0},
		"so many that they turn about":  append([]byte{77, 2, 0, 0, 0, 0, 129, 128, 128, 128, 0}, seg...),
		"sixty-one, and nothing behind": {77, 2, 0, 0, 0, 0, 61},
	} {
		none(t, what, sealed(b))
	}
	none(t, "sixty-one", raw(api.Manifest{Next: 99, Segs: row(1, 1, 61)}))
	b := []byte{77, 2, 0, 0, 0, 0, 1, 1, 1, 1, 2}
	if m, e := Take(sealed(b)); e != api.OK || !alike(m, api.Manifest{Next: 2, Segs: []api.Seg{{Seq: 1, Fmt: 1, First: 1, Count: 1}}}) {
		t.Error(m, e)
	}
}

// P11.2: numbers that are not put as they would be are none, wherever they stand.
func TestTakeShort(t *testing.T) {
	for _, m := range good() {
		b := raw(m)
		payload := b[:len(b)-4]
		for at := 1; at < len(payload); at++ {
			if payload[at-1] < 128 { // here a number begins
				none(t, "a nought ahead", sealed(slices.Insert(slices.Clone(payload), at, 128)))
			}
			if payload[at] < 128 { // here it ends
				long := slices.Clone(payload)
				long[at] += 128
				none(t, "a digit more", sealed(slices.Insert(long, at+1, 0)[:len(payload)]))
			}
		}
	}
}

// P11.4: with a byte that is another one, a byte more, or fewer, it is none.
func TestOther(t *testing.T) {
	for _, m := range good() {
		b, _ := Put(m)
		for at := range b {
			other := slices.Clone(b)
			for more := 1; more < 256; more++ {
				other[at] = b[at] + byte(more)
				none(t, "another byte", other)
			}
			none(t, "cut", b[:at])
			none(t, "begun later", b[at+1:])
			none(t, "a byte fewer", slices.Delete(slices.Clone(b), at, at+1))
		}
		for at := range len(b) + 1 {
			for more := range 256 {
				none(t, "a byte more", slices.Insert(slices.Clone(b), at, byte(more)))
			}
		}
		none(t, "twice", append(slices.Clone(b), b...))
		none(t, "noughts behind", append(slices.Clone(b), 0, 0, 0, 0))
		none(t, "its sum again", sealed(b))
	}
}

// P11.2: what looks like chance: whatever is taken is put as it was, and may be.
func TestTaken(t *testing.T) {
	seed := uint64(11)
	chance := func(n int) int {
		seed = seed*6364136223846793005 + 1442695040888963407
		return int(seed >> 33 % uint64(n))
	}
	taken, all := 0, good()
	for range 20000 {
		b := raw(all[chance(13)])
		b = b[:len(b)-4]
		for range 1 + chance(2) {
			b[chance(len(b))] = byte(chance(256) >> chance(8))
		}
		b = sealed(b)
		m, e := Take(b)
		if e != api.OK {
			none(t, "chance", b)
			continue
		}
		taken++
		again, f := Put(m)
		if f != api.OK || !bytes.Equal(again, b) || !may(m) {
			t.Errorf("%d: %v, %d, %d", b, m, again, f)
		}
	}
	if taken < 100 || taken > 19000 {
		t.Error("taken:", taken)
	}
}

// P11.3: the idents of the files, of any manifest.
func TestKeep(t *testing.T) {
	for i, m := range others() {
		want := []api.Ident{{Kind: 1}}
		if m.Snap.Seq != 0 {
			want = append(want, api.Ident{Kind: 4, Seq: m.Snap.Seq, Fmt: m.Snap.Fmt})
		}
		for _, s := range m.Segs {
			want = append(want, api.Ident{Kind: 3, Seq: s.Seq, Fmt: s.Fmt})
		}
		if l := Keep(m); !slices.Equal(l, want) {
			t.Error(i, m, l)
		}
	}
	m := api.Manifest{Next: 9, Snap: api.Ref{Seq: 3, Fmt: 2}, Segs: []api.Seg{{Seq: 5, Fmt: 1, First: 1, Count: 2}, {Seq: 4, Fmt: 2, First: 3, Count: -1}}}
	l := Keep(m)
	if !slices.Equal(l, []api.Ident{{Kind: api.FkManifest}, {Kind: api.FkSnap, Seq: 3, Fmt: 2}, {Kind: api.FkSegment, Seq: 5, Fmt: 1}, {Kind: api.FkSegment, Seq: 4, Fmt: 2}}) {
		t.Error(l)
	}
	if l := Keep(api.Manifest{Snap: api.Ref{Fmt: 2}}); !slices.Equal(l, []api.Ident{{Kind: api.FkManifest}}) {
		t.Error(l)
	}
	if l := Keep(api.Manifest{Snap: api.Ref{Seq: -1}}); !slices.Equal(l, []api.Ident{{Kind: api.FkManifest}, {Kind: api.FkSnap, Seq: -1}}) {
		t.Error(l)
	}
}

// P11.3: the last segment, if it is open, of any manifest.
func TestOpen(t *testing.T) {
	for i, m := range others() {
		at, ok := Open(m)
		last := len(m.Segs) - 1
		if is := last >= 0 && m.Segs[last].Count == -1; ok != is || is && at != last || !is && at != -1 {
			t.Error(i, m, at, ok)
		}
	}
	for _, c := range []struct {
		counts []int
		at     int
	}{
		{nil, -1}, {[]int{-1}, 0}, {[]int{1}, -1}, {[]int{0}, -1}, {[]int{-2}, -1}, {[]int{4, 4, -1}, 2}, {[]int{-1, 4}, -1}, {[]int{-1, -1}, 1}, {[]int{math.MaxInt}, -1}, {[]int{1<<32 - 1}, -1},
	} {
		m := api.Manifest{Next: 1}
		for _, n := range c.counts {
			m.Segs = append(m.Segs, api.Seg{Count: n})
		}
		if at, ok := Open(m); at != c.at || ok != (c.at >= 0) {
			t.Error(c, at, ok)
		}
	}
}

// P11.3: the second format, of the snapshot or a segment, of any manifest.
func TestTwo(t *testing.T) {
	for i, m := range others() {
		is := m.Snap.Fmt == 2
		for _, s := range m.Segs {
			is = is || s.Fmt == 2
		}
		if Two(m) != is {
			t.Error(i, m)
		}
	}
	for _, m := range []api.Manifest{
		{Snap: api.Ref{Seq: 1, Fmt: 2}}, {Snap: api.Ref{Fmt: 2}}, {Segs: []api.Seg{{Fmt: 2}}}, {Segs: []api.Seg{{Fmt: 1}, {Fmt: 2}, {Fmt: 1}}}, {Segs: []api.Seg{{Fmt: 1}, {Fmt: 1}, {Fmt: 2}}},
	} {
		if !Two(m) {
			t.Error(m)
		}
	}
	for _, m := range []api.Manifest{
		{}, {Next: 2, Term: 2, Vote: 2}, {Snap: api.Ref{Seq: 2, Fmt: 1}}, {Snap: api.Ref{Fmt: 258}}, {Segs: []api.Seg{{Seq: 2, First: 2, Count: 2, Fmt: 1}}}, {Segs: []api.Seg{{Fmt: 3}, {Fmt: -2}, {Fmt: 1<<32 + 2}}},
	} {
		if Two(m) {
			t.Error(m)
		}
	}
}

// P11.4: no two files of one that may be have one name, and each has a name.
func TestNames(t *testing.T) {
	for _, m := range others() {
		if !may(m) {
			continue
		}
		seen := map[string]bool{}
		for _, x := range Keep(m) {
			name, e := names.Name(x)
			if e != api.OK || seen[name] {
				t.Error(m, x, name, e)
			}
			seen[name] = true
		}
	}
}

// P11.1, P11.2, P11.3: what is handed in stays, spare room behind it included, and is not kept; answers share nothing.
func TestMemory(t *testing.T) {
	for i, m := range good() {
		room := append(slices.Clone(m.Segs), api.Seg{Seq: 77}, api.Seg{Seq: 78})
		m.Segs = room[:len(m.Segs)]
		before := slices.Clone(room)
		b, _ := Put(m)
		long := append(slices.Clone(b), 1, 2, 3, 4, 5)
		Check(m)
		Open(m)
		Two(m)
		Same(m, m)
		l, k := Keep(m), Keep(m)
		l[0] = api.Ident{}
		_ = append(l, api.Ident{})
		if !slices.Equal(room, before) || k[0] != (api.Ident{Kind: api.FkManifest}) {
			t.Error(i, "changed")
		}
		one, _ := Take(long[:len(b)])
		two, _ := Take(long[:len(b)])
		for at := range one.Segs {
			one.Segs[at] = api.Seg{}
		}
		if !bytes.Equal(long, append(slices.Clone(b), 1, 2, 3, 4, 5)) || !alike(two, m) {
			t.Error(i, "shared")
		}
		clear(long)
		if again, _ := Put(two); !alike(two, m) || !bytes.Equal(again, b) {
			t.Error(i, "kept")
		}
		clear(b)
		if again, _ := Put(two); !bytes.Equal(again, raw(m)) {
			t.Error(i, "kept")
		}
	}
}
