package one

import (
	"bytes"
	"encoding/binary"
	"hash/crc32"
	"math"
	"slices"
	"testing"

	"moult/api"
)

const top = 1073741824 // MaxNumber

// edges are indices at which a byte comes to it, and those beside them.
func edges() []int {
	return []int{1, 2, 4, 5, 127, 128, 255, 256, 257, 300, 65535, 65536, 16777215, 16777216, 123456789, top - 1, top}
}

// noIndices may not be a head's.
func noIndices() []int {
	return []int{0, -1, -5, -256, top + 1, top + 5, math.MaxInt32, 1 << 32, 1<<32 + 1, math.MinInt32, math.MaxInt, math.MinInt}
}

// someEntries may be: of all kinds, at all edges.
func someEntries() []api.Entry {
	l := []api.Entry{
		{Term: 1}, {Term: top}, {Term: 7, Kind: api.EnNoop}, {Term: 1, Kind: api.EnPropose}, {Term: 2, Kind: api.EnRevert}, {Term: 255, Kind: api.EnFinal}, {Term: top, Kind: api.EnFinal},
		{Term: 1, Kind: api.EnData}, {Term: top, Kind: api.EnData, Value: top},
	}
	for i, n := range edges() {
		l = append(l, api.Entry{Term: n, Kind: api.EnData, Value: edges()[len(edges())-1-i]}, api.Entry{Term: n, Kind: []int{0, 2, 3, 4}[i%4]})
	}
	return l
}

// noEntries may not be.
func noEntries() []api.Entry {
	return []api.Entry{
		{}, {Kind: api.EnData}, {Term: -1}, {Term: top + 1}, {Term: top + 1, Kind: api.EnData, Value: 3}, {Term: math.MaxInt}, {Term: math.MinInt}, {Term: 1<<32 + 1},
		{Term: 1, Kind: -1}, {Term: 1, Kind: 5}, {Term: 1, Kind: 256}, {Term: 1, Kind: 257, Value: 3}, {Term: 1, Kind: 1<<32 + 1}, {Term: 1, Kind: math.MinInt},
		{Term: 1, Kind: api.EnData, Value: -1}, {Term: 1, Kind: api.EnData, Value: top + 1}, {Term: 1, Kind: api.EnData, Value: math.MaxInt}, {Term: 1, Kind: api.EnData, Value: 1 << 32},
		{Term: 1, Value: 1}, {Term: 1, Kind: api.EnPropose, Value: 1}, {Term: 1, Kind: api.EnRevert, Value: top}, {Term: 1, Kind: api.EnFinal, Value: -1},
	}
}

// raw is the record of whatever numbers, its sum by the library: of such as may not be, too.
func raw(term uint64, kind byte, value uint64) []byte {
	b := slices.Concat(binary.BigEndian.AppendUint64(nil, term)[3:], []byte{kind}, binary.BigEndian.AppendUint64(nil, value)[3:])
	return binary.LittleEndian.AppendUint32(b, crc32.Checksum(b, crc32.MakeTable(crc32.Castagnoli)))
}

// headBytes is a head by the chapter's words.
func headBytes(first int) []byte {
	return append([]byte{1}, binary.BigEndian.AppendUint64(nil, uint64(first))[3:]...)
}

// recordBytes is records by the chapter's words.
func recordBytes(l ...api.Entry) []byte {
	var b []byte
	for _, x := range l {
		b = append(b, raw(uint64(x.Term), byte(x.Kind), uint64(x.Value))...)
	}
	return b
}

// scanOf scans by putting: of each place all that might stand there is put, and held against what stands there.
func scanOf(b []byte) (s api.Scan, e api.Errno) {
	if len(b) < 6 {
		return api.Scan{}, api.ErrForm
	}
	s.First, s.Used = int(binary.BigEndian.Uint32(b[2:])), 6
	if s.First < 1 || s.First > top || !bytes.HasPrefix(b, headBytes(s.First)) {
		return api.Scan{}, api.ErrForm
	}
	for len(b)-s.Used >= 15 {
		at := b[s.Used:]
		x := api.Entry{Term: int(binary.BigEndian.Uint32(at[1:])), Kind: int(at[5]), Value: int(binary.BigEndian.Uint32(at[7:]))}
		if x.Term < 1 || x.Term > top || x.Kind > 4 || x.Value > top || x.Kind != 1 && x.Value != 0 || !bytes.HasPrefix(at, recordBytes(x)) {
			break
		}
		s.Log, s.Used = append(s.Log, x), s.Used+15
	}
	return s, api.OK
}

// dice tells numbers below n that look like chance, the same ones each time.
func dice(seed uint64) func(n int) int {
	return func(n int) int {
		seed = seed*6364136223846793005 + 1442695040888963407
		return int(seed >> 33 % uint64(n))
	}
}

// row is so many entries that may be.
func row(roll func(int) int, many int) []api.Entry {
	all := someEntries()
	var l []api.Entry
	for range many {
		l = append(l, all[roll(len(all))])
	}
	return l
}

// same tells whether two scans are alike.
func same(a, b api.Scan) bool {
	return a.First == b.First && a.Used == b.Used && slices.Equal(a.Log, b.Log)
}

// scanned fails if b is not scanned as that.
func scanned(t *testing.T, b []byte, first, used int, l ...api.Entry) {
	t.Helper()
	if s, e := Scan(b); e != api.OK || !same(s, api.Scan{First: first, Log: l, Used: used}) {
		t.Errorf("%x: %v, %d, not %d, %v, %d", b, s, e, first, l, used)
	}
}

// noScan fails if b is scanned.
func noScan(t *testing.T, b []byte) {
	t.Helper()
	if s, e := Scan(b); e != api.ErrForm || !same(s, api.Scan{}) {
		t.Errorf("%x: %v, %d", b, s, e)
	}
}

// P7.1: heads, the chapter's example among them.
func TestHead(t *testing.T) {
	for _, c := range []struct {
		first int
		want  []byte
	}{
		{1, []byte{1, 0, 0, 0, 0, 1}},
		{5, []byte{1, 0, 0, 0, 0, 5}},
		{300, []byte{1, 0, 0, 0, 1, 44}},
		{top, []byte{1, 0, 64, 0, 0, 0}},
	} {
		if b, e := Head(c.first); e != api.OK || !bytes.Equal(b, c.want) {
			t.Error(c.first, b, e)
		}
	}
	for _, first := range edges() {
		if b, e := Head(first); e != api.OK || !bytes.Equal(b, headBytes(first)) {
			t.Error(first, b, e)
		}
	}
	for _, first := range noIndices() {
		if b, e := Head(first); e != api.ErrArg || len(b) != 0 {
			t.Error(first, b, e)
		}
	}
}

// P7.1: records, one of them byte by byte.
func TestPut(t *testing.T) {
	want := []byte{0, 0, 0, 1, 44, 1, 0, 0, 0, 0, 5, 0xe5, 0x0f, 0xba, 0xef}
	if b, e := Put(api.Entry{Term: 300, Kind: api.EnData, Value: 5}); e != api.OK || !bytes.Equal(b, want) {
		t.Errorf("%x %d", b, e)
	}
	all := someEntries()
	for _, x := range all {
		if b, e := Put(x); e != api.OK || !bytes.Equal(b, recordBytes(x)) {
			t.Error(x, b, e)
		}
	}
	for many := range len(all) + 1 {
		if b, e := Put(all[:many]...); e != api.OK || !bytes.Equal(b, recordBytes(all[:many]...)) {
			t.Error(many, b, e)
		}
	}
	for _, l := range [][]api.Entry{nil, {}} {
		if b, e := Put(l...); e != api.OK || len(b) != 0 {
			t.Error(b, e)
		}
	}
}

// P7.1: an entry that may not be, wherever it stands, and nothing is told.
func TestPutWrong(t *testing.T) {
	for _, bad := range noEntries() {
		for _, many := range []int{0, 1, 4, 30} {
			l := row(dice(7), many)
			for at := range many + 1 {
				with := slices.Insert(slices.Clone(l), at, bad)
				if b, e := Put(with...); e != api.ErrArg || len(b) != 0 {
					t.Error(with, b, e)
				}
				if b, e := File(9, with...); e != api.ErrArg || len(b) != 0 {
					t.Error(with, b, e)
				}
			}
		}
	}
}

// P7.1: a segment is a head, and records.
func TestFile(t *testing.T) {
	roll := dice(71)
	for _, first := range edges() {
		for many := range 12 {
			l := row(roll, many)
			if b, e := File(first, l...); e != api.OK || !bytes.Equal(b, append(headBytes(first), recordBytes(l...)...)) {
				t.Error(first, l, b, e)
			}
		}
		if b, e := File(first, []api.Entry{}...); e != api.OK || !bytes.Equal(b, headBytes(first)) {
			t.Error(first, b, e)
		}
	}
	for _, first := range noIndices() {
		for _, l := range [][]api.Entry{nil, {{Term: 1}}, {{}}, {{Term: 1}, {Term: 1, Value: 1}}} {
			if b, e := File(first, l...); e != api.ErrArg || len(b) != 0 {
				t.Error(first, l, b, e)
			}
		}
	}
}

// P7.1: how many bytes a segment has, and at the edges of what is counted.
func TestSize(t *testing.T) {
	for many := range 300 {
		b, e := File(1+many, row(dice(uint64(many)), many)...)
		if e != api.OK || Size(many) != len(b) {
			t.Error(many, Size(many), len(b), e)
		}
	}
	for _, c := range []struct{ many, want int }{
		{0, 6}, {1, 21}, {4, 66}, {-1, 6}, {-15, 6}, {-top, 6}, {math.MinInt, 6}, {math.MinInt + 1, 6},
		{1000000, 15000006}, {top - 1, 16106127351}, {top, 16106127366}, {top + 1, 16106127366}, {1 << 32, 16106127366}, {math.MaxInt, 16106127366},
	} {
		if n := Size(c.many); n != c.want {
			t.Error(c.many, n)
		}
	}
}

// P7.2: what does not begin with a head.
func TestScanWrong(t *testing.T) {
	noScan(t, nil)
	noScan(t, []byte{})
	records := recordBytes(someEntries()...)
	noScan(t, records)
	for _, first := range edges() {
		head := headBytes(first)
		for cut := range head {
			noScan(t, head[:cut])
		}
		for b := range 256 {
			if b == 1 {
				continue
			}
			other := slices.Clone(head)
			other[0] = byte(b)
			noScan(t, other)
			noScan(t, append(other, records...))
		}
	}
	for _, head := range [][]byte{
		{1, 0, 0, 0, 0, 0}, {1, 0, 64, 0, 0, 1}, {1, 0, 128, 0, 0, 0}, {1, 0, 255, 255, 255, 255}, {1, 1, 0, 0, 0, 0}, {1, 1, 0, 0, 0, 1}, {1, 128, 0, 0, 0, 1}, {1, 255, 255, 255, 255, 255},
		{2, 1, 0, 0, 0, 0}, {0, 0, 0, 0, 0, 1}, {0, 1, 0, 0, 0, 0, 1},
	} {
		noScan(t, head)
		noScan(t, append(head, records...))
	}
}

// P7.2: the entries up to the first place at which no record stands, whatever stands behind that.
func TestScan(t *testing.T) {
	x, y, z := api.Entry{Term: 1, Kind: api.EnData, Value: 9}, api.Entry{Term: 2}, api.Entry{Term: top, Kind: api.EnFinal}
	scanned(t, headBytes(5), 5, 6)
	scanned(t, append(headBytes(top), recordBytes(x, y, z)...), top, 51, x, y, z)
	for _, none := range [][]byte{
		{0}, {1}, {255}, make([]byte, 14), make([]byte, 15), bytes.Repeat([]byte{255}, 40), headBytes(7),
		recordBytes(z)[:14], recordBytes(z)[1:], append([]byte{0}, recordBytes(z)...),
	} {
		for many := range 4 {
			l := []api.Entry{x, y, z}[:many]
			b := slices.Concat(headBytes(5), recordBytes(l...), none)
			scanned(t, b, 5, 6+15*many, l...)
			scanned(t, append(b, recordBytes(x, y)...), 5, 6+15*many, l...)
		}
	}
}

// P7.2: a record is of an entry that may be: others are none, though their sums are right.
func TestScanRecords(t *testing.T) {
	x := api.Entry{Term: 3, Kind: api.EnRevert}
	const far = 1<<40 - 1 // all that five bytes hold
	for _, none := range [][]byte{
		raw(0, 0, 0), raw(0, 1, 5), raw(top+1, 0, 0), raw(top+1, 1, 5), raw(1<<32, 0, 0), raw(1<<32+1, 0, 0), raw(far, 1, 0),
		raw(1, 5, 0), raw(1, 6, 0), raw(1, 128, 0), raw(1, 255, 0), raw(1, 5, 1),
		raw(1, 0, 1), raw(1, 2, 1), raw(1, 3, top), raw(1, 4, 1<<24),
		raw(1, 1, top+1), raw(1, 1, 1<<31), raw(1, 1, 1<<32), raw(1, 1, 1<<32+1), raw(1, 1, far),
		raw(1, 0, top+1), raw(1, 0, 1<<32), raw(1, 2, far), raw(1, 4, 1<<32),
		raw(0, 9, far), raw(far, 255, far),
	} {
		for many := range 3 {
			l := []api.Entry{x, x}[:many]
			b := slices.Concat(headBytes(1), recordBytes(l...), none)
			scanned(t, b, 1, 6+15*many, l...)
			scanned(t, append(b, recordBytes(x, x)...), 1, 6+15*many, l...)
		}
	}
	for _, x := range someEntries() {
		scanned(t, append(headBytes(1), raw(uint64(x.Term), byte(x.Kind), uint64(x.Value))...), 1, 21, x)
	}
	high := recordBytes(x)
	slices.Reverse(high[11:]) // the highest of the sum's bytes first
	scanned(t, append(headBytes(1), high...), 1, 6)
	turned := recordBytes(x)
	for i := range 4 {
		turned[11+i] ^= 255 // not turned about at the end
	}
	scanned(t, append(headBytes(1), turned...), 1, 6)
}

// P7.2: bytes that look like chance, and segments with some changes, against a scan by putting.
func TestScanAny(t *testing.T) {
	roll := dice(72)
	for range 20000 {
		b := append(headBytes(1+roll(top)), recordBytes(row(roll, roll(6))...)...)
		for range roll(4) {
			at := roll(len(b))
			switch roll(5) {
			case 0:
				b[at] = byte(roll(256))
			case 1:
				b = b[:at+1]
			case 2:
				b = slices.Insert(b, at, byte(roll(256)))
			case 3:
				b = slices.Delete(b, at, at+1)
			case 4:
				b = append(b, raw(uint64(roll(3)), byte(roll(7)), uint64(roll(2)))...)
			}
			if len(b) == 0 {
				break
			}
		}
		want, f := scanOf(b)
		if s, e := Scan(b); e != f || !same(s, want) {
			t.Fatalf("%x: %v, %d, not %v, %d", b, s, e, want, f)
		}
	}
}

// P7.3: what is put is scanned, whole; so is what was put behind it.
func TestBack(t *testing.T) {
	roll := dice(73)
	for _, first := range edges() {
		for many := range 15 {
			l, more := row(roll, many), row(roll, roll(5))
			b, e := File(first, l...)
			behind, f := Put(more...)
			if e != api.OK || f != api.OK {
				t.Error(first, l, more, e, f)
			}
			scanned(t, b, first, len(b), l...)
			scanned(t, append(b, behind...), first, Size(many+len(more)), append(l, more...)...)
		}
	}
	l := row(roll, 70000) // more than would go if all that stands behind were copied a record
	b, _ := File(1, l...)
	if s, e := Scan(b); e != api.OK || !same(s, api.Scan{First: 1, Log: l, Used: Size(len(l))}) {
		t.Error(s.First, s.Used, len(s.Log), e)
	}
}

// P7.3: of bytes cut off at the end the entries are those whose records are whole.
func TestCut(t *testing.T) {
	l := someEntries()[5:12]
	b, _ := File(260, l...)
	for cut := range len(b) + 1 {
		if cut < 6 {
			noScan(t, b[:cut])
			continue
		}
		whole := (cut - 6) / 15
		scanned(t, b[:cut], 260, 6+15*whole, l[:whole]...)
	}
}

// P7.3: with one byte of a record that is another one the entries are those ahead of it.
func TestOtherByte(t *testing.T) {
	l := []api.Entry{{Term: 1, Kind: api.EnPropose}, {Term: 2, Kind: api.EnData, Value: 300}, {Term: 2}, {Term: top, Kind: api.EnData, Value: top}, {Term: 9, Kind: api.EnData}}
	b, _ := File(2, l...)
	for at := 6; at < len(b); at++ {
		ahead := (at - 6) / 15
		for with := 1; with < 256; with++ {
			other := slices.Clone(b)
			other[at] ^= byte(with)
			scanned(t, other, 2, 6+15*ahead, l[:ahead]...)
		}
	}
}

// R4: what is handed in stays as it was, spare room too, and shares no memory with answers.
func TestMemory(t *testing.T) {
	room := slices.Concat(headBytes(4), recordBytes(api.Entry{Term: 1}, api.Entry{Term: 2, Kind: api.EnData, Value: 3}), []byte("spare room"))
	was := slices.Clone(room)
	s, _ := Scan(room[:36])
	kept, _ := Scan(room[:36])
	for i := range s.Log {
		s.Log[i] = api.Entry{Term: 99}
	}
	_ = append(s.Log, api.Entry{Term: 98})
	if !bytes.Equal(room, was) {
		t.Error("what was handed in is another:", room)
	}
	if !same(kept, api.Scan{First: 4, Log: []api.Entry{{Term: 1}, {Term: 2, Kind: api.EnData, Value: 3}}, Used: 36}) {
		t.Error("an answer changed another:", kept)
	}
	entries := []api.Entry{{Term: 1}, {Term: 2, Kind: api.EnFinal}, {Term: -1, Kind: 9, Value: 9}}
	before := slices.Clone(entries)
	put, again := firstOf(Put(entries[:2]...)), firstOf(Put(entries[:2]...))
	file, file2 := firstOf(File(4, entries[:2]...)), firstOf(File(4, entries[:2]...))
	head, head2 := firstOf(Head(4)), firstOf(Head(4))
	for _, b := range [][]byte{put, file, head} {
		for i := range b {
			b[i] = 99
		}
		_ = append(b, "over what stands behind"...)
	}
	if !slices.Equal(entries, before) {
		t.Error("what was handed in is another:", entries)
	}
	want := recordBytes(before[:2]...)
	if !bytes.Equal(again, want) || !bytes.Equal(file2, append(headBytes(4), want...)) || !bytes.Equal(head2, headBytes(4)) {
		t.Error("an answer changed another:", again, file2, head2)
	}
}

// firstOf leaves the error.
func firstOf(b []byte, _ api.Errno) []byte { return b }

// R4: entries, and records, are told by iterators that may be left early and gone over again.
func TestAgain(t *testing.T) {
	l := []api.Entry{{Term: 1}, {Term: 2, Kind: api.EnData, Value: 8}, {Term: 2, Kind: api.EnFinal}}
	all, records := entries(recordBytes(l...)), puts(l...)
	for x := range all {
		if x != l[0] {
			t.Error(x)
		}
		break
	}
	for b, e := range records {
		if e != api.OK || !bytes.Equal(b, recordBytes(l[0])) {
			t.Error(b, e)
		}
		break
	}
	for range 2 {
		if told := slices.Collect(all); !slices.Equal(told, l) {
			t.Error(told)
		}
		var told []byte
		for b, e := range records {
			if e != api.OK {
				t.Error(e)
			}
			told = append(told, b...)
		}
		if !bytes.Equal(told, recordBytes(l...)) {
			t.Error(told)
		}
	}
}
