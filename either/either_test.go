package either

import (
	"bytes"
	"math"
	"slices"
	"testing"

	"moult/api"
	"moult/one"
	"moult/two"
)

const top = 1073741824 // MaxNumber

// both are the formats.
func both() []int { return []int{1, 2} }

// noFormats are none.
func noFormats() []int {
	return []int{0, -1, -2, 3, 4, 49, 50, 255, 256, 257, 258, 1<<32 + 1, 1<<32 + 2, top, math.MaxInt32, math.MinInt32, math.MaxInt, math.MinInt}
}

// firsts are indices that may be a head's.
func firsts() []int {
	return []int{1, 2, 5, 127, 128, 255, 256, 300, 16383, 16384, 2097152, 268435455, 268435456, top - 1, top}
}

// noFirsts may not be.
func noFirsts() []int {
	return []int{0, -1, -256, top + 1, 1 << 32, 1<<32 + 1, math.MaxInt, math.MinInt}
}

// good are entries that may be: of all kinds, with short bytes of all lengths.
func good() []api.Entry {
	l := []api.Entry{{Term: 1}, {Term: 1, Kind: api.EnData}, {Term: top, Kind: api.EnData, Value: top}, {Term: top, Kind: api.EnFinal}}
	for i, n := range firsts() {
		l = append(l, api.Entry{Term: n, Kind: api.EnData, Value: firsts()[(i*4+1)%len(firsts())]}, api.Entry{Term: n, Kind: []int{0, 2, 3, 4}[i%4]})
	}
	return l
}

// wrong are entries that may not be.
func wrong() []api.Entry {
	return []api.Entry{
		{}, {Kind: api.EnData, Value: 1}, {Term: -1}, {Term: top + 1}, {Term: 1<<32 + 1}, {Term: math.MinInt},
		{Term: 1, Kind: -1}, {Term: 1, Kind: 5}, {Term: 1, Kind: 257}, {Term: 1, Kind: math.MaxInt},
		{Term: 1, Value: 1}, {Term: 1, Kind: api.EnPropose, Value: 3}, {Term: 1, Kind: api.EnFinal, Value: -1},
		{Term: 1, Kind: api.EnData, Value: -1}, {Term: 1, Kind: api.EnData, Value: top + 1}, {Term: 1, Kind: api.EnData, Value: 1 << 32},
	}
}

// chance tells numbers below n that look like it, the same ones each time.
func chance(seed uint64) func(n int) int {
	return func(n int) int {
		seed = seed*6364136223846793005 + 1442695040888963407
		return int(seed >> 33 % uint64(n))
	}
}

// some is so many entries that may be.
func some(roll func(int) int, many int) []api.Entry {
	all := good()
	l := make([]api.Entry, many)
	for i := range l {
		l[i] = all[roll(len(all))]
	}
	return l
}

// plain is a segment of the format, by the format's own package.
func plain(fmt, first int, l ...api.Entry) []byte {
	var b []byte
	var e api.Errno
	if fmt == 1 {
		b, e = one.File(first, l...)
	} else {
		b, e = two.File(first, l...)
	}
	if e != api.OK {
		panic("no segment")
	}
	return b
}

// parts is a segment of the second format whose blocks have as many entries as told.
func parts(first int, l []api.Entry, sizes ...int) []byte {
	b, _ := two.Head(first)
	for _, n := range sizes {
		z, _ := two.End(b)
		next, _, _ := two.Block(z, l[:n]...)
		b, l = append(b, next...), l[n:]
	}
	return b
}

// same tells whether two scans are alike.
func same(a, b api.Scan) bool {
	return a.First == b.First && a.Used == b.Used && slices.Equal(a.Log, b.Log)
}

// got fails if it is another answer than that.
func got(t *testing.T, what string, b []byte, e api.Errno, want []byte) {
	t.Helper()
	if e != api.OK || !bytes.Equal(b, want) {
		t.Errorf("%s: %x, %d, not %x", what, b, e, want)
	}
}

// no fails if it is another answer than that error, and nothing.
func no(t *testing.T, what string, b []byte, e, want api.Errno) {
	t.Helper()
	if e != want || len(b) != 0 {
		t.Errorf("%s: %x, %d, not %d", what, b, e, want)
	}
}

// torn are bytes that are not whole in the format.
func torn(fmt int) [][]byte {
	l := []api.Entry{{Term: 1, Kind: api.EnData, Value: 300}, {Term: 2}, {Term: 2, Kind: api.EnPropose}, {Term: 3}, {Term: 3, Kind: api.EnFinal}}
	b := plain(fmt, 5, l...)
	whole := []int{len(plain(fmt, 5))} // where it may be cut, and is whole
	for many := range l {
		if fmt == 1 || (many+1)%4 == 0 {
			whole = append(whole, len(plain(fmt, 5, l[:many+1]...)))
		}
	}
	all := [][]byte{nil, {}, {0}, {1}, {2}, {3}, {1, 0, 0, 0, 0}, {1, 0, 0, 0, 0, 0}, {1, 0, 64, 0, 0, 1}, {2, 0}, {2, 128}, {2, 128, 1}, {2, 132, 128, 128, 128, 1}, {3, 0, 0, 0, 0, 1}, {0, 1}, {77, 1},
		plain(3-fmt, 5), plain(3-fmt, 5, l...), b[1:], append([]byte{0}, b...), append(slices.Clone(b), b...)}
	for cut := range b {
		if !slices.Contains(whole, cut) {
			all = append(all, b[:cut])
		}
	}
	for _, more := range [][]byte{{0}, {1}, {2}, {255}, make([]byte, 15), b[whole[0] : len(b)-1]} {
		all = append(all, append(slices.Clone(b), more...))
	}
	for at := whole[0]; at < len(b); at++ {
		other := slices.Clone(b)
		other[at] ^= 1
		all = append(all, other)
	}
	return all
}

// P10.1: segments byte by byte, of both formats.
func TestBytes(t *testing.T) {
	x := api.Entry{Term: 300, Kind: api.EnData, Value: 5}
	b, e := File(api.Fmt1, 1, x)
	got(t, "one", b, e, []byte{1, 0, 0, 0, 0, 1, 0, 0, 0, 1, 44, 1, 0, 0, 0, 0, 5, 0xe5, 0x0f, 0xba, 0xef})
	b, e = File(api.Fmt2, 1)
	got(t, "two", b, e, []byte{2, 1})
	b, e = File(api.Fmt2, 300)
	got(t, "two", b, e, []byte{2, 130, 44})
	b, e = File(api.Fmt1, 300)
	got(t, "one", b, e, []byte{1, 0, 0, 0, 1, 44})
}

// P10.1: File is the format's.
func TestFile(t *testing.T) {
	roll := chance(101)
	for _, first := range firsts() {
		for many := range 14 {
			l := some(roll, many)
			for _, fmt := range both() {
				b, e := File(fmt, first, l...)
				got(t, "file", b, e, plain(fmt, first, l...))
			}
		}
		for _, fmt := range both() {
			b, e := File(fmt, first, []api.Entry{}...)
			got(t, "file of none", b, e, plain(fmt, first))
		}
	}
}

// P10.1: what may not be, and formats that are none.
func TestFileWrong(t *testing.T) {
	for _, fmt := range append(noFormats(), both()...) {
		for _, first := range noFirsts() {
			for _, l := range [][]api.Entry{nil, {{Term: 1}}, {{}}} {
				b, e := File(fmt, first, l...)
				no(t, "index", b, e, api.ErrArg)
			}
		}
		for _, bad := range wrong() {
			for at := range 6 {
				b, e := File(fmt, 7, slices.Insert(some(chance(9), 5), at, bad)...)
				no(t, "entry", b, e, api.ErrArg)
			}
		}
	}
	for _, fmt := range noFormats() {
		for many := range 6 {
			b, e := File(fmt, 1, some(chance(3), many)...)
			no(t, "format", b, e, api.ErrArg)
		}
	}
}

// P10.1: Scan is the format's, of whole bytes and of others.
func TestScan(t *testing.T) {
	roll := chance(102)
	for range 400 {
		l := some(roll, roll(11))
		first := firsts()[roll(len(firsts()))]
		for _, fmt := range both() {
			b := plain(fmt, first, l...)
			if s, e := Scan(b, fmt); e != api.OK || !same(s, api.Scan{First: first, Log: l, Used: len(b)}) {
				t.Errorf("%x, %d: %v, %d", b, fmt, s, e)
			}
			if s, e := Scan(b, 3-fmt); e != api.ErrForm || !same(s, api.Scan{}) {
				t.Errorf("%x, %d: %v, %d", b, 3-fmt, s, e)
			}
			for range 4 {
				b[roll(len(b))] = byte(roll(256))
				b = b[:len(b)-roll(min(len(b), 3))]
				if s, e := Scan(b, 1); !scannedAs(s, e, one.Scan, b) {
					t.Errorf("%x, 1: %v, %d", b, s, e)
				}
				if s, e := Scan(b, 2); !scannedAs(s, e, two.Scan, b) {
					t.Errorf("%x, 2: %v, %d", b, s, e)
				}
			}
		}
	}
}

// scannedAs tells whether b is scanned so by the format's own package.
func scannedAs(s api.Scan, e api.Errno, scan func([]byte) (api.Scan, api.Errno), b []byte) bool {
	want, f := scan(b)
	return e == f && same(s, want)
}

// P10.1: the entries up to the first place at which none stands; and no head, and formats that are none.
func TestScanPart(t *testing.T) {
	l := some(chance(5), 7)
	for fmt, left := range map[int]int{api.Fmt1: 6, api.Fmt2: 4} {
		b := plain(fmt, 9, l...)
		if s, e := Scan(b[:len(b)-1], fmt); e != api.OK || !same(s, api.Scan{First: 9, Log: l[:left], Used: len(plain(fmt, 9, l[:left]...))}) {
			t.Errorf("%d: %v, %d", fmt, s, e)
		}
		for _, none := range [][]byte{nil, {}, {byte(fmt)}, {0, 1}, {3, 0, 0, 0, 0, 1}, {byte(fmt), 0, 0, 0, 0, 0}, b[1:]} {
			if s, e := Scan(none, fmt); e != api.ErrForm || !same(s, api.Scan{}) {
				t.Errorf("%x, %d: %v, %d", none, fmt, s, e)
			}
		}
		for _, other := range noFormats() {
			for _, some := range [][]byte{nil, {}, b, b[:3], b[1:]} {
				if s, e := Scan(some, other); e != api.ErrArg || !same(s, api.Scan{}) {
					t.Errorf("%x, %d: %v, %d", some, other, s, e)
				}
			}
		}
	}
}

// P10.1: with whose head b begins, whatever stands behind it; or with none.
func TestWhich(t *testing.T) {
	for _, first := range firsts() {
		for _, fmt := range both() {
			head := plain(fmt, first)
			for _, behind := range [][]byte{nil, {0}, {1}, {2, 1}, {128, 128}, bytes.Repeat([]byte{255}, 40), head, plain(fmt, first, some(chance(4), 7)...)[len(head):], plain(3-fmt, first, some(chance(4), 7)...)} {
				if n := Which(append(slices.Clone(head), behind...)); n != fmt {
					t.Errorf("%x %x: %d", head, behind, n)
				}
			}
			for cut := range head {
				if n := Which(head[:cut]); n != 0 {
					t.Errorf("%x: %d", head[:cut], n)
				}
			}
			for with := range 256 {
				other := append([]byte{byte(with)}, head[1:]...)
				if n := Which(other); with != 1 && with != 2 && n != 0 {
					t.Errorf("%x: %d", other, n)
				}
			}
		}
	}
	for _, b := range [][]byte{nil, {}, {0}, {1}, {2}, {1, 1}, {2, 0}, {2, 128}, {2, 128, 1}, {2, 132, 128, 128, 128, 1}, {2, 255, 255, 255, 255, 255, 1}, {1, 0, 0, 0, 0, 0}, {1, 0, 64, 0, 0, 1}, {1, 1, 0, 0, 0, 1}, {0, 0, 0, 0, 0, 1}, {77, 1, 0, 0, 0, 0, 0}} {
		if n := Which(b); n != 0 {
			t.Errorf("%x: %d", b, n)
		}
	}
}

// P10.2, P10.4: what stands behind; scanned, it is the entries behind.
func TestMore(t *testing.T) {
	roll := chance(103)
	for range 300 {
		for _, fmt := range both() {
			first, l := firsts()[roll(len(firsts()))], some(roll, roll(10))
			b := plain(fmt, first, l...)
			for range 3 {
				next := some(roll, roll(10))
				var want []byte
				if fmt == 1 {
					want, _ = one.Put(next...)
				} else {
					want, _ = two.More(b, next...)
				}
				more, e := More(b, fmt, next...)
				got(t, "more", more, e, want)
				if (len(next) == 0) != (len(more) == 0) {
					t.Errorf("%v: %x", next, more)
				}
				b, l = append(b, more...), append(l, next...)
				if s, e := Scan(b, fmt); e != api.OK || !same(s, api.Scan{First: first, Log: l, Used: len(b)}) {
					t.Errorf("%d: %x: %v, %d, not %v", fmt, b, s, e, l)
				}
			}
		}
	}
}

// P10.2: bytes that are not whole go ahead of entries that may not be; a format that is none goes ahead of both.
func TestMoreWrong(t *testing.T) {
	lists := [][]api.Entry{nil, {}, {{Term: 1}}, {{}}, {{Term: 1}, {Term: 1, Value: 1}}, good()}
	for _, fmt := range both() {
		for _, l := range lists {
			for _, b := range torn(fmt) {
				more, e := More(b, fmt, l...)
				no(t, "not whole", more, e, api.ErrForm)
			}
		}
		for _, bad := range wrong() {
			for at := range 6 {
				for many := range 6 {
					more, e := More(plain(fmt, 3, some(chance(8), many)...), fmt, slices.Insert(some(chance(9), 5), at, bad)...)
					no(t, "entry", more, e, api.ErrArg)
				}
			}
		}
		for _, other := range noFormats() {
			for _, l := range lists {
				for _, b := range [][]byte{plain(fmt, 1), plain(fmt, 4, some(chance(2), 5)...), nil, {}, {0}, plain(fmt, 1)[1:]} {
					more, e := More(b, other, l...)
					no(t, "format", more, e, api.ErrArg)
				}
			}
		}
	}
}

// P10.3: the chapter's example, and its way back.
func TestTurnExample(t *testing.T) {
	b, e := Turn([]byte{2, 1}, api.Fmt2, api.Fmt1)
	got(t, "to 1", b, e, []byte{1, 0, 0, 0, 0, 1})
	b, e = Turn([]byte{1, 0, 0, 0, 0, 1}, api.Fmt1, api.Fmt2)
	got(t, "to 2", b, e, []byte{2, 1})
	b, e = Turn([]byte{1, 0, 0, 0, 1, 44, 0, 0, 0, 1, 44, 1, 0, 0, 0, 0, 5, 0xe5, 0x0f, 0xba, 0xef}, api.Fmt1, api.Fmt2)
	got(t, "with an entry", b, e, plain(2, 300, api.Entry{Term: 300, Kind: api.EnData, Value: 5}))
}

// P10.3, P10.4: segments in the other format, and in their own; back again they are as they were.
func TestTurn(t *testing.T) {
	roll := chance(104)
	for range 300 {
		first, l := firsts()[roll(len(firsts()))], some(roll, roll(14))
		for _, from := range both() {
			for _, to := range both() {
				b := plain(from, first, l...)
				c, e := Turn(b, from, to)
				got(t, "turn", c, e, plain(to, first, l...))
				if s, e := Scan(c, to); e != api.OK || !same(s, api.Scan{First: first, Log: l, Used: len(c)}) {
					t.Errorf("%x: %v, %d", c, s, e)
				}
				d, e := Turn(c, to, from)
				got(t, "back", d, e, b)
			}
		}
	}
}

// P10.3, P10.4: blocks that were cut otherwise are whole, too; turned they are cut as in a segment.
func TestTurnParts(t *testing.T) {
	l := some(chance(12), 9)
	for _, sizes := range [][]int{{1, 1, 1, 1, 1, 1, 1, 1, 1}, {3, 4, 2}, {1, 4, 4}, {2, 2, 2, 2, 1}, {4, 1, 4}} {
		b := parts(6, l, sizes...)
		if bytes.Equal(b, plain(2, 6, l...)) {
			t.Error(sizes)
		}
		c, e := Turn(b, 2, 1)
		got(t, "to 1", c, e, plain(1, 6, l...))
		c, e = Turn(b, 2, 2)
		got(t, "to 2", c, e, plain(2, 6, l...))
		if !Alike(b, 2, c, 2) || !Alike(b, 2, plain(1, 6, l...), 1) || !Alike(plain(1, 6, l...), 1, b, 2) {
			t.Error("not alike:", sizes)
		}
	}
}

// P10.3: bytes that are not whole, and formats that are none: these go ahead.
func TestTurnWrong(t *testing.T) {
	for _, from := range both() {
		for _, b := range torn(from) {
			for _, to := range both() {
				c, e := Turn(b, from, to)
				no(t, "not whole", c, e, api.ErrForm)
			}
			for _, to := range noFormats() {
				c, e := Turn(b, from, to)
				no(t, "to another", c, e, api.ErrArg)
				c, e = Turn(b, to, from)
				no(t, "from another", c, e, api.ErrArg)
			}
		}
		for _, other := range noFormats() {
			for many := range 6 {
				b := plain(from, 2, some(chance(6), many)...)
				c, e := Turn(b, from, other)
				no(t, "to another", c, e, api.ErrArg)
				c, e = Turn(b, other, from)
				no(t, "from another", c, e, api.ErrArg)
				c, e = Turn(b, other, other)
				no(t, "from another to it", c, e, api.ErrArg)
			}
		}
	}
}

// P10.3: alike are those of one first index and the same entries, whatever their formats.
func TestAlike(t *testing.T) {
	roll := chance(105)
	for range 60 {
		first, l := firsts()[roll(len(firsts()))], some(roll, roll(10))
		for _, x := range both() {
			for _, y := range both() {
				a := plain(x, first, l...)
				if !Alike(a, x, plain(y, first, l...), y) {
					t.Error("not alike:", x, y, first, l)
				}
				for _, other := range firsts() {
					if other != first && Alike(a, x, plain(y, other, l...), y) {
						t.Error("alike:", x, y, first, other, l)
					}
				}
				for at := range l {
					apart := slices.Clone(l)
					apart[at] = changed(apart[at], roll(3))
					if Alike(a, x, plain(y, first, apart...), y) || Alike(plain(x, first, apart...), x, plain(y, first, l...), y) {
						t.Error("alike:", x, y, first, l, apart)
					}
					if Alike(a, x, plain(y, first, l[:at]...), y) || Alike(plain(x, first, l[:at]...), x, plain(y, first, l...), y) {
						t.Error("alike:", x, y, first, l, at)
					}
				}
				turned := slices.Clone(l)
				slices.Reverse(turned)
				if Alike(a, x, plain(y, first, turned...), y) != slices.Equal(turned, l) {
					t.Error("turned about:", x, y, first, l)
				}
			}
		}
	}
}

// changed is x with another term, value or kind: one that may be.
func changed(x api.Entry, which int) api.Entry {
	switch {
	case which == 0:
		x.Term ^= 1
		if x.Term == 0 || x.Term > top {
			x.Term = 77
		}
	case which == 1 && x.Kind == api.EnData && x.Value > 0:
		x.Value--
	case x.Kind == api.EnData:
		x.Kind, x.Value = api.EnNoop, 0
	case x.Kind == api.EnFinal:
		x.Kind = api.EnRevert
	default:
		x.Kind = api.EnFinal
	}
	return x
}

// P10.3: bytes that are not whole in their format are like nothing, not even like themselves; of other formats likewise.
func TestAlikeWrong(t *testing.T) {
	unlike := func(a []byte, x int, b []byte, y int) {
		t.Helper()
		if Alike(a, x, b, y) || Alike(b, y, a, x) {
			t.Errorf("alike: %x, %d, %x, %d", a, x, b, y)
		}
	}
	for _, x := range both() {
		for _, b := range torn(x) {
			unlike(b, x, b, x)
			for _, y := range both() {
				if s, e := Scan(b, x); e == api.OK {
					unlike(b, x, plain(y, s.First, s.Log...), y)
				}
				unlike(b, x, plain(y, 5), y)
			}
		}
		b := plain(x, 3, some(chance(1), 3)...)
		unlike(b, 3-x, b, 3-x)
		unlike(b, x, b, 3-x)
		for _, y := range noFormats() {
			unlike(b, y, b, y)
			unlike(b, x, b, y)
			unlike(nil, y, nil, y)
		}
		unlike(nil, x, nil, x)
		unlike(nil, x, []byte{}, 3-x)
	}
}

// P10.4: rows far longer than a file's.
func TestLong(t *testing.T) {
	l := some(chance(106), 30000)
	for _, fmt := range both() {
		b, e := File(fmt, 1, l...)
		got(t, "file", b, e, plain(fmt, 1, l...))
		c, e := Turn(b, fmt, 3-fmt)
		got(t, "turn", c, e, plain(3-fmt, 1, l...))
		if !Alike(b, fmt, c, 3-fmt) || Which(b) != fmt {
			t.Error(fmt)
		}
	}
}

// R4: what is handed in stays as it was, spare room too, and shares no memory with answers.
func TestMemory(t *testing.T) {
	l := []api.Entry{{Term: 1}, {Term: 2, Kind: api.EnData, Value: 3}, {Term: -1, Kind: 9, Value: 9}}
	was := slices.Clone(l)
	for _, fmt := range both() {
		room := append(plain(fmt, 4, l[:2]...), "spare room"...)
		before := slices.Clone(room)
		b := room[:len(room)-10]
		kept := slices.Clone(b)
		s, _ := Scan(b, fmt)
		again, _ := Scan(b, fmt)
		for i := range s.Log {
			s.Log[i].Term = 99
		}
		_ = append(s.Log, api.Entry{Term: 98})
		if !same(again, api.Scan{First: 4, Log: was[:2], Used: len(b)}) {
			t.Error("an answer changed another:", again)
		}
		calls := []func() ([]byte, api.Errno){
			func() ([]byte, api.Errno) { return File(fmt, 4, l[:2]...) },
			func() ([]byte, api.Errno) { return More(b, fmt, l[:2]...) },
			func() ([]byte, api.Errno) { return Turn(b, fmt, fmt) },
			func() ([]byte, api.Errno) { return Turn(b, fmt, 3-fmt) },
		}
		for i, call := range calls {
			first, _ := call()
			second, _ := call()
			want := slices.Clone(second)
			for k := range first {
				first[k] ^= 255
			}
			_ = append(first, "over what stands behind"...)
			if !bytes.Equal(second, want) || len(want) == 0 {
				t.Error("an answer changed another:", fmt, i)
			}
		}
		Alike(b, fmt, b, fmt)
		Which(b)
		if !bytes.Equal(room, before) || !bytes.Equal(b, kept) || !slices.Equal(l, was) {
			t.Error("what was handed in is another:", room, l)
		}
	}
}

// R3, R4: formats and pairs of entries come in one order, may be left early, and gone over again.
func TestAgain(t *testing.T) {
	all := each()
	for fmt := range all {
		if fmt != 1 {
			t.Error(fmt)
		}
		break
	}
	a, b := some(chance(7), 3), some(chance(8), 3)
	side := pairs(a, b)
	for x, y := range side {
		if x != a[0] || y != b[0] {
			t.Error(x, y)
		}
		break
	}
	for range 50 {
		var l []int
		for fmt, f := range all {
			l = append(l, fmt)
			if s, e := f.scan(plain(fmt, 8)); e != api.OK || s.First != 8 {
				t.Error(fmt, s, e)
			}
		}
		if !slices.Equal(l, both()) {
			t.Error(l)
		}
		at := 0
		for x, y := range side {
			if x != a[at] || y != b[at] {
				t.Error(at, x, y)
			}
			at++
		}
		if at != 3 {
			t.Error(at)
		}
	}
}
