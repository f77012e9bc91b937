package snap

import (
	"bytes"
	"encoding/binary"
	"hash/crc32"
	"math"
	"slices"
	"testing"

	"moult/api"
)

const (
	top  = 1073741824 // MaxNumber
	side = 10007      // of the plane
)

// edges are numbers at which bytes become more, and those beside them.
func edges() []int {
	return []int{1, 2, 3, 127, 128, 129, 255, 256, 300, 16383, 16384, 65535, 65536, 2097151, 2097152, 16777216, 268435455, 268435456, 987654321, top - 1, top}
}

// others are none from 0 to MaxNumber.
func others() []int {
	return []int{-1, -2, -128, top + 1, top + 2, math.MaxInt32, 1 << 32, 1<<32 + 1, math.MinInt32, math.MaxInt, math.MinInt}
}

// noFormats are neither Fmt1 nor Fmt2.
func noFormats() []int {
	return append(others(), 0, 3, 4, 49, 50, 255, 256, 257, 258, 1<<32+2)
}

// good are states that may be: the first one, and others with bytes of all lengths, at all levels.
func good() []api.State {
	l := []api.State{{Level: 1}}
	for i, n := range edges() {
		m, k := edges()[(i*5+2)%len(edges())], append(edges(), 0)[(i*8+21)%(len(edges())+1)]
		l = append(l, api.State{Index: n, Term: m, Sum: k, Level: 1}, api.State{Index: m, Term: n, Sum: k, Level: 2}, api.State{Index: m, Term: k + 1 - k/top, Sum: n, Level: 2, Final: true})
	}
	return append(l,
		api.State{Index: 1, Term: 1, Level: 1}, api.State{Index: 1, Term: 1, Level: 2}, api.State{Index: 1, Term: 1, Level: 2, Final: true},
		api.State{Index: top, Term: top, Sum: top, Level: 1}, api.State{Index: top, Term: top, Sum: top, Level: 2, Final: true})
}

// wrong are states that may not be.
func wrong() []api.State {
	l := []api.State{
		{}, {Final: true}, {Level: 2}, {Level: 2, Final: true}, {Level: 1, Final: true}, {Level: 1, Sum: 1}, {Level: 1, Term: 1}, {Index: 1, Level: 1}, {Term: 3, Sum: 4, Level: 2},
		{Index: 1, Term: 1, Level: 1, Final: true}, {Index: 1, Term: 1}, {Index: 1, Term: 1, Final: true}, {Index: 1, Term: 1, Level: 3}, {Index: 1, Term: 1, Level: 3, Final: true},
		{Index: 1, Term: 1, Level: 128}, {Index: 1, Term: 1, Level: 257}, {Index: 1, Term: 1, Level: 258, Final: true},
	}
	for _, n := range others() {
		l = append(l, api.State{Index: n, Term: 1, Level: 1}, api.State{Index: 1, Term: n, Level: 1}, api.State{Index: 1, Term: 1, Sum: n, Level: 2}, api.State{Index: 1, Term: 1, Level: n},
			api.State{Index: n, Level: 1}, api.State{Sum: n, Level: 1}, api.State{Index: 2, Term: 3, Sum: n, Level: 2, Final: true})
	}
	return l
}

// bit is 1 of yes.
func bit(yes bool) int {
	if yes {
		return 1
	}
	return 0
}

// long is a number's long bytes: of one above MaxNumber, too.
func long(n int) []byte {
	return binary.BigEndian.AppendUint64(nil, uint64(n))[3:]
}

// short are a number's short bytes: of one above MaxNumber, too.
func short(n int) []byte {
	b := []byte{byte(n % 128)}
	for n /= 128; n > 0; n /= 128 {
		b = append(b, byte(n%128)+128)
	}
	slices.Reverse(b)
	return b
}

// summed is b, and the four bytes of its sum by the library.
func summed(b []byte) []byte {
	return binary.LittleEndian.AppendUint32(slices.Clone(b), crc32.Checksum(b, crc32.MakeTable(crc32.Castagnoli)))
}

// plainOne is a snapshot of the first format, by the chapter's words: of any numbers.
func plainOne(index, term, sum int, level, final byte) []byte {
	return summed(slices.Concat([]byte{1}, long(index), long(term), long(sum), []byte{level, final}))
}

// plainText is a text, by the chapter's words: of any numbers.
func plainText(l ...int) []byte {
	var b []byte
	for _, n := range l {
		b = append(b, short(n)...)
	}
	return b
}

// onwards is the point behind the bytes, by the words of chapter 2, in whole numbers.
func onwards(re, im int, b []byte) (int, int) {
	for _, x := range b {
		re, im = (3*re-5*im+int(x)+1+5*side)%side, (5*re+3*im)%side
	}
	return re, im
}

// chained is the pieces one behind the other, each with its chain, by the chapter's words.
func chained(parts ...[]byte) []byte {
	var b []byte
	re, im := 0, 0
	for _, p := range parts {
		re, im = onwards(re, im, p)
		b = append(append(b, p...), byte(re/256), byte(re%256), byte(im/256), byte(im%256))
	}
	return b
}

// cut is the text in parts of so many bytes, the last one of those that are left.
func cut(text []byte, size int) (parts [][]byte) {
	for at := 0; at < len(text); at += size {
		parts = append(parts, text[at:min(at+size, len(text))])
	}
	return parts
}

// plainTwo is a snapshot of the second format, by the chapter's words: of any text.
func plainTwo(text []byte) []byte {
	parts := cut(text, 4)
	return append([]byte{2, byte(len(parts))}, chained(parts...)...)
}

// textOf is the text of a state.
func textOf(s api.State) []byte {
	return plainText(s.Index, s.Term, s.Sum, s.Level, bit(s.Final))
}

// plain is a state's snapshot in the format.
func plain(s api.State, fmt int) []byte {
	if fmt == api.Fmt1 {
		return plainOne(s.Index, s.Term, s.Sum, byte(s.Level), byte(bit(s.Final)))
	}
	return plainTwo(textOf(s))
}

// none fails if b is taken for a snapshot, in whichever format.
func none(t *testing.T, b []byte) {
	t.Helper()
	for _, fmt := range append(noFormats(), api.Fmt1, api.Fmt2) {
		noneOf(t, b, fmt)
	}
}

// noneOf fails if b is taken for a snapshot of that format, by any call.
func noneOf(t *testing.T, b []byte, fmt int) {
	t.Helper()
	if s, e := Take(b, fmt); e != api.ErrForm || s != (api.State{}) {
		t.Errorf("%x, %d: %v, %d", b, fmt, s, e)
	}
	for _, to := range []int{api.Fmt1, api.Fmt2, 0, 3} {
		if c, e := Again(b, fmt, to); e != api.ErrForm || len(c) != 0 {
			t.Errorf("%x, %d, %d: %x, %d", b, fmt, to, c, e)
		}
	}
}

// P9.1: texts.
func TestText(t *testing.T) {
	for _, c := range []struct {
		s    api.State
		want string
	}{
		{api.State{Level: 1}, "\x00\x00\x00\x01\x00"},
		{api.State{Index: 300, Term: 2, Sum: 127, Level: 2, Final: true}, "\x82\x2c\x02\x7f\x02\x01"},
		{api.State{Index: 1, Term: 1, Sum: 128, Level: 2}, "\x01\x01\x81\x00\x02\x00"},
		{api.State{Index: top, Term: top, Sum: top, Level: 1}, "\x84\x80\x80\x80\x00\x84\x80\x80\x80\x00\x84\x80\x80\x80\x00\x01\x00"},
	} {
		if b, e := Text(c.s); e != api.OK || string(b) != c.want {
			t.Errorf("%v: %x, %d", c.s, b, e)
		}
	}
	for _, s := range good() {
		if b, e := Text(s); e != api.OK || !bytes.Equal(b, textOf(s)) {
			t.Errorf("%v: %x, %d", s, b, e)
		}
	}
	for _, s := range wrong() {
		if b, e := Text(s); e != api.ErrArg || len(b) != 0 {
			t.Errorf("%v: %x, %d", s, b, e)
		}
	}
}

// P9.1: pieces of any text, one of them byte by byte; of nothing: nothing.
func TestPieces(t *testing.T) {
	for _, b := range [][]byte{Pieces(nil), Pieces([]byte{})} {
		if len(b) != 0 {
			t.Errorf("%x", b)
		}
	}
	// From 0 by 0 to 1, by 0 to 4 + 5 i, by 0 to 9995 + 35 i, by 1 to 9798 + 45 i; and by 0 to 9156 + 9097 i.
	if b := Pieces([]byte{0, 0, 0, 1, 0}); !bytes.Equal(b, []byte{0, 0, 0, 1, 38, 70, 0, 45, 0, 35, 196, 35, 137}) {
		t.Errorf("%x", b)
	}
	text := make([]byte, 0, 3000)
	for n := range cap(text) { // far more pieces than a byte tells
		if n < 50 || n%7 == 0 {
			if b := Pieces(text); !bytes.Equal(b, chained(cut(text, 4)...)) {
				t.Errorf("%x: %x", text, b)
			}
		}
		text = append(text, byte(n*n/3+n))
	}
	for with := range 256 {
		same := bytes.Repeat([]byte{byte(with)}, 9)
		if b := Pieces(same); !bytes.Equal(b, chained(cut(same, 4)...)) {
			t.Errorf("%x: %x", same, b)
		}
	}
}

// P9.2: the first state in both formats, byte by byte; the chapter's example is among them.
func TestFirst(t *testing.T) {
	first := api.State{Level: 1}
	b, e := Put(first, api.Fmt1)
	want := append([]byte{1}, make([]byte, 15)...)
	want = summed(append(want, 1, 0))
	if e != api.OK || len(b) != 22 || !bytes.Equal(b, want) {
		t.Errorf("%x, %d", b, e)
	}
	b, e = Put(first, api.Fmt2)
	if e != api.OK || !bytes.Equal(b, []byte{2, 2, 0, 0, 0, 1, 38, 70, 0, 45, 0, 35, 196, 35, 137}) {
		t.Errorf("%x, %d", b, e)
	}
}

// P9.2, P9.4: what is put, of all lengths; and what is put is taken.
func TestPut(t *testing.T) {
	for _, s := range good() {
		for fmt, other := range map[int]int{api.Fmt1: api.Fmt2, api.Fmt2: api.Fmt1} {
			b, e := Put(s, fmt)
			if e != api.OK || !bytes.Equal(b, plain(s, fmt)) {
				t.Errorf("%v, %d: %x, %d", s, fmt, b, e)
			}
			if x, e := Take(b, fmt); e != api.OK || x != s {
				t.Errorf("%v, %d: %v, %d", s, fmt, x, e)
			}
			noneOf(t, b, other)
		}
	}
}

// P9.2: a state that may not be, or a format that is none.
func TestPutWrong(t *testing.T) {
	no := func(s api.State, fmt int) {
		t.Helper()
		if b, e := Put(s, fmt); e != api.ErrArg || len(b) != 0 {
			t.Errorf("%v, %d: %x, %d", s, fmt, b, e)
		}
	}
	for _, s := range wrong() {
		for _, fmt := range append(noFormats(), api.Fmt1, api.Fmt2) {
			no(s, fmt)
		}
	}
	for _, s := range good() {
		for _, fmt := range noFormats() {
			no(s, fmt)
			noneOf(t, plain(s, api.Fmt1), fmt)
			noneOf(t, plain(s, api.Fmt2), fmt)
		}
	}
}

// P9.2: all of the bytes are it: none with fewer of them, with more, or with others ahead.
func TestTakeLength(t *testing.T) {
	none(t, nil)
	none(t, []byte{})
	for x := range 256 {
		none(t, []byte{byte(x)})
		none(t, []byte{2, byte(x)})
		none(t, append([]byte{2, byte(x)}, make([]byte, 8)...))
		none(t, bytes.Repeat([]byte{byte(x)}, 22))
	}
	for _, s := range good() {
		for _, fmt := range []int{api.Fmt1, api.Fmt2} {
			b := plain(s, fmt)
			for left := range b {
				none(t, b[:left])
				none(t, b[left+1:])
			}
			for _, more := range [][]byte{{0}, {1}, {255}, make([]byte, 4), make([]byte, 8), b, b[2:]} {
				none(t, append(slices.Clone(b), more...))
				none(t, append(slices.Clone(more), b...))
			}
		}
	}
	none(t, append([]byte{2, 0}, make([]byte, 100000)...))
}

// P9.2: numbers that make no state, though the sum is right.
func TestTakeOne(t *testing.T) {
	for _, s := range wrong() {
		if s.Index >= 0 && s.Term >= 0 && s.Sum >= 0 && s.Level >= 0 && s.Level < 256 {
			none(t, plainOne(s.Index, s.Term, s.Sum, byte(s.Level), byte(bit(s.Final))))
		}
	}
	for with := range 256 {
		x := byte(with)
		if x != 1 && x != 2 {
			none(t, plainOne(5, 6, 7, x, 0))
			none(t, plainOne(5, 6, 7, x, 1))
		}
		if x > 1 {
			none(t, plainOne(5, 6, 7, 1, x))
			none(t, plainOne(5, 6, 7, 2, x))
			none(t, plainOne(0, 0, 0, 1, x))
		}
		other := plainOne(5, 6, 7, 2, 1)[:18]
		if other[0] = x; x != 1 {
			none(t, summed(other))
		}
	}
	whole := plainOne(5, 6, 7, 2, 1)[:18]
	for left := range whole {
		none(t, summed(whole[:left]))
	}
	none(t, summed(append(whole, 0)))
}

// P9.2: texts of no state, though the pieces, their chains, and how many they are, are right.
func TestTakeText(t *testing.T) {
	for _, s := range wrong() {
		if s.Index >= 0 && s.Term >= 0 && s.Sum >= 0 && s.Level >= 0 {
			none(t, plainTwo(textOf(s)))
		}
	}
	for _, last := range []int{2, 3, 127, 128, 256, 257, top} {
		none(t, plainTwo(plainText(5, 6, 7, 2, last)))
		none(t, plainTwo(plainText(5, 6, 7, 1, last)))
		none(t, plainTwo(plainText(0, 0, 0, 1, last)))
	}
	for _, l := range [][]int{nil, {5}, {5, 6}, {5, 6, 7}, {5, 6, 7, 2}, {5, 6, 7, 2, 1, 0}, {5, 6, 7, 2, 1, 1}, {5, 6, 7, 2, 1, 300}} {
		none(t, plainTwo(plainText(l...)))
	}
	for _, text := range []string{ // numbers that are not as they would be put
		"\x80\x05\x06\x07\x02\x01", "\x05\x80\x06\x07\x02\x01", "\x05\x06\x80\x07\x02\x01", "\x05\x06\x07\x80\x02\x01", "\x05\x06\x07\x02\x80\x01",
		"\x05\x06\x07\x02\x80\x00", "\x05\x06\x07\x02\x81", "\x05\x06\x07\x02\x01\x81", "\x05\x06\x81\x80\x80\x80\x80\x00\x02\x01", "\x05\x06\x84\x80\x80\x80\x01\x02\x01",
	} {
		none(t, plainTwo([]byte(text)))
	}
	none(t, plainTwo(make([]byte, 4*258)))                                  // pieces as if there were 2
	none(t, plainTwo(append(plainText(5, 6, 7, 2), make([]byte, 1024)...))) // likewise
}

// P9.2: pieces that are cut otherwise, counted otherwise, or chained otherwise.
func TestTakePieces(t *testing.T) {
	for _, s := range good() {
		text := textOf(s)
		parts := cut(text, 4)
		right := byte(len(parts))
		for many := range 256 {
			if byte(many) != right {
				none(t, append([]byte{2, byte(many)}, chained(parts...)...))
			}
		}
		for _, size := range []int{1, 2, 3, 5, 8} {
			others := cut(text, size)
			none(t, append([]byte{2, byte(len(others))}, chained(others...)...))
			none(t, append([]byte{2, right}, chained(others...)...))
		}
		short := slices.Insert(cut(text[3:], 4), 0, text[:3])
		none(t, append([]byte{2, byte(len(short))}, chained(short...)...))
		for at := range len(parts) + 1 { // a piece of nothing
			more := slices.Insert(slices.Clone(parts), at, []byte{})
			none(t, append([]byte{2, right}, chained(more...)...))
			none(t, append([]byte{2, right + 1}, chained(more...)...))
		}
		b := []byte{2, right}
		for _, p := range parts { // each from 0 on
			b = append(b, chained(p)...)
		}
		none(t, b)
		for with := range 256 {
			head := []byte{byte(with), right}
			if with != 2 {
				none(t, append(head, chained(parts...)...))
			}
		}
	}
}

// P9.3: a snapshot in the other format, and in its own; P9.4: put again, and back again, the bytes are as they were.
func TestAgain(t *testing.T) {
	for _, s := range good() {
		for _, from := range []int{api.Fmt1, api.Fmt2} {
			for _, to := range []int{api.Fmt1, api.Fmt2} {
				b := plain(s, from)
				c, e := Again(b, from, to)
				if e != api.OK || !bytes.Equal(c, plain(s, to)) {
					t.Errorf("%v, %d, %d: %x, %d", s, from, to, c, e)
				}
				if d, e := Again(c, to, from); e != api.OK || !bytes.Equal(d, b) {
					t.Errorf("%v, %d, %d: %x, %d", s, from, to, d, e)
				}
			}
		}
	}
}

// P9.3: Take's error goes ahead of Put's.
func TestAgainWrong(t *testing.T) {
	for _, from := range []int{api.Fmt1, api.Fmt2} {
		b := plain(good()[7], from)
		for _, to := range noFormats() {
			if c, e := Again(b, from, to); e != api.ErrArg || len(c) != 0 {
				t.Errorf("%d, %d: %x, %d", from, to, c, e)
			}
			if c, e := Again(b[1:], from, to); e != api.ErrForm || len(c) != 0 {
				t.Errorf("%d, %d: %x, %d", from, to, c, e)
			}
			if c, e := Again(b, to, from); e != api.ErrForm || len(c) != 0 {
				t.Errorf("%d, %d: %x, %d", to, from, c, e)
			}
			if c, e := Again(b, to, to); e != api.ErrForm || len(c) != 0 {
				t.Errorf("%d: %x, %d", to, c, e)
			}
		}
		if c, e := Again(b, 3-from, from); e != api.ErrForm || len(c) != 0 {
			t.Errorf("%d: %x, %d", from, c, e)
		}
	}
}

// P9.4: with a byte that is another one, wherever it is, it is no snapshot, of either format.
func TestOtherByte(t *testing.T) {
	for _, s := range good() {
		for _, fmt := range []int{api.Fmt1, api.Fmt2} {
			b := plain(s, fmt)
			for at := range b {
				for with := 1; with < 256; with++ {
					other := slices.Clone(b)
					other[at] ^= byte(with)
					for _, fmt := range []int{api.Fmt1, api.Fmt2} {
						if x, e := Take(other, fmt); e != api.ErrForm || x != (api.State{}) {
							t.Errorf("%x, %d: %v, %d", other, fmt, x, e)
						}
					}
				}
			}
		}
	}
}

// R4: what is handed in stays as it was, spare room too, and shares no memory with answers.
func TestMemory(t *testing.T) {
	s := api.State{Index: 300, Term: 2, Sum: 99999, Level: 2, Final: true}
	for _, fmt := range []int{api.Fmt1, api.Fmt2} {
		b := plain(s, fmt)
		room := append(slices.Clone(b), "spare room"...)
		before := slices.Clone(room)
		answers := func() (all [][]byte) {
			put, _ := Put(s, fmt)
			text, _ := Text(s)
			same, _ := Again(room[:len(b)], fmt, fmt)
			other, _ := Again(room[:len(b)], fmt, 3-fmt)
			return [][]byte{put, text, same, other, Pieces(room[:len(b)]), Pieces(room[:3])}
		}
		first, second, third := answers(), answers(), answers()
		for _, b := range first {
			for i := range b {
				b[i] ^= 255
			}
			_ = append(b, "over what stands behind"...)
		}
		for i := range second {
			if !bytes.Equal(second[i], third[i]) || bytes.Equal(second[i], first[i]) {
				t.Errorf("an answer changed another: %d, %d: %x", fmt, i, second[i])
			}
		}
		if x, e := Take(room[:len(b)], fmt); e != api.OK || x != s {
			t.Error(fmt, x, e)
		}
		if !bytes.Equal(room, before) {
			t.Errorf("what was handed in is another: %x", room)
		}
	}
}

// R4: the iterator may be left early and gone over again.
func TestGoneOverAgain(t *testing.T) {
	text := []byte{0, 0, 0, 1, 0}
	all := pieces(text)
	for part, z := range all {
		if !bytes.Equal(part, text[:4]) || z != 9798+45i {
			t.Error(part, z)
		}
		break
	}
	for range 2 {
		var parts []byte
		var points []complex128
		for part, z := range all {
			parts, points = append(parts, part...), append(points, z)
		}
		if !bytes.Equal(parts, text) || !slices.Equal(points, []complex128{9798 + 45i, 9156 + 9097i}) {
			t.Error(parts, points)
		}
	}
}
