package two

import (
	"bytes"
	"math"
	"math/cmplx"
	"slices"
	"testing"

	"moult/api"
)

const (
	top  = 1073741824 // MaxNumber
	side = 10007      // of the plane
)

// edges are numbers at which short bytes become more, and those beside them.
func edges() []int {
	return []int{1, 2, 3, 127, 128, 129, 300, 16383, 16384, 16385, 2097151, 2097152, 268435455, 268435456, 987654321, top - 1, top}
}

// others are none from 1 to MaxNumber.
func others() []int {
	return []int{0, -1, -2, -128, top + 1, top + 2, math.MaxInt32, 1 << 32, 1<<32 + 2, math.MinInt32, math.MaxInt, math.MinInt}
}

// noPoints are numbers that are no points.
func noPoints() []complex128 {
	return []complex128{-1, -1i, 1 - 1i, 0.5, 3 + 0.25i, side, side * 1i, 5 + side*1i, 1e300, cmplx.NaN(), cmplx.Inf(), complex(1, math.NaN()), complex(math.Inf(-1), 0)}
}

// good are entries that may be: of all kinds, with short bytes of all lengths.
func good() []api.Entry {
	var l []api.Entry
	for i, n := range edges() {
		l = append(l, api.Entry{Term: n, Kind: api.EnData, Value: edges()[(i*5)%len(edges())]}, api.Entry{Term: n, Kind: []int{0, 2, 3, 4}[i%4]})
	}
	return append(l, api.Entry{Term: 1, Kind: api.EnData}, api.Entry{Term: top, Kind: api.EnData, Value: top})
}

// wrong are entries that may not be.
func wrong() []api.Entry {
	l := []api.Entry{{Kind: api.EnData, Value: 3}}
	for _, n := range others() {
		l = append(l, api.Entry{Term: n}, api.Entry{Term: n, Kind: api.EnData, Value: 1})
		if n != 0 { // nought may be a value, and a kind
			l = append(l, api.Entry{Term: 1, Kind: api.EnData, Value: n}, api.Entry{Term: 1, Value: n}, api.Entry{Term: 1, Kind: n})
		}
	}
	for _, kind := range []int{-1, 5, 127, 128, 256, 257, 1<<32 + 1, math.MinInt, math.MaxInt} {
		l = append(l, api.Entry{Term: 1, Kind: kind})
	}
	return append(l, api.Entry{Term: 9, Value: 1}, api.Entry{Term: 9, Kind: api.EnPropose, Value: 1}, api.Entry{Term: 9, Kind: api.EnRevert, Value: top}, api.Entry{Term: 9, Kind: api.EnFinal, Value: 2})
}

// digits are the short bytes of any number from 0 on, by the words of chapter 1.
func digits(n int) []byte {
	b := []byte{byte(n % 128)}
	for n /= 128; n > 0; n /= 128 {
		b = append(b, byte(n%128)+128)
	}
	slices.Reverse(b)
	return b
}

// onwards is the point behind the bytes, by the words of chapter 2, in whole numbers.
func onwards(z complex128, b []byte) complex128 {
	re, im := int(real(z)), int(imag(z))
	for _, x := range b {
		re, im = (3*re-5*im+int(x)+1+5*side)%side, (5*re+3*im)%side
	}
	return complex(float64(re), float64(im))
}

// ended is b, and behind it the four bytes of its point, from z on, and that point.
func ended(z complex128, b []byte) ([]byte, complex128) {
	z = onwards(z, b)
	re, im := int(real(z)), int(imag(z))
	return append(slices.Clone(b), byte(re/256), byte(re%256), byte(im/256), byte(im%256)), z
}

// plainHead is a head by the chapter's words.
func plainHead(first int) []byte {
	return append([]byte{2}, digits(first)...)
}

// plainText is what a block has ahead of its point's bytes: of whatever entries.
func plainText(l ...api.Entry) []byte {
	b := []byte{byte(len(l))}
	for _, x := range l {
		b = slices.Concat(b, digits(x.Term), digits(x.Kind), digits(x.Value))
	}
	return b
}

// plainBlocks are the entries in blocks behind z by the chapter's words, SegSize to each, and the point behind the last one.
func plainBlocks(z complex128, l ...api.Entry) ([]byte, complex128) {
	var all, next []byte
	for len(l) > 0 {
		n := min(4, len(l))
		next, z = ended(z, plainText(l[:n]...))
		all, l = append(all, next...), l[n:]
	}
	return all, z
}

// plainFile is a segment by the chapter's words.
func plainFile(first int, l ...api.Entry) []byte {
	head := plainHead(first)
	b, _ := plainBlocks(onwards(0, head), l...)
	return append(head, b...)
}

// plainMay tells whether an entry may be.
func plainMay(x api.Entry) bool {
	return x.Term >= 1 && x.Term <= top && x.Kind >= 0 && x.Kind <= 4 && x.Value >= 0 && x.Value <= top && (x.Kind == 1 || x.Value == 0)
}

// plainTake is the number that b begins with: the one whose digits stand there.
func plainTake(b []byte) (n int, rest []byte, is bool) {
	for i := range min(5, len(b)) {
		n = n*128 + int(b[i]%128)
		if b[i] < 128 {
			return n, b[i+1:], bytes.Equal(b[:i+1], digits(n)) && n <= top
		}
	}
	return 0, nil, false
}

// plainScan scans by putting: what might stand at a place is put, and held against what stands there.
func plainScan(b []byte) (s api.Scan, z complex128, e api.Errno) {
	if len(b) == 0 || b[0] != 2 {
		return api.Scan{}, 0, api.ErrForm
	}
	first, rest, is := plainTake(b[1:])
	if !is || first == 0 {
		return api.Scan{}, 0, api.ErrForm
	}
	s.First, s.Used = first, len(b)-len(rest)
	z = onwards(0, b[:s.Used])
	for len(rest) > 0 && rest[0] >= 1 && rest[0] <= 4 {
		l, left, is := make([]api.Entry, rest[0]), rest[1:], true
		for i := 0; is && i < len(l); i++ {
			var have [3]bool
			l[i].Term, left, have[0] = plainTake(left)
			l[i].Kind, left, have[1] = plainTake(left)
			l[i].Value, left, have[2] = plainTake(left)
			is = have == [3]bool{true, true, true} && plainMay(l[i])
		}
		if !is {
			break
		}
		put, end := plainBlocks(z, l...)
		if !bytes.HasPrefix(rest, put) {
			break
		}
		s.Log, s.Used = append(s.Log, l...), s.Used+len(put)
		rest, z = rest[len(put):], end
	}
	return s, z, api.OK
}

// chance tells numbers below n that look like it, the same ones each time.
func chance(seed uint64) func(n int) int {
	return func(n int) int {
		seed = seed*6364136223846793005 + 1442695040888963407
		return int(seed >> 33 % uint64(n))
	}
}

// some is so many entries that may be.
func some(roll func(int) int, many int) []api.Entry {
	all := good()
	l := make([]api.Entry, many)
	for i := range l {
		l[i] = all[roll(len(all))]
	}
	return l
}

// point is one that looks like chance.
func point(roll func(int) int) complex128 {
	return complex(float64(roll(side)), float64(roll(side)))
}

// alike tells whether two scans are.
func alike(a, b api.Scan) bool {
	return a.First == b.First && a.Used == b.Used && slices.Equal(a.Log, b.Log)
}

// told fails if b does not tell that, by Scan and by End.
func told(t *testing.T, b []byte, first, used int, l ...api.Entry) {
	t.Helper()
	want := api.Scan{First: first, Log: l, Used: used}
	if s, e := Scan(b); e != api.OK || !alike(s, want) {
		t.Errorf("%x: %v, %d, not %v", b, s, e, want)
	}
	z, e := End(b)
	if used < len(b) && (e != api.ErrForm || z != 0) || used == len(b) && e != api.OK {
		t.Errorf("%x: %v, %d, used %d", b, z, e, used)
	}
}

// headless fails if b is taken for what begins with a head, by any call.
func headless(t *testing.T, b []byte) {
	t.Helper()
	if s, e := Scan(b); e != api.ErrForm || !alike(s, api.Scan{}) {
		t.Errorf("%x: %v, %d", b, s, e)
	}
	unfinished(t, b)
}

// unfinished fails if b is taken for what is all used.
func unfinished(t *testing.T, b []byte) {
	t.Helper()
	if z, e := End(b); e != api.ErrForm || z != 0 {
		t.Errorf("%x: %v, %d", b, z, e)
	}
	for _, l := range [][]api.Entry{nil, {{Term: 1}}, {{}}, {{Term: 1}, {Term: -1}}} {
		if m, e := More(b, l...); e != api.ErrForm || len(m) != 0 {
			t.Errorf("%x, %v: %x, %d", b, l, m, e)
		}
	}
}

// P8.1: heads, the chapter's example among them.
func TestHead(t *testing.T) {
	for _, c := range []struct {
		first int
		want  string
	}{
		{1, "\x02\x01"}, {127, "\x02\x7f"}, {128, "\x02\x81\x00"}, {300, "\x02\x82\x2c"}, {top, "\x02\x84\x80\x80\x80\x00"},
	} {
		if b, e := Head(c.first); e != api.OK || string(b) != c.want {
			t.Error(c.first, b, e)
		}
	}
	for _, first := range edges() {
		if b, e := Head(first); e != api.OK || !bytes.Equal(b, plainHead(first)) {
			t.Error(first, b, e)
		}
	}
	for _, first := range others() {
		if b, e := Head(first); e != api.ErrArg || len(b) != 0 {
			t.Error(first, b, e)
		}
	}
}

// P8.1: a block, two of them byte by byte.
func TestBlock(t *testing.T) {
	// From 0 by 1 to 2, by 1 to 8 + 10 i, by 0 to 10007 - 25 + 70 i, by 0 to 9583 + 85 i.
	b, z, e := Block(0, api.Entry{Term: 1})
	if e != api.OK || z != 9583+85i || !bytes.Equal(b, []byte{1, 1, 0, 0, 37, 111, 0, 85}) {
		t.Error(b, z, e)
	}
	l := []api.Entry{{Term: 300, Kind: api.EnData, Value: 128}, {Term: 2, Kind: api.EnFinal}}
	text := []byte{2, 130, 44, 1, 129, 0, 2, 4, 0}
	want, end := ended(4+5i, text)
	if b, z, e := Block(4+5i, l...); e != api.OK || z != end || !bytes.Equal(b, want) || !bytes.Equal(text, plainText(l...)) {
		t.Error(b, z, e)
	}
	roll := chance(81)
	for many := 1; many <= 4; many++ {
		for range 500 {
			z, l := point(roll), some(roll, many)
			want, end := plainBlocks(z, l...)
			if b, next, e := Block(z, l...); e != api.OK || next != end || !bytes.Equal(b, want) {
				t.Error(z, l, b, next, e)
			}
		}
	}
}

// P8.1: another number than a point counts as 0.
func TestBlockPoint(t *testing.T) {
	l := some(chance(82), 3)
	want, end := plainBlocks(0, l...)
	for _, z := range append(noPoints(), 0, complex(math.Copysign(0, -1), math.Copysign(0, -1))) {
		if b, next, e := Block(z, l...); e != api.OK || next != end || !bytes.Equal(b, want) {
			t.Error(z, b, next, e)
		}
	}
	for _, z := range []complex128{1, 1i, side - 1, (side - 1) * 1i, side - 1 + (side-1)*1i} {
		if b, next, e := Block(z, l...); e != api.OK || next == end || bytes.Equal(b, want) {
			t.Error(z, b, next, e)
		}
	}
}

// P8.1: no entries, more than SegSize, one that may not be: nothing.
func TestBlockWrong(t *testing.T) {
	roll := chance(83)
	no := func(l ...api.Entry) {
		t.Helper()
		for _, z := range []complex128{0, 4 + 5i, cmplx.NaN()} {
			if b, next, e := Block(z, l...); e != api.ErrArg || next != 0 || len(b) != 0 {
				t.Error(z, l, b, next, e)
			}
		}
	}
	no()
	no([]api.Entry{}...)
	for _, many := range []int{5, 6, 8, 256, 257, 260, 1000} {
		no(some(roll, many)...)
	}
	for _, bad := range wrong() {
		for many := range 5 {
			for at := range many + 1 {
				no(slices.Insert(some(roll, many), at, bad)...)
			}
		}
	}
}

// P8.1: a segment is a head, and blocks of SegSize, the last one of those that are left.
func TestFile(t *testing.T) {
	roll := chance(84)
	for _, first := range edges() {
		for many := range 14 {
			l := some(roll, many)
			if b, e := File(first, l...); e != api.OK || !bytes.Equal(b, plainFile(first, l...)) {
				t.Error(first, l, b, e)
			}
		}
		if b, e := File(first, []api.Entry{}...); e != api.OK || !bytes.Equal(b, plainHead(first)) {
			t.Error(first, b, e)
		}
	}
	for _, first := range others() {
		for _, l := range [][]api.Entry{nil, {{Term: 1}}, {{}}, some(roll, 9)} {
			if b, e := File(first, l...); e != api.ErrArg || len(b) != 0 {
				t.Error(first, l, b, e)
			}
		}
	}
}

// P8.1, P8.3: an entry that may not be, in whichever block, and nothing is told.
func TestWrong(t *testing.T) {
	roll := chance(85)
	b := plainFile(9, some(roll, 5)...)
	for _, bad := range wrong() {
		for _, many := range []int{0, 3, 4, 11} {
			for at := range many + 1 {
				l := slices.Insert(some(roll, many), at, bad)
				if f, e := File(9, l...); e != api.ErrArg || len(f) != 0 {
					t.Error(l, f, e)
				}
				if m, e := More(b, l...); e != api.ErrArg || len(m) != 0 {
					t.Error(l, m, e)
				}
			}
		}
	}
}

// P8.2, P8.3: what does not begin with a head.
func TestHeadless(t *testing.T) {
	headless(t, nil)
	headless(t, []byte{})
	for _, first := range edges() {
		head := plainHead(first)
		blocks := plainFile(first, good()[:5]...)[len(head):]
		headless(t, head[1:])
		headless(t, blocks)
		for cut := range head {
			headless(t, head[:cut])
		}
		for b := range 256 {
			if b == 2 {
				continue
			}
			other := slices.Clone(head)
			other[0] = byte(b)
			headless(t, other)
			headless(t, append(other, blocks...))
		}
	}
	for _, head := range []string{
		"\x02\x00", "\x02\x80", "\x02\x80\x01", "\x02\x80\x80\x01", "\x02\x84\x80\x80\x80\x01", "\x02\x88\x80\x80\x80\x00", "\x02\xff\xff\xff\xff\x7f",
		"\x02\x81\x80\x80\x80\x80", "\x02\x81\x80\x80\x80\x80\x00", "\x02\xff\xff\xff\xff\xff\xff\xff\xff\xff\xff", "\x02\xff\xff\xff\xff",
		"\x01\x00\x00\x00\x00\x01", "\x00\x02\x01",
	} {
		headless(t, []byte(head))
		put, _ := plainBlocks(onwards(0, []byte(head)), api.Entry{Term: 1})
		headless(t, append([]byte(head), put...))
	}
}

// P8.2: entries up to the first place at which no block stands, whatever stands behind that; P8.3: then b is not all used.
func TestScan(t *testing.T) {
	l := good()[20:26]
	head := plainHead(300)
	blocks, end := plainBlocks(onwards(0, head), l...)
	whole := append(slices.Clone(head), blocks...)
	told(t, head, 300, 3)
	told(t, whole, 300, len(whole), l...)
	next, _ := plainBlocks(end, l[0])
	for _, none := range [][]byte{
		{0}, {1}, {4}, {5}, {255}, make([]byte, 8), make([]byte, 40), bytes.Repeat([]byte{255}, 90), bytes.Repeat([]byte{1}, 90),
		head, blocks, next[1:], next[:len(next)-1], append([]byte{0}, next...), plainFile(1, l...),
	} {
		told(t, slices.Concat(whole, none), 300, len(whole), l...)
		told(t, slices.Concat(whole, none, next), 300, len(whole), l...)
		unfinished(t, slices.Concat(whole, none))
	}
	told(t, append(whole, next...), 300, len(whole)+len(next), append(l, l[0])...)
}

// P8.2: a block is of from 1 to SegSize entries that may be, told as short bytes: others are none, though their points are right.
func TestScanBlocks(t *testing.T) {
	l := []api.Entry{{Term: 3, Kind: api.EnRevert}, {Term: 3, Kind: api.EnData, Value: 200}}
	ahead := plainFile(7, l...)
	_, z, _ := plainScan(ahead)
	none := func(text []byte) {
		t.Helper()
		b, end := ended(z, text)
		behind, _ := plainBlocks(end, l...)
		told(t, slices.Concat(ahead, b), 7, len(ahead), l...)
		told(t, slices.Concat(ahead, b, behind), 7, len(ahead), l...)
	}
	none([]byte{})
	none([]byte{0})
	for _, many := range []int{5, 6, 127, 128, 255} {
		none(plainText(some(chance(uint64(many)), many)...))
	}
	for _, bad := range wrong() {
		if bad.Term < 0 || bad.Kind < 0 || bad.Value < 0 {
			continue
		}
		none(plainText(bad))
		for at := range 4 {
			none(plainText(slices.Insert(some(chance(9), 3), at, bad)...))
		}
	}
	for _, text := range []string{ // numbers that are not as they would be put
		"\x01\x80\x01\x00\x00", "\x01\x01\x80\x00\x00", "\x01\x01\x00\x80\x00", "\x01\x01\x80\x01\x00", "\x01\x01\x01\x80\x05",
		"\x02\x01\x00\x00\x80\x01\x00\x00", "\x01\x81\x80\x80\x80\x80\x00\x00\x00", "\x01\x01\x01\x81\x80\x80\x80\x80\x00",
		"\x01\x84\x80\x80\x80\x01\x00\x00", "\x01\x01\x01\x84\x80\x80\x80\x01", "\x02\x01\x00\x00", "\x01\x01\x00", "\x01\x01", "\x01",
	} {
		none([]byte(text))
	}
	for _, x := range good() {
		b, _ := ended(z, plainText(x))
		told(t, slices.Concat(ahead, b), 7, len(ahead)+len(b), append(slices.Clone(l), x)...)
	}
}

// P8.2: each block stands behind the point of what is ahead: elsewhere, or behind another head, it is none.
func TestScanPlace(t *testing.T) {
	one, other := []api.Entry{{Term: 1, Kind: api.EnData, Value: 7}}, []api.Entry{{Term: 1, Kind: api.EnData, Value: 8}}
	head := plainHead(5)
	first, z := plainBlocks(onwards(0, head), one...)
	second, _ := plainBlocks(z, other...)
	told(t, slices.Concat(head, first, second), 5, 2+len(first)+len(second), append(one, other...)...)
	told(t, slices.Concat(head, first, first), 5, 2+len(first), one...)
	told(t, slices.Concat(head, second, first), 5, 2)
	told(t, slices.Concat(head, second), 5, 2)
	told(t, slices.Concat(plainHead(6), first, second), 6, 2)
	from0, _ := plainBlocks(0, one...) // not from the head's point on
	told(t, slices.Concat(head, from0), 5, 2)
	again, _ := plainBlocks(onwards(z, first[len(first)-4:]), other...) // not behind the four bytes
	told(t, slices.Concat(head, first, again), 5, 2+len(first), one...)
	turned := slices.Clone(first)
	slices.Reverse(turned[len(turned)-4:])
	told(t, slices.Concat(head, turned), 5, 2)
}

// P8.2: blocks may be cut otherwise than in a segment.
func TestScanCuts(t *testing.T) {
	roll := chance(86)
	for range 300 {
		b := plainHead(1 + roll(top))
		first, size := b, len(b)
		z := onwards(0, b)
		var l []api.Entry
		for range roll(7) {
			x := some(roll, 1+roll(4))
			next, end := plainBlocks(z, x...)
			b, z, l = append(b, next...), end, append(l, x...)
		}
		index, _, _ := plainTake(first[1:size])
		told(t, b, index, len(b), l...)
		if end, e := End(b); e != api.OK || end != z {
			t.Error(b, end, e)
		}
	}
}

// P8.2, P8.3: bytes that look like chance, and segments with some changes, against a scan by putting.
func TestAny(t *testing.T) {
	roll := chance(87)
	for range 20000 {
		b := plainFile(1+roll(top), some(roll, roll(10))...)
		for range roll(4) {
			at := roll(len(b) + 1)
			switch roll(4) {
			case 0:
				b = append(b[:at:at], b[min(at+1, len(b)):]...)
			case 1:
				b = b[:at]
			case 2:
				b = slices.Insert(b, at, byte(roll(256)))
			case 3:
				b = slices.Insert(b, at, plainText(some(roll, roll(5))...)...)
			}
		}
		if roll(3) == 0 { // and a block behind whatever this is
			_, z, _ := plainScan(b)
			next, _ := plainBlocks(z, some(roll, 1+roll(4))...)
			b = append(b, next...)
		}
		want, z, f := plainScan(b)
		if s, e := Scan(b); e != f || !alike(s, want) {
			t.Fatalf("%x: %v, %d, not %v, %d", b, s, e, want, f)
		}
		if want.Used != len(b) || f != api.OK {
			unfinished(t, b)
		} else if end, e := End(b); e != api.OK || end != z {
			t.Fatalf("%x: %v, %d, not %v", b, end, e, z)
		}
	}
}

// P8.3: the point behind the last block, or the head.
func TestEnd(t *testing.T) {
	// From 0 by 2 to 3, by 1 to 11 + 15 i.
	if z, e := End([]byte{2, 1}); e != api.OK || z != 11+15i {
		t.Error(z, e)
	}
	roll := chance(88)
	for _, first := range edges() {
		for many := range 10 {
			l := some(roll, many)
			_, want := plainBlocks(onwards(0, plainHead(first)), l...)
			b := plainFile(first, l...)
			if z, e := End(b); e != api.OK || z != want {
				t.Error(first, l, z, e)
			}
			unfinished(t, append(b, 0))
			unfinished(t, append(b, b...))
			if many > 0 {
				unfinished(t, b[:len(b)-1])
			}
		}
	}
}

// P8.3: more is the blocks that stand behind b, cut as in a segment, whatever its last block has; of none: nothing.
func TestMore(t *testing.T) {
	roll := chance(89)
	for range 400 {
		l, more := some(roll, roll(11)), some(roll, roll(11))
		b := plainFile(1+roll(top), l...)
		_, z, _ := plainScan(b)
		want, _ := plainBlocks(z, more...)
		if m, e := More(b, more...); e != api.OK || !bytes.Equal(m, want) {
			t.Error(b, more, m, e)
		}
		for _, none := range [][]api.Entry{nil, {}} {
			if m, e := More(b, none...); e != api.OK || len(m) != 0 {
				t.Error(b, m, e)
			}
		}
	}
}

// P8.4: what is put is scanned, all of it; what is put behind it, too.
func TestBack(t *testing.T) {
	roll := chance(90)
	for _, first := range edges() {
		for many := range 15 {
			l := some(roll, many)
			b, e := File(first, l...)
			if e != api.OK {
				t.Error(first, l, e)
			}
			for range 4 {
				told(t, b, first, len(b), l...)
				more := some(roll, roll(7))
				m, e := More(b, more...)
				if e != api.OK {
					t.Error(first, l, more, e)
				}
				b, l = append(b, m...), append(l, more...)
			}
			z, e := End(b)
			block, end, f := Block(z, good()[3:6]...)
			if e != api.OK || f != api.OK {
				t.Error(first, l, e, f)
			}
			told(t, append(b, block...), first, len(b)+len(block), append(l, good()[3:6]...)...)
			if z, e := End(append(b, block...)); e != api.OK || z != end {
				t.Error(first, l, z, e)
			}
		}
	}
	l := some(roll, 70000) // more than would go if all that stands behind were copied a block
	b, _ := File(1, l...)
	told(t, b, 1, len(b), l...)
	m, e := More(b, l...)
	if e != api.OK {
		t.Error(e)
	}
	told(t, append(b, m...), 1, len(b)+len(m), append(l, l...)...)
}

// ways are segments of a few entries, with where each of their blocks begins, and how many entries are ahead of it.
func ways() (files [][]byte, starts [][]int, logs [][]api.Entry) {
	for _, l := range [][]api.Entry{
		{{Term: 1}},
		{{Term: 1, Kind: api.EnPropose}, {Term: 128, Kind: api.EnData, Value: 300}, {Term: 128}, {Term: top, Kind: api.EnData, Value: top}, {Term: 9, Kind: api.EnData}},
		some(chance(91), 11),
	} {
		b := plainHead(260)
		z := onwards(0, b)
		var at []int
		for part := range slices.Chunk(l, 4) {
			at = append(at, len(b))
			next, end := plainBlocks(z, part...)
			b, z = append(b, next...), end
		}
		files, starts, logs = append(files, b), append(starts, append(at, len(b))), append(logs, l)
	}
	return files, starts, logs
}

// P8.4: of bytes cut off at the end the blocks are left that are whole.
func TestCut(t *testing.T) {
	files, starts, logs := ways()
	for i, b := range files {
		for cut := range len(b) + 1 {
			whole := len(starts[i]) - 1
			for whole >= 0 && starts[i][whole] > cut {
				whole--
			}
			if whole < 0 {
				headless(t, b[:cut])
				continue
			}
			told(t, b[:cut], 260, starts[i][whole], logs[i][:min(4*whole, len(logs[i]))]...)
		}
	}
}

// P8.4: a byte behind the head that is another one of the same highest bit, and no block's first one, ends the entries ahead of its block.
func TestOtherByte(t *testing.T) {
	files, starts, logs := ways()
	for i, b := range files {
		for block, start := range starts[i][:len(starts[i])-1] {
			for at := start + 1; at < starts[i][block+1]; at++ {
				for with := 1; with < 128; with++ {
					other := slices.Clone(b)
					other[at] ^= byte(with)
					told(t, other, 260, start, logs[i][:4*block]...)
				}
			}
		}
	}
}

// P8.2: a byte of whichever highest bit, wherever it is, against a scan by putting.
func TestEveryByte(t *testing.T) {
	files, _, _ := ways()
	for _, b := range files {
		for at := range b {
			for with := range 256 {
				other := slices.Clone(b)
				other[at] = byte(with)
				want, _, f := plainScan(other)
				if s, e := Scan(other); e != f || !alike(s, want) {
					t.Errorf("%x: %v, %d, not %v, %d", other, s, e, want, f)
				}
			}
		}
	}
}

// R4: what is handed in stays as it was, spare room too, and shares no memory with answers.
func TestMemory(t *testing.T) {
	l := []api.Entry{{Term: 1}, {Term: 2, Kind: api.EnFinal}, {Term: 3}, {Term: 4}, {Term: 5}, {Term: -1, Kind: 9, Value: 9}}
	was := slices.Clone(l)
	file := plainFile(4, was[:5]...)
	room := append(slices.Clone(file), "spare room"...)
	before := slices.Clone(room)
	answers := func() (all [][]byte) {
		head, _ := Head(4)
		block, _, _ := Block(0, l[:4]...)
		whole, _ := File(4, l[:5]...)
		more, _ := More(room[:len(file)], l[:5]...)
		return [][]byte{head, block, whole, more}
	}
	first, second, third := answers(), answers(), answers()
	for _, b := range first {
		for i := range b {
			b[i] = 99
		}
		_ = append(b, "over what stands behind"...)
	}
	for i := range second {
		if !bytes.Equal(second[i], third[i]) || bytes.Equal(second[i], first[i]) {
			t.Error("an answer changed another:", i, second[i])
		}
	}
	s, _ := Scan(room[:len(file)])
	kept, _ := Scan(room[:len(file)])
	clear(s.Log)
	_ = append(s.Log, api.Entry{Term: 98})
	if !alike(kept, api.Scan{First: 4, Log: was[:5], Used: len(file)}) {
		t.Error("an answer changed another:", kept)
	}
	if !bytes.Equal(room, before) || !slices.Equal(l, was) {
		t.Error("what was handed in is another:", room, l)
	}
}

// R4: iterators may be left early and gone over again.
func TestAgain(t *testing.T) {
	l := good()[:9]
	b, _ := plainBlocks(3+4i, l...)
	all, one, short := blocks(3+4i, b), entries([]int{1, 2, 0, 3, 1, 9}), texts(l[:2]...)
	for x := range all {
		if !slices.Equal(x.log, l[:4]) {
			t.Error(x)
		}
		break
	}
	for x := range one {
		if x != (api.Entry{Term: 1, Kind: api.EnPropose}) {
			t.Error(x)
		}
		break
	}
	for b, e := range short {
		if e != api.OK || !bytes.Equal(b, plainText(l[0])[1:]) {
			t.Error(b, e)
		}
		break
	}
	for range 2 {
		var log, pair []api.Entry
		var text []byte
		for x := range all {
			log = append(log, x.log...)
		}
		for x := range one {
			pair = append(pair, x)
		}
		for b := range short {
			text = append(text, b...)
		}
		if !slices.Equal(log, l) || len(pair) != 2 || !bytes.Equal(text, plainText(l[:2]...)[1:]) {
			t.Error(log, pair, text)
		}
	}
}
