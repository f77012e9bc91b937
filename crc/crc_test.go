package crc

import (
	"bytes"
	"hash/crc32"
	"slices"
	"testing"
)

// sums are some at which a bit, or a byte, comes to it, and some others.
func sums() []uint32 {
	l := []uint32{0, 0xffffffff, 0x82f63b78, 0x7d09c487, 0x12345678, 0x80000001, 0x55555555, 0xaaaaaaaa, 0xe3069283}
	for at := range 32 {
		l = append(l, 1<<at, 1<<at-1, ^uint32(1<<at))
	}
	for _, b := range row(40, 17) {
		l = append(l, l[len(l)-1]*2654435761+uint32(b))
	}
	return l
}

// row is so many bytes, none of them told by its neighbours.
func row(many, seed int) []byte {
	b := make([]byte, many)
	for i := range b {
		seed = (seed*1103515245 + 12345) & (1<<31 - 1)
		b[i] = byte(seed >> 16)
	}
	return b
}

// stepOf works a step out by its four shifts, another way than the program.
func stepOf(sum uint32, half byte) uint32 {
	sum ^= uint32(half % 16)
	for range 4 {
		if sum%2 == 1 {
			sum = sum/2 ^ 0x82f63b78
		} else {
			sum /= 2
		}
	}
	return sum
}

// nextOf works a sum out by the library, bytes at once.
func nextOf(sum uint32, b []byte) uint32 {
	return crc32.Update(sum, crc32.MakeTable(crc32.Castagnoli), b)
}

// P3.1: a step, of each half.
func TestStep(t *testing.T) {
	for _, sum := range sums() {
		for half := range byte(16) {
			if s := Step(sum, half); s != stepOf(sum, half) {
				t.Errorf("%x, %d: %x", sum, half, s)
			}
		}
	}
	for _, c := range []struct {
		sum  uint32
		half byte
		want uint32
	}{
		{0, 0, 0},
		{0, 8, 0x82f63b78},           // the last shift's bit is 1
		{0, 1, 0x105ec76f},           // the first one's
		{1, 1, 0},                    // both come to nought
		{0x10, 0, 1},                 // a bit above is shifted alone
		{0xfffffff0, 15, 0xfc91908a}, // all of them at once
		{0x80000000, 0, 0x08000000},
	} {
		if s := Step(c.sum, c.half); s != c.want {
			t.Errorf("%x, %d: %x", c.sum, c.half, s)
		}
	}
}

// P3.1: of half's four lower bits: those above tell nothing.
func TestStepLower(t *testing.T) {
	for _, sum := range sums() {
		for b := range 256 {
			if s := Step(sum, byte(b)); s != Step(sum, byte(b%16)) {
				t.Errorf("%x, %d: %x", sum, b, s)
			}
		}
	}
}

// P3.1: the document's examples, and others of few bytes.
func TestExamples(t *testing.T) {
	for _, c := range []struct {
		b    []byte
		want uint32
	}{
		{[]byte("123456789"), 0xe3069283},
		{make([]byte, 32), 0x8a9136aa},
		{bytes.Repeat([]byte{255}, 32), 0x62a8ab43},
		{nil, 0},
		{[]byte{}, 0},
		{[]byte{0}, 0x527d5351},
		{[]byte("a"), 0xc1d04330},
		{[]byte{255, 255, 255, 255}, 0xffffffff},
	} {
		if s := Sum(c.b); s != c.want || Next(0, c.b) != c.want {
			t.Errorf("%x: %x", c.b, s)
		}
	}
	if Sum() != 0 || Sum(nil...) != 0 || Sum(nil, []byte{}, nil) != 0 {
		t.Error("the sum of nothing is not that of no bytes")
	}
}

// P3.1: the sum of bytes: of each the step of its lower half, then of its higher one, in order.
func TestSum(t *testing.T) {
	for b := range 256 {
		want := ^stepOf(stepOf(0xffffffff, byte(b%16)), byte(b/16))
		if s := Sum([]byte{byte(b)}); s != want {
			t.Errorf("%d: %x", b, s)
		}
	}
	for many := range 300 {
		b := row(many, many)
		sum := uint32(0xffffffff)
		for _, x := range b {
			sum = stepOf(stepOf(sum, x%16), x/16)
		}
		if s := Sum(b); s != ^sum || s != nextOf(0, b) {
			t.Errorf("%d: %x, %x, %x", many, s, ^sum, nextOf(0, b))
		}
	}
	if Sum([]byte{1, 2}) == Sum([]byte{2, 1}) || Sum([]byte{1}, []byte{2}) == Sum([]byte{2}, []byte{1}) || Sum([]byte{0x12}) == Sum([]byte{0x21}) {
		t.Error("the order tells nothing")
	}
	long := row(1<<20+3, 1)
	if s := Sum(long[:5], nil, long[5:700000], long[700000:]); s != nextOf(0, long) {
		t.Errorf("%x", s)
	}
}

// P3.1: gone on from whatever sum; without a byte it stays.
func TestNext(t *testing.T) {
	for _, sum := range sums() {
		if Next(sum, nil) != sum || Next(sum, []byte{}) != sum {
			t.Errorf("%x: %x", sum, Next(sum, nil))
		}
		for _, b := range [][]byte{{0}, {255}, []byte("ab"), row(33, 4)} {
			want := ^sum
			for _, x := range b {
				want = stepOf(stepOf(want, x%16), x/16)
			}
			if s := Next(sum, b); s != ^want || s != nextOf(sum, b) {
				t.Errorf("%x, %x: %x, %x", sum, b, s, ^want)
			}
		}
	}
}

// P3.1: a sum's bytes, the lowest first.
func TestFour(t *testing.T) {
	for _, c := range []struct {
		sum  uint32
		four [4]byte
	}{
		{0, [4]byte{}},
		{1, [4]byte{1, 0, 0, 0}},
		{0x01020304, [4]byte{4, 3, 2, 1}},
		{0xe3069283, [4]byte{0x83, 0x92, 0x06, 0xe3}},
		{0xffffffff, [4]byte{255, 255, 255, 255}},
		{0x80000000, [4]byte{0, 0, 0, 0x80}},
	} {
		if four := Four(c.sum); four != c.four {
			t.Errorf("%x: %x", c.sum, four)
		}
	}
	for _, sum := range sums() {
		back := uint32(0)
		for i, b := range Four(sum) {
			back += uint32(b) << (8 * i)
		}
		if back != sum {
			t.Errorf("%x: %x", sum, Four(sum))
		}
	}
}

// P3.2: b, and the four bytes of its sum; they are taken again.
func TestPut(t *testing.T) {
	if p := Put([]byte("123456789")); string(p) != "123456789\x83\x92\x06\xe3" {
		t.Errorf("%x", p)
	}
	if string(Put(nil)) != "\x00\x00\x00\x00" || string(Put([]byte{})) != "\x00\x00\x00\x00" {
		t.Errorf("%x", Put(nil))
	}
	for many := range 100 {
		b := row(many, many+7)
		four := Four(nextOf(0, b))
		p := Put(b)
		if !bytes.Equal(p, append(slices.Clone(b), four[:]...)) {
			t.Errorf("%x: %x", b, p)
		}
		if back, ok := Take(p); !ok || !bytes.Equal(back, b) {
			t.Errorf("%x: %x, %t", p, back, ok)
		}
		if back, ok := Take(Put(p)); !ok || !bytes.Equal(back, p) {
			t.Errorf("%x: %x, %t", p, back, ok)
		}
	}
	if back, ok := Take(make([]byte, 4)); !ok || len(back) != 0 {
		t.Error("the sum of no bytes is not taken:", back, ok)
	}
}

// noTake fails if something is taken.
func noTake(t *testing.T, b []byte) {
	t.Helper()
	if back, ok := Take(b); ok || back != nil {
		t.Errorf("%x: %x, %t", b, back, ok)
	}
}

// P3.2: nothing, no: too few bytes, or others than those of the sum.
func TestTakeWrong(t *testing.T) {
	for many := range 4 {
		noTake(t, make([]byte, many))
		noTake(t, bytes.Repeat([]byte{255}, many))
		noTake(t, Put([]byte("ab"))[:many])
	}
	noTake(t, nil)
	noTake(t, []byte{0, 0, 0, 1})
	noTake(t, []byte{1, 0, 0, 0})
	noTake(t, make([]byte, 5))
	noTake(t, []byte("123456789\xe3\x06\x92\x83")) // the highest first
	noTake(t, []byte("123456789\x7c\x6d\xf9\x1c")) // not turned about
	for _, many := range []int{0, 1, 3, 4, 5, 11, 40} {
		p := Put(row(many, 2))
		for cut := range p {
			noTake(t, p[:cut])
		}
		for at := range p {
			for with := 1; with < 256; with++ {
				bad := slices.Clone(p)
				bad[at] ^= byte(with)
				noTake(t, bad)
			}
		}
		noTake(t, append(slices.Clone(p), 1))
	}
}

// P3.3: the sum of parts is the sum of all, wherever it is cut.
func TestCuts(t *testing.T) {
	b := row(24, 3)
	whole := Sum(b)
	for i := range len(b) + 1 {
		for j := i; j <= len(b); j++ {
			one := Sum(b[:i], b[i:j], b[j:])
			two := Next(Next(Next(0, b[:i]), b[i:j]), b[j:])
			three := Next(Sum(b[:i], b[i:j]), b[j:])
			if one != whole || two != whole || three != whole {
				t.Fatalf("%d, %d: %x, %x, %x, not %x", i, j, one, two, three, whole)
			}
		}
	}
	for _, sum := range sums() {
		if Next(Next(sum, b[:9]), b[9:]) != Next(sum, b) {
			t.Errorf("%x: %x", sum, Next(sum, b))
		}
	}
	for _, x := range b {
		if Sum(b, []byte{x}) != Next(whole, []byte{x}) {
			t.Error(x)
		}
	}
}

// unlike goes over differences of four bytes: each bit, some of all kinds, each pair of a bit and another.
func unlike() []uint32 {
	l := slices.DeleteFunc(sums(), func(x uint32) bool { return x == 0 })
	for i := range 32 {
		for j := range i {
			l = append(l, 1<<i|1<<j)
		}
	}
	return l
}

// P3.3: rows that differ within four bytes side by side alone have unlike sums; with such a difference no sum is taken.
func TestUnlike(t *testing.T) {
	for _, many := range []int{0, 1, 2, 4, 11, 30} {
		b := row(many, many)
		p := Put(b)
		for at := range len(p) - 3 {
			for _, with := range unlike() {
				bad := slices.Clone(p)
				for i := range 4 {
					bad[at+i] ^= byte(with >> (8 * i))
				}
				noTake(t, bad)
				if at+4 <= many && Sum(bad[:many]) == Sum(b) {
					t.Errorf("%x, %x", b, bad[:many])
				}
			}
		}
	}
}

// P3.3: the sum of three rows put together is their sums put together.
func TestTogether(t *testing.T) {
	for many := range 70 {
		a, b, c := row(many, 1), row(many, 2), row(many, 3)
		all := make([]byte, many)
		for i := range all {
			all[i] = a[i] ^ b[i] ^ c[i]
		}
		if Sum(all) != Sum(a)^Sum(b)^Sum(c) {
			t.Errorf("%d: %x", many, Sum(all))
		}
		for _, sum := range []uint32{1, 0xffffffff, 0x12345678} {
			if Next(sum, all) != Next(sum, a)^Next(sum, b)^Next(sum, c) {
				t.Errorf("%d, %x: %x", many, sum, Next(sum, all))
			}
		}
	}
}

// backOf undoes a step: of what is put to a sum the highest bit tells whether it was.
func backOf(sum uint32, half byte) uint32 {
	for range 4 {
		if sum>>31 == 1 {
			sum = (sum^0x82f63b78)*2 + 1
		} else {
			sum *= 2
		}
	}
	return sum ^ uint32(half)
}

// P3.3: from one sum no two halves lead to one sum, nor two sums by one half: each step can be undone.
func TestUndone(t *testing.T) {
	for _, sum := range sums() {
		seen := map[uint32]byte{}
		for half := range byte(16) {
			s := Step(sum, half)
			if other, there := seen[s]; there {
				t.Errorf("%x: %d, %d", sum, half, other)
			}
			seen[s] = half
			if back := backOf(s, half); back != sum {
				t.Errorf("%x, %d: %x", sum, half, back)
			}
		}
	}
}

// R4: what is handed in stays as it was, spare room too, and shares no memory with answers.
func TestMemory(t *testing.T) {
	room := append(Put([]byte("abc")), "spare room"...)
	was := slices.Clone(room)
	put, again := Put(room[:3]), Put(room[:3])
	taken, ok := Take(room[:7])
	kept, fine := Take(room[:7])
	if !ok || !fine || string(put) != string(was[:7]) || string(taken) != "abc" {
		t.Error(put, taken, ok, fine)
	}
	parts := [][]byte{room[:3], nil, room[3:7]}
	if Sum(parts[:2]...) != Next(0, room[:3]) || len(parts) != 3 || &parts[2][0] != &room[3] || len(parts[2]) != 4 {
		t.Error("what was handed in is another:", parts)
	}
	for _, l := range [][]byte{put, taken} {
		for i := range l {
			l[i] = 99
		}
		_ = append(l, "over what stands behind"...)
	}
	if !bytes.Equal(room, was) {
		t.Error("what was handed in is another:", room)
	}
	if string(again) != string(was[:7]) || string(kept) != "abc" {
		t.Error("an answer changed another:", again, kept)
	}
}
