package gauss

import (
	"bytes"
	"math"
	"math/cmplx"
	"slices"
	"testing"

	"moult/api"
)

// edges are parts of points at which a rest, or a byte, comes to it, and some others.
func edges() []int {
	return []int{0, 1, 2, 3, 5, 127, 128, 254, 255, 256, 257, 511, 512, 2001, 2002, 3335, 3336, 5003, 5004, 9983, 9984, 10004, 10005, 10006}
}

// points are those of the edges, both ways.
func points() []complex128 {
	var l []complex128
	for _, re := range edges() {
		for _, im := range edges() {
			l = append(l, at(re, im))
		}
	}
	return l
}

// at is the number with these parts.
func at(re, im int) complex128 {
	return complex(float64(re), float64(im))
}

// noParts are no parts of a point.
func noParts() []float64 {
	return []float64{
		-1, -2, -10006, -10007, -0.5, 0.5, 1.25, 10005.5, 10006.5, 10007, 10008, 20014, 65535, 65536,
		math.SmallestNonzeroFloat64, -math.SmallestNonzeroFloat64, math.Nextafter(1, 0), math.Nextafter(10006, 0),
		math.Nextafter(10006, 1e9), math.Nextafter(10007, 0),
		1 << 31, 1 << 32, 1<<32 + 5, 1 << 53, 1 << 63, 1 << 64, -(1 << 63), 1e300,
		math.MaxFloat64, -math.MaxFloat64, math.Inf(1), math.Inf(-1), math.NaN(),
	}
}

// noPoints are numbers that are no points, by either part or by both.
func noPoints() []complex128 {
	l := []complex128{cmplx.NaN(), cmplx.Inf()}
	for _, x := range noParts() {
		for _, n := range edges() {
			l = append(l, complex(x, float64(n)), complex(float64(n), x))
		}
		for _, y := range noParts() {
			l = append(l, complex(x, y))
		}
	}
	return l
}

// nextOf works a next one out by ints, another way than the program.
func nextOf(z complex128, b byte) complex128 {
	re, im := int(real(z)), int(imag(z))
	return at((3*re+(10007-5)*im+int(b)+1)%10007, (5*re+3*im)%10007)
}

// backOf undoes a next one: (3 + 5 i) (3 - 5 i) is 34, and 34 times 883 leaves 1 by 10007.
func backOf(z complex128, b byte) complex128 {
	re, im := int(real(z))+10007-int(b)-1, int(imag(z))
	return at((3*re+5*im)%10007*883%10007, (3*im+(10007-5)*re)%10007*883%10007)
}

// row is so many bytes, none of them told by its neighbours.
func row(many, seed int) []byte {
	b := make([]byte, many)
	for i := range b {
		seed = (seed*1103515245 + 12345) & (1<<31 - 1)
		b[i] = byte(seed >> 16)
	}
	return b
}

// P2.1: what is a point.
func TestRight(t *testing.T) {
	for _, z := range points() {
		if !Right(z) {
			t.Error(z, "is no point")
		}
	}
	for n := range 10007 {
		if !Right(at(n, 0)) || !Right(at(0, n)) || !Right(at(n, 10006-n)) {
			t.Error(n, "is no part of a point")
		}
	}
	for _, z := range noPoints() {
		if Right(z) {
			t.Error(z, "is a point")
		}
	}
}

// P2.1: the next one, by each byte.
func TestNext(t *testing.T) {
	for _, z := range points() {
		for b := range 256 {
			if n := Next(z, byte(b)); n != nextOf(z, byte(b)) || !Right(n) {
				t.Fatal(z, b, n, nextOf(z, byte(b)))
			}
		}
	}
	for _, c := range []struct {
		z    complex128
		b    byte
		next complex128
	}{
		{0, 0, 1},
		{0, 255, 256},
		{1, 0, 4 + 5i},
		{1i, 0, 10003 + 3i},      // -4 + 3 i
		{1i, 3, 10006 + 3i},      // -1 + 3 i
		{1i, 4, 0 + 3i},          // a part that comes to nought
		{2001, 0, 6004 + 10005i}, // the last one whose imaginary part stays
		{2002, 0, 6007 + 3i},     // 10010 goes over
		{10006, 2, 0 + 10002i},   // 10006 is as -1
		{10006i, 0, 6 + 10004i},
		{10006 + 10006i, 0, 3 + 9999i},
		{10006 + 10006i, 255, 258 + 9999i},
	} {
		if n := Next(c.z, c.b); n != c.next {
			t.Error(c.z, c.b, n)
		}
	}
}

// P2.1: of another number: 0, by whatever byte.
func TestNextWrong(t *testing.T) {
	for _, z := range noPoints() {
		for _, b := range []byte{0, 1, 127, 255} {
			if n := Next(z, b); n != 0 {
				t.Error(z, b, n)
			}
		}
	}
}

// P2.1, P2.3: a nought below 0 is a nought, and what comes of it is none below 0.
func TestNought(t *testing.T) {
	below := math.Copysign(0, -1)
	for _, z := range []complex128{complex(below, 0), complex(0, below), complex(below, below)} {
		if !Right(z) || Bytes(z) != [4]byte{} || Chain(z) != 0 {
			t.Error(z)
		}
		n, c := Next(z, 7), Chain(z, []byte{7})
		for _, x := range []float64{real(n), imag(n), real(c), imag(c)} {
			if n != 8 || c != 8 || math.Signbit(x) {
				t.Error(z, n, c)
			}
		}
	}
	for _, c := range []struct {
		z complex128
		b byte
	}{{0, 0}, {2002i, 2}, {6006i, 8}, {1 + 3334i, 0}, {10006, 2}} { // -10007, -30021, 10007, 30021 leave 0
		n := Next(c.z, c.b)
		if n != nextOf(c.z, c.b) || math.Signbit(real(n)) || math.Signbit(imag(n)) {
			t.Error(c.z, c.b, n)
		}
	}
}

// P2.2: the document's example, and others of few bytes.
func TestExamples(t *testing.T) {
	for _, parts := range [][][]byte{{{0, 0}}, {{0}, {0}}, {{}, {0}, nil, {0}, {}}} {
		if z := Chain(0, parts...); z != 4+5i {
			t.Error(parts, z)
		}
	}
	if z := Chain(0, []byte{0, 0, 0}); z != 9995+35i { // 12 - 25 + 1, 20 + 15
		t.Error(z)
	}
	if z := Chain(0, []byte("ab"), []byte("c")); z != nextOf(nextOf(nextOf(0, 'a'), 'b'), 'c') {
		t.Error(z)
	}
}

// P2.2: behind all bytes of all parts, in order; without one, where it began.
func TestChain(t *testing.T) {
	for _, z := range points() {
		if Chain(z) != z || Chain(z, nil) != z || Chain(z, [][]byte{}...) != z || Chain(z, nil, []byte{}, nil) != z {
			t.Error(z, Chain(z))
		}
		b := row(20, int(real(z)))
		want := z
		for i, x := range b {
			want = nextOf(want, x)
			if c := Chain(z, b[:i+1]); c != want {
				t.Error(z, i, c, want)
			}
		}
	}
	long := row(100000, 1)
	want := 1 + 2i
	for _, x := range long {
		want = nextOf(want, x)
	}
	if c := Chain(1+2i, long[:3], long[3:3], long[3:70000], long[70000:]); c != want {
		t.Error(c, want)
	}
	if Chain(0, []byte{1, 2}) == Chain(0, []byte{2, 1}) || Chain(0, []byte{1}, []byte{2}) == Chain(0, []byte{2}, []byte{1}) {
		t.Error("the order tells nothing")
	}
}

// P2.2: of another number: from 0 on.
func TestChainWrong(t *testing.T) {
	b := row(9, 5)
	for _, z := range noPoints() {
		if c := Chain(z); c != 0 {
			t.Error(z, c)
		}
		if c := Chain(z, b[:4], nil, b[4:]); c != Chain(0, b) {
			t.Error(z, c)
		}
	}
}

// P2.3: four bytes, of each part its two ones.
func TestBytes(t *testing.T) {
	for _, c := range []struct {
		z complex128
		b [4]byte
	}{
		{0, [4]byte{}},
		{1, [4]byte{0, 1, 0, 0}},
		{1i, [4]byte{0, 0, 0, 1}},
		{4 + 5i, [4]byte{0, 4, 0, 5}},
		{255 + 256i, [4]byte{0, 255, 1, 0}},
		{10006 + 257i, [4]byte{39, 22, 1, 1}},
		{9983 + 10006i, [4]byte{38, 255, 39, 22}},
	} {
		z, e := Of(c.b)
		if b := Bytes(c.z); b != c.b || z != c.z || e != api.OK {
			t.Error(c.z, b, z, e)
		}
	}
	for _, z := range noPoints() {
		if b := Bytes(z); b != [4]byte{} {
			t.Error(z, b)
		}
	}
}

// P2.3: every two bytes as either part: a point, or none.
func TestOf(t *testing.T) {
	for n := range 65536 {
		high, low := byte(n>>8), byte(n)
		for _, m := range []int{0, 1, 256, 10006, 10007, 65535} {
			above, below := byte(m>>8), byte(m)
			one, e := Of([4]byte{high, low, above, below})
			two, f := Of([4]byte{above, below, high, low})
			if n < 10007 && m < 10007 {
				if e != api.OK || f != api.OK || one != at(n, m) || two != at(m, n) {
					t.Error(n, m, one, e, two, f)
				}
			} else if e != api.ErrForm || f != api.ErrForm || one != 0 || two != 0 {
				t.Error(n, m, one, e, two, f)
			}
		}
	}
}

// P2.3, P2.4: points are told by their bytes: there and back, no two alike.
func TestTold(t *testing.T) {
	seen := map[[4]byte]complex128{}
	for _, z := range points() {
		b := Bytes(z)
		if other, there := seen[b]; there {
			t.Error(z, other, b)
		}
		seen[b] = z
		if back, e := Of(b); back != z || e != api.OK {
			t.Error(z, b, back, e)
		}
	}
	for n := range 10007 {
		z := at(n, 10006-n)
		if back, e := Of(Bytes(z)); back != z || e != api.OK {
			t.Error(z, back, e)
		}
	}
}

// P2.4: a chain of parts is one of chains, wherever it is cut.
func TestCuts(t *testing.T) {
	b := row(24, 3)
	for _, z := range append(points()[:40], 10006+10006i, -1, cmplx.NaN()) {
		whole := Chain(z, b)
		for i := range len(b) + 1 {
			for j := i; j <= len(b); j++ {
				one := Chain(z, b[:i], b[i:j], b[j:])
				two := Chain(Chain(Chain(z, b[:i]), b[i:j]), b[j:])
				if one != whole || two != whole {
					t.Fatal(z, i, j, one, two, whole)
				}
			}
		}
	}
}

// P2.4: unlike bytes lead to unlike points, and so do unlike points: each step can be undone.
func TestUnlike(t *testing.T) {
	for _, z := range points() {
		seen := map[complex128]int{}
		for b := range 256 {
			n := Next(z, byte(b))
			if other, there := seen[n]; there {
				t.Error(z, b, other, n)
			}
			seen[n] = b
			if back := backOf(n, byte(b)); back != z {
				t.Fatal(z, b, n, back)
			}
		}
	}
	for _, b := range []byte{0, 1, 200, 255} {
		seen := map[complex128]complex128{}
		for _, z := range points() {
			n := Next(z, b)
			if other, there := seen[n]; there {
				t.Error(z, other, b, n)
			}
			seen[n] = z
		}
	}
}

// R4: what is handed in stays as it was, spare room too.
func TestMemory(t *testing.T) {
	room := row(40, 9)
	was := slices.Clone(room)
	parts := [][]byte{room[:10], room[10:15], nil, room[5:20]}
	first := Chain(7, parts[:3]...)
	if again := Chain(7, parts[:3]...); again != first || first != Chain(7, was[:15]) {
		t.Error(first, again)
	}
	if !bytes.Equal(room, was) || len(parts) != 4 || &parts[3][0] != &room[5] || len(parts[3]) != 15 {
		t.Error("what was handed in is another:", room)
	}
}
