package num

import (
	"bytes"
	"math"
	"slices"
	"testing"

	"moult/api"
)

// edges are the numbers at which a digit comes to it, and those beside them.
func edges() []int {
	l := []int{0, 1, 2, 5, 300, 1000, 123456789}
	for _, width := range []int{7, 8} {
		for at := width; at <= 30; at += width {
			l = append(l, 1<<at-1, 1<<at, 1<<at+1, 3<<(at-2))
		}
	}
	return append(l, api.MaxNumber-1, api.MaxNumber)
}

// noNumbers may not be put.
func noNumbers() []int {
	return []int{-1, -128, api.MaxNumber + 1, math.MaxInt32, math.MinInt32, math.MaxInt, math.MinInt}
}

// shortOf works short bytes out from the last digit on, another way than the program.
func shortOf(n int) []byte {
	b := []byte{byte(n % 128)}
	for n /= 128; n > 0; n /= 128 {
		b = append([]byte{byte(n%128 + 128)}, b...)
	}
	return b
}

// longOf does likewise with long bytes.
func longOf(n int) []byte {
	return []byte{0, byte(n / 16777216), byte(n / 65536 % 256), byte(n / 256 % 256), byte(n % 256)}
}

// P1.1: what is a number.
func TestIs(t *testing.T) {
	if !Is() || !Is(nil...) || !Is([]int{}...) {
		t.Error("of none at all one is no number")
	}
	if !Is(edges()...) {
		t.Error("numbers are none")
	}
	for _, n := range noNumbers() {
		if Is(n) || Is(n, 1, 2) || Is(1, n, 2) || Is(1, 2, n) {
			t.Error(n, "is a number")
		}
	}
}

// P1.1: the bytes of each, in order.
func TestPut(t *testing.T) {
	var short, long []byte
	for _, n := range edges() {
		short, long = append(short, shortOf(n)...), append(long, longOf(n)...)
		if b, e := Short(n); e != api.OK || !bytes.Equal(b, shortOf(n)) {
			t.Error(n, b, e)
		}
		if b, e := Long(n); e != api.OK || !bytes.Equal(b, longOf(n)) {
			t.Error(n, b, e)
		}
	}
	if b, e := Short(edges()...); e != api.OK || !bytes.Equal(b, short) {
		t.Error(b, e)
	}
	if b, e := Long(edges()...); e != api.OK || !bytes.Equal(b, long) {
		t.Error(b, e)
	}
	if b, e := Short(); e != api.OK || len(b) != 0 {
		t.Error(b, e)
	}
	if b, e := Long(); e != api.OK || len(b) != 0 {
		t.Error(b, e)
	}
}

// P1.1: the document's examples.
func TestExamples(t *testing.T) {
	if b, e := Short(300); e != api.OK || !bytes.Equal(b, []byte{130, 44}) {
		t.Error(b, e)
	}
	if b, e := Long(300); e != api.OK || !bytes.Equal(b, []byte{0, 0, 0, 1, 44}) {
		t.Error(b, e)
	}
	if b, e := Short(api.MaxNumber); e != api.OK || !bytes.Equal(b, []byte{132, 128, 128, 128, 0}) {
		t.Error(b, e)
	}
	if b, e := Long(api.MaxNumber); e != api.OK || !bytes.Equal(b, []byte{0, 64, 0, 0, 0}) {
		t.Error(b, e)
	}
}

// P1.1: one that is none, wherever it stands, and nothing is told.
func TestPutWrong(t *testing.T) {
	for _, n := range noNumbers() {
		for _, l := range [][]int{{n}, {n, 3}, {3, n}, {3, n, 4}} {
			if b, e := Short(l...); e != api.ErrArg || len(b) != 0 {
				t.Error(l, b, e)
			}
			if b, e := Long(l...); e != api.ErrArg || len(b) != 0 {
				t.Error(l, b, e)
			}
		}
	}
}

// P1.2: numbers, and what stands behind.
func TestTake(t *testing.T) {
	for _, n := range edges() {
		for _, tail := range []string{"", "x", "\x00", "\x80", "\xff\xff", "xy and more"} {
			b := append(shortOf(n), tail...)
			if m, rest, e := Take(b); e != api.OK || m != n || string(rest) != tail {
				t.Error(n, tail, m, rest, e)
			}
		}
	}
}

// P1.2: what is none, and which error goes ahead.
func TestTakeWrong(t *testing.T) {
	for _, c := range []struct {
		b string
		e api.Errno
	}{
		{"", api.ErrShort},
		{"\x81", api.ErrShort},
		{"\xff", api.ErrShort},
		{"\x81\x80", api.ErrShort},
		{"\x81\x81\x81", api.ErrShort},
		{"\xff\xff\xff\xff", api.ErrShort},
		{"\x80", api.ErrForm},
		{"\x80\x80", api.ErrForm},
		{"\x80\x00", api.ErrForm},
		{"\x80\x81\x81\x81", api.ErrForm},
		{"\x80\x81\x81\x81\x01", api.ErrForm},
		{"\x81\x81\x81\x81\x81", api.ErrForm},
		{"\x81\x81\x81\x81\x81\x01", api.ErrForm},
		{"\x81\x80\x80\x80\x80\x00", api.ErrForm},
		{"\x84\x80\x80\x80\x01", api.ErrForm},
		{"\x84\x80\x80\x81\x00", api.ErrForm},
		{"\x85\x80\x80\x80\x00", api.ErrForm},
		{"\x90\x80\x80\x80\x01", api.ErrForm},
		{"\xff\xff\xff\xff\x7f", api.ErrForm},
	} {
		if n, rest, e := Take([]byte(c.b)); e != c.e || n != 0 || len(rest) != 0 {
			t.Errorf("%x: %d %x %d", c.b, n, rest, e)
		}
	}
	if n, rest, e := Take(nil); e != api.ErrShort || n != 0 || len(rest) != 0 {
		t.Error(n, rest, e)
	}
}

// takeOf answers by the words alone: digits up to the first byte below 128, at most five.
func takeOf(b []byte) (n, used int, e api.Errno) {
	end := slices.IndexFunc(b[:min(5, len(b))], func(x byte) bool { return x < 128 })
	switch {
	case len(b) > 0 && b[0] == 128:
		return 0, 0, api.ErrForm
	case end < 0 && len(b) < 5:
		return 0, 0, api.ErrShort
	case end < 0:
		return 0, 0, api.ErrForm
	}
	for _, x := range b[:end+1] {
		n = n*128 + int(x%128)
	}
	if n > api.MaxNumber {
		return 0, 0, api.ErrForm
	}
	return n, end + 1, api.OK
}

// P1.2, P1.5: all rows of up to six bytes of those at the edges; what is taken is put as it was there.
func TestTakeAll(t *testing.T) {
	letters := []byte{0, 1, 127, 128, 129, 132, 255}
	rows := [][]byte{{}}
	for len(rows) > 0 {
		b := rows[0]
		rows = rows[1:]
		if len(b) < 6 {
			for _, x := range letters {
				rows = append(rows, append(slices.Clone(b), x))
			}
		}
		n, used, f := takeOf(b)
		m, rest, e := Take(b)
		if e != f || m != n || e == api.OK && !bytes.Equal(rest, b[used:]) || e != api.OK && len(rest) != 0 {
			t.Fatalf("%x: %d %x %d", b, m, rest, e)
		}
		if e != api.OK {
			continue
		}
		if again, e := Short(m); e != api.OK || !bytes.Equal(again, b[:used]) {
			t.Fatalf("%x: put as %x", b, again)
		}
	}
}

// P1.3: long bytes.
func TestTakeLong(t *testing.T) {
	for _, n := range edges() {
		for _, tail := range []string{"", "x", "\x00", "\xff\xff", "xy and more"} {
			b := append(longOf(n), tail...)
			if m, rest, e := TakeLong(b); e != api.OK || m != n || string(rest) != tail {
				t.Error(n, tail, m, rest, e)
			}
		}
		for k := range 5 {
			if m, rest, e := TakeLong(longOf(n)[:k]); e != api.ErrShort || m != 0 || len(rest) != 0 {
				t.Error(n, k, m, rest, e)
			}
		}
	}
	for _, c := range []struct {
		b string
		e api.Errno
	}{
		{"\xff\xff\xff\xff", api.ErrShort}, // too few, though above MaxNumber
		{"\x00\x40\x00\x00\x01", api.ErrForm},
		{"\x00\x40\x00\x01\x00xyz", api.ErrForm},
		{"\x00\x80\x00\x00\x00", api.ErrForm},
		{"\x00\xff\xff\xff\xff", api.ErrForm},
		{"\x01\x00\x00\x00\x00", api.ErrForm},
		{"\x80\x00\x00\x00\x00", api.ErrForm},
		{"\xff\xff\xff\xff\xff", api.ErrForm},
	} {
		if n, rest, e := TakeLong([]byte(c.b)); e != c.e || n != 0 || len(rest) != 0 {
			t.Errorf("%x: %d %x %d", c.b, n, rest, e)
		}
	}
	if n, rest, e := TakeLong(nil); e != api.ErrShort || n != 0 || len(rest) != 0 {
		t.Error(n, rest, e)
	}
}

// P1.4: so many, and what stands behind the last one.
func TestTakes(t *testing.T) {
	all := edges()
	var b []byte
	for _, n := range all {
		b = append(b, shortOf(n)...)
	}
	at := 0
	for many := range len(all) + 1 {
		l, rest, e := Takes(b, many)
		if e != api.OK || !slices.Equal(l, all[:many]) || !bytes.Equal(rest, b[at:]) {
			t.Error(many, l, rest, e)
		}
		if many < len(all) {
			at += len(shortOf(all[many]))
		}
	}
	for _, many := range []int{0, -1, -3, math.MinInt} {
		for _, row := range []string{"", "ab", "\x80", "\x81"} {
			if l, rest, e := Takes([]byte(row), many); e != api.OK || len(l) != 0 || string(rest) != row {
				t.Error(many, row, l, rest, e)
			}
		}
	}
}

// P1.4: the first error, wherever it comes, and nothing beside it.
func TestTakesWrong(t *testing.T) {
	for _, c := range []struct {
		b    string
		many int
		e    api.Errno
	}{
		{"", 1, api.ErrShort},
		{"\x01\x02", 3, api.ErrShort},
		{"\x01\x02\x81", 3, api.ErrShort},
		{"\x01\x02", math.MaxInt, api.ErrShort},
		{"\x80", 1, api.ErrForm},
		{"\x01\x80\x01", 2, api.ErrForm},
		{"\x01\x80", 4, api.ErrForm},
		{"\x01\x84\x80\x80\x80\x01", 2, api.ErrForm},
		{"\x01\x81\x81\x81\x81\x81\x02", 3, api.ErrForm},
		{"\x01\x80\x81", math.MaxInt, api.ErrForm},
	} {
		if l, rest, e := Takes([]byte(c.b), c.many); e != c.e || len(l) != 0 || len(rest) != 0 {
			t.Errorf("%x, %d: %d %x %d", c.b, c.many, l, rest, e)
		}
	}
	if l, rest, e := Takes([]byte("\x01\x80"), 1); e != api.OK || !slices.Equal(l, []int{1}) || string(rest) != "\x80" {
		t.Error("what is not asked for counts:", l, rest, e)
	}
	if l, rest, e := Takes(nil, 1); e != api.ErrShort || len(l) != 0 || len(rest) != 0 {
		t.Error(l, rest, e)
	}
}

// P1.5: what was put is taken, whatever stands behind.
func TestBack(t *testing.T) {
	all := edges()
	for many := range len(all) + 1 {
		for _, tail := range []string{"", "z", "\x80", "\x81", "\xff\xff\xff\xff\xff\xff"} {
			short, _ := Short(all[:many]...)
			l, rest, e := Takes(append(short, tail...), many)
			if e != api.OK || !slices.Equal(l, all[:many]) || string(rest) != tail {
				t.Error(many, tail, l, rest, e)
			}
			long, _ := Long(all[:many]...)
			rest, e = append(long, tail...), api.OK
			for _, n := range all[:many] {
				var m int
				if m, rest, e = TakeLong(rest); m != n || e != api.OK {
					t.Error(many, tail, n, m, e)
				}
			}
			if string(rest) != tail {
				t.Error(many, tail, rest)
			}
		}
	}
}

// P1.5: long bytes that are taken are put as they were; they stand in order as their numbers do.
func TestLongOrder(t *testing.T) {
	all := edges()
	slices.Sort(all)
	all = slices.Compact(all)
	for i, n := range all {
		b, _ := Long(n)
		m, _, e := TakeLong(b)
		if again, f := Long(m); e != api.OK || f != api.OK || !bytes.Equal(again, b) {
			t.Error(n, m, again)
		}
		for j, m := range all {
			other, _ := Long(m)
			if (bytes.Compare(b, other) < 0) != (i < j) || (bytes.Compare(b, other) > 0) != (i > j) {
				t.Error(n, m, b, other)
			}
		}
	}
}

// R4: what is handed in stays as it was, spare room too, and shares no memory with answers.
func TestMemory(t *testing.T) {
	room := []byte("\x00\x00\x00\x01\x2c\x02\x03\x04 and spare room")
	was := slices.Clone(room)
	b := room[:8]
	numbers, again, _ := Takes(b, 2)
	others, kept, _ := Takes(b, 2)
	_, behind, _ := Take(b)
	_, behindLong, _ := TakeLong(b)
	for _, rest := range [][]byte{again, behind, behindLong} {
		for i := range rest {
			rest[i] = 99
		}
		_ = append(rest, "over what stands behind"...)
	}
	numbers[0], numbers[1] = 99, 99
	if !bytes.Equal(room, was) {
		t.Error("what was handed in is another:", room)
	}
	if !bytes.Equal(kept, was[2:8]) || !slices.Equal(others, []int{0, 0}) {
		t.Error("an answer changed another:", kept, others)
	}
	l := []int{1, 300, 2, 77}
	short, e := Short(l[:3]...)
	long, f := Long(l[:3]...)
	if e != api.OK || f != api.OK || len(short) != 4 || len(long) != 15 || !slices.Equal(l, []int{1, 300, 2, 77}) {
		t.Error(short, e, long, f, l)
	}
}
