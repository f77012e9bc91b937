package names

import (
	"math"
	"regexp"
	"slices"
	"strconv"
	"strings"
	"testing"

	"moult/api"
)

// ident makes one.
func ident(kind uint8, seq, format int) api.Ident {
	return api.Ident{Kind: kind, Seq: seq, Fmt: format}
}

// filesOf makes files of names, the bytes of each told by its place.
func filesOf(names ...string) []api.File {
	var l []api.File
	for i, name := range names {
		l = append(l, api.File{Name: name, Bytes: []byte{byte(i)}})
	}
	return l
}

// numbers are those at which names, or idents, come to an edge.
func numbers() []int {
	return []int{
		0, 1, 2, 3, 7, 9, 10, 11, 19, 99, 100, 101, 255, 256, 257, 258, 1000, 123456789, 999999999, 1000000000,
		api.MaxNumber - 1, api.MaxNumber, api.MaxNumber + 1, 1<<31 - 1, 1 << 31, 1 << 32, 1<<32 + 1, 1<<32 + 7,
		math.MaxInt, math.MaxInt - 1, math.MinInt, math.MinInt + 1, -1 << 32, -256, -255, -2, -1,
	}
}

// grid is idents of all kinds that there are, and of some others, with all these numbers.
func grid() []api.Ident {
	var l []api.Ident
	for _, kind := range []uint8{0, api.FkManifest, api.FkNew, api.FkSegment, api.FkSnap, 5, 6, 'p', 's', 128, 254, 255} {
		for _, seq := range numbers() {
			for _, format := range []int{0, 1, 2, 3, -1, -2, 10, 49, 50, 256, 257, 258, 1<<32 + 1, math.MaxInt, math.MinInt} {
				l = append(l, ident(kind, seq, format))
			}
		}
	}
	return l
}

// may tells by the chapter's words whether x may be, and what it is called.
func may(x api.Ident) (string, bool) {
	number := func(letter string) (string, bool) {
		if x.Seq < 1 || x.Seq > 1<<30 || x.Fmt != 1 && x.Fmt != 2 {
			return "", false
		}
		return letter + strconv.Itoa(x.Seq) + []string{"", ".1", ".2"}[x.Fmt], true
	}
	switch x.Kind {
	case 1:
		return "M", x.Seq == 0 && x.Fmt == 0
	case 2:
		return "M.new", x.Seq == 0 && x.Fmt == 0
	case 3:
		return number("s")
	case 4:
		return number("p")
	}
	return "", false
}

var form = regexp.MustCompile(`\A([sp])([1-9][0-9]{0,9})\.([12])\z`)

// said is what a name says, worked out another way than the program.
func said(name string) (api.Ident, bool) {
	switch name {
	case "M":
		return ident(1, 0, 0), true
	case "M.new":
		return ident(2, 0, 0), true
	}
	m := form.FindStringSubmatch(name)
	if m == nil {
		return api.Ident{}, false
	}
	seq, _ := strconv.ParseInt(m[2], 10, 64)
	if seq > 1<<30 {
		return api.Ident{}, false
	}
	kind := uint8(3)
	if m[1] == "p" {
		kind = 4
	}
	return ident(kind, int(seq), int(m[3][0]-'0')), true
}

// P5.1: the names of what may be, each letter of them; and back.
func TestNames(t *testing.T) {
	for _, c := range []struct {
		x    api.Ident
		name string
	}{
		{ident(api.FkManifest, 0, 0), "M"},
		{ident(api.FkNew, 0, 0), "M.new"},
		{ident(api.FkSegment, 7, api.Fmt2), "s7.2"},
		{ident(api.FkSegment, 1, api.Fmt1), "s1.1"},
		{ident(api.FkSegment, 10, api.Fmt1), "s10.1"},
		{ident(api.FkSegment, 1073741824, api.Fmt1), "s1073741824.1"},
		{ident(api.FkSegment, 1073741824, api.Fmt2), "s1073741824.2"},
		{ident(api.FkSnap, 1, api.Fmt1), "p1.1"},
		{ident(api.FkSnap, 1, api.Fmt2), "p1.2"},
		{ident(api.FkSnap, 100, api.Fmt2), "p100.2"},
		{ident(api.FkSnap, 1073741824, api.Fmt1), "p1073741824.1"},
		{ident(api.FkSnap, 999999999, api.Fmt2), "p999999999.2"},
	} {
		if name, e := Name(c.x); name != c.name || e != api.OK {
			t.Error(c, name, e)
		}
		if x, ok := Parse(c.name); x != c.x || !ok {
			t.Error(c, x, ok)
		}
	}
}

// P5.1: each ident, by the chapter's words: its name, or ErrArg and nothing.
func TestName(t *testing.T) {
	for _, x := range grid() {
		want, is := may(x)
		name, e := Name(x)
		if is && (name != want || e != api.OK) || !is && (name != "" || e != api.ErrArg) {
			t.Error(x, name, e)
		}
		if !is {
			continue
		}
		if back, ok := Parse(name); back != x || !ok {
			t.Error(x, name, back, ok)
		}
	}
	for kind := range 256 {
		for _, x := range []api.Ident{ident(uint8(kind), 0, 0), ident(uint8(kind), 5, 1), ident(uint8(kind), 5, 2)} {
			_, is := may(x)
			if _, e := Name(x); is != (e == api.OK) {
				t.Error(x, e)
			}
		}
	}
}

// P5.1: what is no name says nothing.
func TestParseWrong(t *testing.T) {
	for _, name := range []string{
		"", " ", "m", "M ", " M", "MM", "M.", "M.ne", "M.neW", "M.new ", "M.new.1", "m.new", "M0.0", "M1.1", "M.new1.1", "M\x00",
		"s", "p", "s1", "p1", "s1.", "p1.", "s.1", "p.2", "s..1", ".1", "1.1", "7.2", "s7,2", "s7 .2", "s 7.2", "s7. 2", "s7.2 ", " s7.2", "s7.2\n", "\x00s7.2",
		"p07.1", "s07.2", "s00.1", "s0.1", "p0.2", "s007.1", "s01073741824.1",
		"s7.0", "s7.3", "s7.9", "s7.12", "s7.11", "s7.01", "s7.1.1", "s7.21", "s7.", "s7..", "s7.a", "s7.-", "s7./", "s7.:", "s7.\xff", "s7.\x00",
		"s7.\x01", "s7.\x02", "s7.a1", "s7.+1",
		"S7.2", "P7.2", "t7.2", "r7.2", "o7.1", "q7.1", "a7.1", "ss7.2", "sp7.2", "\x037.1", "\x047.1", "37.1",
		"s-7.1", "s+7.1", "s7e1.1", "s0x7.1", "s1_0.1", "s/.1", "s:.1", "s1:.1", "s1/.1", "s1a.1", "s1.1a",
		"s1073741825.1", "p1073741825.2", "s1999999999.1", "s10737418240.1", "s99999999999.1", "p2147483648.1", "s4294967296.1",
		"s4294967303.2",           // 2^32 + 7
		"s9223372036854775808.1",  // 2^63
		"s18446744073709551616.1", // 2^64
		"s18446744073709551617.1", // 2^64 + 1
		"p18446744073709551623.2", // 2^64 + 7
		"p36893488147419103239.2", // 2^65 + 7
		"s" + strings.Repeat("9", 2000) + ".1",
		"s" + strings.Repeat("0", 2000) + "7.1",
		"s" + strings.Repeat("1", 2000),
		"s\u0667.2", "s\uff17.2", "\u017f7.2", "s7\u20242", "s7.\u00b2", // what looks alike
	} {
		if x, ok := Parse(name); ok || x != (api.Ident{}) {
			t.Errorf("%q: %v, %v", name, x, ok)
		}
		if _, ok := said(name); ok {
			t.Errorf("%q: the test's own says a name", name)
		}
	}
}

// P5.1: all short texts of these letters, and all that a letter makes of a name.
func TestParse(t *testing.T) {
	check := func(name string) {
		x, ok := Parse(name)
		if want, is := said(name); x != want || ok != is {
			t.Fatalf("%q: %v, %v, not %v, %v", name, x, ok, want, is)
		}
		if called, e := Name(x); ok && (called != name || e != api.OK) {
			t.Fatalf("%q is called %q", name, called)
		}
	}
	short := []string{""}
	for range 5 {
		var longer []string
		for _, name := range short {
			check(name)
			for _, letter := range []byte("Msp.0123") {
				longer = append(longer, name+string(rune(letter)))
			}
		}
		short = longer
	}
	for _, name := range []string{"M", "M.new", "s7.2", "p10.1", "s1073741824.1", "p1073741823.2", "p999.1"} {
		for at := range len(name) + 1 {
			for b := range 256 {
				check(name[:at] + string([]byte{byte(b)}) + name[at:])
				if at < len(name) {
					check(name[:at] + string([]byte{byte(b)}) + name[at+1:])
				}
			}
			check(name[:at])
			check(name[at:])
			if at < len(name) {
				check(name[:at] + name[at+1:])
			}
		}
	}
}

// ahead tells by the chapter's words whether a stands ahead of b.
func ahead(a, b api.Ident) bool {
	switch {
	case a.Seq != b.Seq:
		return a.Seq < b.Seq
	case a.Kind != b.Kind:
		return a.Kind < b.Kind
	}
	return a.Fmt < b.Fmt
}

// P5.2: ahead by Seq, then by Kind, then by Fmt, whatever may be.
func TestLess(t *testing.T) {
	for i, c := range []struct{ a, b api.Ident }{
		{ident(3, 1, 1), ident(3, 2, 1)},
		{ident(4, 1, 2), ident(3, 2, 1)},
		{ident(3, 1, 2), ident(4, 1, 1)},
		{ident(3, 1, 1), ident(3, 1, 2)},
		{ident(4, 9, 2), ident(3, 10, 1)},
		{ident(1, 0, 0), ident(2, 0, 0)},
		{ident(2, 0, 0), ident(3, 1, 1)},
		{ident(255, math.MinInt, math.MaxInt), ident(0, math.MaxInt, math.MinInt)},
		{ident(127, 4, 0), ident(128, 4, 0)},
		{ident(9, 4, math.MinInt), ident(9, 4, math.MaxInt)},
		{ident(9, 4, -1), ident(9, 4, 0)},
	} {
		if !Less(c.a, c.b) || Less(c.b, c.a) || Less(c.a, c.a) || Less(c.b, c.b) {
			t.Error(i, c)
		}
	}
	l := grid()
	for i, a := range l {
		for j := i % 7; j < len(l); j += 7 {
			if Less(a, l[j]) != ahead(a, l[j]) || Less(l[j], a) != ahead(l[j], a) {
				t.Fatal(a, l[j])
			}
		}
	}
}

// sorted puts each, one by one, behind all that do not stand behind it.
func sorted(l []api.Ident) []api.Ident {
	var s []api.Ident
	for _, x := range l {
		at := len(s)
		for at > 0 && ahead(x, s[at-1]) {
			at--
		}
		s = slices.Insert(s, at, x)
	}
	return s
}

// P5.2: in order, all of them, as often as they stood; l stays as it was.
func TestSort(t *testing.T) {
	if l := Sort(nil); len(l) != 0 {
		t.Error(l)
	}
	if l := Sort([]api.Ident{}); len(l) != 0 {
		t.Error(l)
	}
	all := grid()
	seed := 1
	for many := range 60 {
		var l []api.Ident
		for range many {
			seed = (seed*1103515245 + 12345) & (1<<31 - 1)
			l = append(l, all[seed>>8%len(all)])
			if seed>>20&3 == 0 {
				l = append(l, l[seed>>12%len(l)]) // one that is alike
			}
		}
		was := slices.Clone(l)
		s := Sort(l)
		if !slices.Equal(s, sorted(l)) {
			t.Error(l, s)
		}
		if !slices.Equal(l, was) {
			t.Error("what was handed in is another:", l, was)
		}
		if again := Sort(s); !slices.Equal(again, s) {
			t.Error(s, again)
		}
		slices.Reverse(l)
		if back := Sort(l); !slices.Equal(back, s) {
			t.Error(l, back)
		}
	}
	one := []api.Ident{ident(4, 2, 1), ident(3, 10, 1), ident(3, 2, 2), ident(1, 0, 0), ident(3, 2, 1), ident(3, 9, 2), ident(2, 0, 0)}
	want := []api.Ident{ident(1, 0, 0), ident(2, 0, 0), ident(3, 2, 1), ident(3, 2, 2), ident(4, 2, 1), ident(3, 9, 2), ident(3, 10, 1)}
	if s := Sort(one); !slices.Equal(s, want) {
		t.Error(s)
	}
}

// P5.3: the place of the first file that is called so, or -1.
func TestFind(t *testing.T) {
	l := filesOf("", "s7.2", "M.new", "p07.1", "s7.1", "s7.2", "M", "other", "s8.2", "p7.2", "M", "s0.1", "s9.", "p1073741824.1", "p1073741825.1")
	for _, c := range []struct {
		x  api.Ident
		at int
	}{
		{ident(api.FkSegment, 7, 2), 1},
		{ident(api.FkNew, 0, 0), 2},
		{ident(api.FkSegment, 7, 1), 4},
		{ident(api.FkManifest, 0, 0), 6},
		{ident(api.FkSegment, 8, 2), 8},
		{ident(api.FkSnap, 7, 2), 9},
		{ident(api.FkSnap, api.MaxNumber, 1), 13},
		{ident(api.FkSegment, 8, 1), -1},
		{ident(api.FkSegment, 70, 2), -1},
		{ident(api.FkSnap, 7, 1), -1},
		{ident(api.FkSnap, 8, 2), -1},
	} {
		if at := Find(l, c.x); at != c.at {
			t.Error(c, at)
		}
	}
	for _, x := range grid() { // what may not be is not found, whatever files are called
		name, is := may(x)
		want := -1
		if is {
			want = slices.IndexFunc(l, func(f api.File) bool { return f.Name == name })
		}
		if at := Find(l, x); at != want {
			t.Error(x, at, want)
		}
		if at := Find(nil, x); at != -1 {
			t.Error(x, at)
		}
		if at := Find(filesOf(""), x); at != -1 {
			t.Error(x, at)
		}
	}
	for _, x := range []api.Ident{{}, ident(3, 0, 1), ident(3, 9, 0), ident(4, api.MaxNumber+1, 1), ident(1, 1, 0), ident(1, 0, 1), ident(2, 0, 2), ident(2, 1, 0)} {
		if at := Find(l, x); at != -1 {
			t.Error(x, at)
		}
	}
}

// P5.3: the names of all files but those that are kept, in their order.
func TestRest(t *testing.T) {
	l := filesOf("z", "s7.2", "M.new", "", "s7.1", "s7.2", "M", "p07.1", "other", "p7.2", "", "z", "s1073741825.1")
	for i, c := range []struct {
		keep []api.Ident
		want []string
	}{
		{nil, []string{"z", "s7.2", "M.new", "", "s7.1", "s7.2", "M", "p07.1", "other", "p7.2", "", "z", "s1073741825.1"}},
		{[]api.Ident{ident(api.FkManifest, 0, 0)}, []string{"z", "s7.2", "M.new", "", "s7.1", "s7.2", "p07.1", "other", "p7.2", "", "z", "s1073741825.1"}},
		{[]api.Ident{ident(api.FkSegment, 7, 2)}, []string{"z", "M.new", "", "s7.1", "M", "p07.1", "other", "p7.2", "", "z", "s1073741825.1"}},
		{
			[]api.Ident{ident(api.FkSnap, 7, 2), ident(api.FkSegment, 7, 1), ident(api.FkNew, 0, 0), ident(api.FkSnap, 7, 2), ident(api.FkSegment, 12, 1)},
			[]string{"z", "s7.2", "", "s7.2", "M", "p07.1", "other", "", "z", "s1073741825.1"},
		},
		{ // what may not be keeps nothing
			[]api.Ident{{}, ident(api.FkSnap, 7, 0), ident(api.FkSegment, 1073741825, 1), ident(api.FkManifest, 0, 1), ident(9, 7, 2)},
			[]string{"z", "s7.2", "M.new", "", "s7.1", "s7.2", "M", "p07.1", "other", "p7.2", "", "z", "s1073741825.1"},
		},
		{
			[]api.Ident{{}, ident(api.FkManifest, 0, 0), ident(api.FkManifest, 7, 2), ident(api.FkNew, 0, 0), ident(api.FkSegment, 7, 1), ident(api.FkSegment, 7, 2), ident(api.FkSnap, 7, 1), ident(api.FkSnap, 7, 2)},
			[]string{"z", "", "p07.1", "other", "", "z", "s1073741825.1"},
		},
	} {
		if rest := Rest(l, c.keep...); !slices.Equal(rest, c.want) {
			t.Errorf("%d: %q, not %q", i, rest, c.want)
		}
		if rest := Rest(nil, c.keep...); len(rest) != 0 {
			t.Errorf("%d: %q of no files", i, rest)
		}
	}
	if rest := Rest(filesOf("M", "M"), ident(api.FkManifest, 0, 0)); len(rest) != 0 {
		t.Errorf("%q", rest)
	}
	if rest := Rest(filesOf(""), grid()...); !slices.Equal(rest, []string{""}) {
		t.Errorf("%q", rest)
	}
}

// P5.4: no two that may be have one name.
func TestNoTwo(t *testing.T) {
	seen := map[string]api.Ident{}
	check := func(x api.Ident) {
		name, e := Name(x)
		if e != api.OK {
			return
		}
		if other, there := seen[name]; there && other != x {
			t.Error(x, other, name)
		}
		seen[name] = x
	}
	for _, x := range grid() {
		check(x)
	}
	for seq := range 3000 {
		for _, kind := range []uint8{api.FkSegment, api.FkSnap} {
			check(ident(kind, seq, api.Fmt1))
			check(ident(kind, seq, api.Fmt2))
		}
	}
	if len(seen) < 2+4*2999 {
		t.Error(len(seen))
	}
}

// P5.4: sorted by order a segment's number is ahead of a greater one's, whatever their formats, and though their names' letters stand otherwise.
func TestNumbersRise(t *testing.T) {
	var l []api.Ident
	for i := range 300 {
		x, ok := Parse("s" + strconv.Itoa(1+i*97%300) + "." + strconv.Itoa(1+i%2))
		if !ok {
			t.Fatal(i)
		}
		l = append(l, x)
	}
	for i, x := range Sort(l) {
		if x.Seq != i+1 {
			t.Error(i, x)
		}
	}
}

// R4: what is handed in stays as it was, spare room too, and shares no memory with answers.
func TestMemory(t *testing.T) {
	room := []api.Ident{ident(3, 9, 1), ident(3, 2, 1), ident(4, 5, 2), ident(3, 1, 1), ident(3, 0, 0)}
	was := slices.Clone(room)
	s, again := Sort(room[:3]), Sort(room[:3])
	for i := range s {
		s[i] = ident(200, 200, 200)
	}
	_ = append(s, ident(201, 201, 201), ident(202, 202, 202))
	if !slices.Equal(room, was) || !slices.Equal(again, []api.Ident{ident(3, 2, 1), ident(4, 5, 2), ident(3, 9, 1)}) {
		t.Error(room, again)
	}
	l := filesOf("z", "s2.1", "s9.1", "a", "behind")
	rest, more := Rest(l[:4], room[:3]...), Rest(l[:4], room[:3]...)
	if at := Find(l[:4], room[1]); at != 1 || !slices.Equal(rest, []string{"z", "a"}) {
		t.Error(at, rest)
	}
	for i := range rest {
		rest[i] = "over"
	}
	_ = append(rest, "over", "over")
	for i, x := range filesOf("z", "s2.1", "s9.1", "a", "behind") {
		if l[i].Name != x.Name || string(l[i].Bytes) != string(x.Bytes) {
			t.Error(i, l[i])
		}
	}
	if !slices.Equal(room, was) || !slices.Equal(more, []string{"z", "a"}) {
		t.Error(room, more)
	}
}
