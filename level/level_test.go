package level

import (
	"math"
	"slices"
	"testing"

	"moult/api"
	"moult/entry"
)

const top = 1073741824 // MaxNumber

// numbers are those at which something comes to an edge.
func numbers() []int {
	return []int{
		math.MinInt, math.MinInt + 1, -1 << 32, -top - 1, -top, -257, -3, -2, -1,
		0, 1, 2, 3, 4, 5, 6, 255, 256, 257, 258, 123456789, top - 1,
		top, top + 1, top + 2, 1<<31 - 1, 1 << 31, 1<<32 + 1, 1<<32 + 2, 1 << 62, math.MaxInt - 1, math.MaxInt,
	}
}

// someStates are such as may be, and such as may not, of all levels.
func someStates() []api.State {
	var l []api.State
	for _, level := range numbers() {
		for _, index := range []int{math.MinInt, -1, 0, 1, 7, top - 1, top, top + 1} {
			for _, term := range []int{-1, 0, 1, top, top + 1} {
				for _, sum := range []int{-1, 0, 99, top} {
					l = append(l,
						api.State{Index: index, Term: term, Sum: sum, Level: level},
						api.State{Index: index, Term: term, Sum: sum, Level: level, Final: true})
				}
			}
		}
	}
	return l
}

// fineStates are those of them that may be.
func fineStates() []api.State {
	return slices.DeleteFunc(someStates(), func(s api.State) bool { return !entry.Fine(s) })
}

// heard are rows of what was heard: every one of up to so many numbers of those.
func heard(most int, of ...int) [][]int {
	l := [][]int{nil}
	for first := 0; most > 0; most-- {
		end := len(l)
		for _, row := range l[first:end] {
			for _, n := range of {
				l = append(l, append(slices.Clone(row), n))
			}
		}
		first = end
	}
	return l
}

// knownOf tells by the chapter's words whether members are known.
func knownOf(caps []int) bool {
	return len(caps) > 0 && slices.Equal(caps, slices.Repeat([]int{2}, len(caps)))
}

// checkOf goes down the chapter's table, line by line.
func checkOf(kind int, s api.State, caps []int) api.Errno {
	table := []struct {
		e  api.Errno
		so bool
	}{
		{2, kind != 1 && kind != 2 && kind != 3 && kind != 4},
		{221, kind == 2 && !knownOf(caps)},
		{222, (kind == 3 || kind == 4) && s.Final},
		{223, kind == 4 && s.Level != 2},
	}
	for _, line := range table {
		if line.so {
			return line.e
		}
	}
	return 0
}

// stageOf tells by the chapter's words which stage it is.
func stageOf(s api.State) int {
	switch {
	case s.Level == 2 && s.Final:
		return 2
	case s.Level == 2:
		return 1
	}
	return 0
}

// dice tells numbers below n that look like chance, the same ones each time.
func dice(seed uint64) func(n int) int {
	return func(n int) int {
		seed = seed*6364136223846793005 + 1442695040888963407
		return int(seed >> 33 % uint64(n))
	}
}

// row is so many entries, some of which may not be.
func row(roll func(int) int, many int) []api.Entry {
	var l []api.Entry
	for range many {
		e := api.Entry{Term: 1 + roll(9), Kind: roll(5)}
		if e.Kind == api.EnData {
			e.Value = roll(1000)
		}
		switch roll(12) {
		case 0:
			e.Term = []int{-1, 0, top + 1}[roll(3)]
		case 1:
			e.Kind = []int{-1, 5, 6}[roll(3)]
		case 2:
			e.Value = []int{-1, top + 1, math.MinInt}[roll(3)]
		}
		l = append(l, e)
	}
	return l
}

// P19.1: the format that is written.
func TestFormat(t *testing.T) {
	for i, c := range []struct {
		s           api.State
		binary, fmt int
	}{
		{api.State{Level: 1}, 1, 1}, {api.State{Level: 1}, 2, 1}, {api.State{Level: 1}, 3, 1}, {api.State{Level: 1}, 0, 1},
		{api.State{Index: 1, Term: 1, Level: 2}, 2, 2}, {api.State{Index: 1, Term: 1, Level: 2}, 1, 1}, {api.State{Index: 1, Term: 1, Level: 2}, 0, 1},
		{api.State{Index: 1, Term: 1, Level: 2}, 3, 2}, {api.State{Index: 1, Term: 1, Level: 2}, math.MaxInt, 2}, {api.State{Index: 1, Term: 1, Level: 2}, -2, 1},
		{api.State{Index: 9, Term: 3, Sum: 7, Level: 2, Final: true}, 2, 2}, {api.State{Index: 9, Term: 3, Sum: 7, Level: 2, Final: true}, 1, 1},
		{api.State{}, 2, 1}, {api.State{Level: 3}, 3, 1}, {api.State{Level: 1, Final: true}, 2, 1}, {api.State{Level: 2}, 2, 2}, {api.State{Index: -4, Level: 2}, 2, 2},
	} {
		if f := Format(c.s, c.binary); f != c.fmt {
			t.Error(i, c, f)
		}
	}
	for _, s := range someStates() {
		for _, binary := range numbers() {
			want := 1
			if s.Level == 2 && binary > 1 {
				want = 2
			}
			if f := Format(s, binary); f != want {
				t.Fatal(s, binary, f)
			}
		}
	}
}

// P19.1: the stage, of any state.
func TestStage(t *testing.T) {
	for i, c := range []struct {
		s     api.State
		stage int
	}{
		{api.State{Level: 1}, 0}, {api.State{Index: 5, Term: 1, Level: 1}, 0}, {api.State{Index: 5, Term: 1, Level: 2}, 1}, {api.State{Index: 5, Term: 1, Level: 2, Final: true}, 2},
		{api.State{}, 0}, {api.State{Final: true}, 0}, {api.State{Level: 1, Final: true}, 0}, {api.State{Level: 3}, 0}, {api.State{Level: 3, Final: true}, 0},
		{api.State{Level: -2, Final: true}, 0}, {api.State{Level: 1<<32 + 2}, 0}, {api.State{Level: 2}, 1}, {api.State{Index: -1, Term: -1, Level: 2, Final: true}, 2},
	} {
		if n := Stage(c.s); n != c.stage {
			t.Error(i, c, n)
		}
	}
	for _, s := range someStates() {
		if n := Stage(s); n != stageOf(s) {
			t.Fatal(s, n)
		}
	}
}

// P19.1: members are known, if there is one, and each is 2.
func TestKnown(t *testing.T) {
	for _, caps := range [][]int{{2}, {2, 2}, {2, 2, 2}, {2, 2, 2, 2}, {2, 2, 2, 2, 2}, slices.Repeat([]int{2}, 3000)} {
		if !Known(caps...) {
			t.Error(caps)
		}
	}
	for _, caps := range [][]int{
		nil, {}, {0}, {1}, {3}, {-2}, {258}, {1<<32 + 2}, {math.MaxInt}, {math.MinInt}, {2, 1}, {1, 2}, {2, 0, 2}, {0, 2, 2}, {2, 2, 0}, {2, 2, 3}, {1, 1, 1}, {0, 4}, {1, 3}, {1, 2, 3},
		append(slices.Repeat([]int{2}, 3000), 1), append([]int{0}, slices.Repeat([]int{2}, 3000)...),
	} {
		if Known(caps...) {
			t.Error(caps)
		}
	}
	for _, caps := range append(heard(5, 0, 1, 2, 3), heard(2, numbers()...)...) {
		if Known(caps...) != knownOf(caps) {
			t.Fatal(caps, Known(caps...))
		}
	}
}

// P19.2: what is asked, written out; the chapter's example is the first.
func TestCheck(t *testing.T) {
	one, two, final := api.State{Index: 5, Term: 1, Level: 1}, api.State{Index: 5, Term: 1, Level: 2}, api.State{Index: 5, Term: 1, Level: 2, Final: true}
	all := []int{2, 2, 2}
	for i, c := range []struct {
		kind int
		s    api.State
		caps []int
		want api.Errno
	}{
		{api.EnFinal, one, all, api.ErrLevel}, {api.EnFinal, one, nil, api.ErrLevel}, {api.EnFinal, two, nil, api.OK}, {api.EnFinal, two, all, api.OK}, {api.EnFinal, final, all, api.ErrFinal},
		{api.EnRevert, one, nil, api.OK}, {api.EnRevert, two, []int{1}, api.OK}, {api.EnRevert, final, all, api.ErrFinal}, {api.EnRevert, final, nil, api.ErrFinal},
		{api.EnPropose, one, all, api.OK}, {api.EnPropose, two, all, api.OK}, {api.EnPropose, final, all, api.OK}, {api.EnPropose, one, []int{2}, api.OK},
		{api.EnPropose, one, nil, api.ErrCaps}, {api.EnPropose, one, []int{}, api.ErrCaps}, {api.EnPropose, one, []int{2, 0, 2}, api.ErrCaps}, {api.EnPropose, two, []int{2, 2, 1}, api.ErrCaps},
		{api.EnPropose, final, []int{1, 2, 2}, api.ErrCaps}, {api.EnPropose, one, []int{2, 3}, api.ErrCaps},
		{api.EnData, one, nil, api.OK}, {api.EnData, two, []int{0, 1, 9}, api.OK}, {api.EnData, final, all, api.OK}, {api.EnData, api.State{}, nil, api.OK},
		{api.EnNoop, one, all, api.ErrArg}, {api.EnNoop, final, nil, api.ErrArg}, {5, two, all, api.ErrArg}, {-1, two, all, api.ErrArg}, {258, one, nil, api.ErrArg}, {1<<32 + 1, one, all, api.ErrArg},
		{math.MinInt, final, nil, api.ErrArg}, {math.MaxInt, one, all, api.ErrArg},
		// States that may not be.
		{api.EnFinal, api.State{Level: 1, Final: true}, all, api.ErrFinal}, {api.EnRevert, api.State{Level: 1, Final: true}, all, api.ErrFinal}, {api.EnFinal, api.State{Level: 3, Final: true}, nil, api.ErrFinal},
		{api.EnFinal, api.State{Level: 3}, all, api.ErrLevel}, {api.EnFinal, api.State{}, all, api.ErrLevel}, {api.EnFinal, api.State{Index: -1, Level: 2}, nil, api.OK}, {api.EnRevert, api.State{Level: 9}, nil, api.OK},
		{api.EnPropose, api.State{}, all, api.OK}, {api.EnPropose, api.State{Index: top + 1, Level: 7, Final: true}, nil, api.ErrCaps},
	} {
		if e := Check(c.kind, c.s, c.caps...); e != c.want {
			t.Error(i, c, e)
		}
	}
}

// P19.2: what is asked, of all kinds and states, whatever was heard.
func TestCheckAll(t *testing.T) {
	rows := [][]int{nil, {}, {2}, {2, 2}, {2, 2, 2, 2, 2}, {1}, {0}, {2, 1}, {0, 2, 2}, {3}, {2, 2, -2}}
	kinds := numbers()
	for _, s := range someStates() {
		for _, kind := range kinds {
			for _, caps := range rows {
				if e := Check(kind, s, caps...); e != checkOf(kind, s, caps) {
					t.Fatal(kind, s, caps, e)
				}
			}
		}
	}
	for _, caps := range heard(5, 0, 1, 2, 3) {
		for kind := range 6 {
			for _, s := range []api.State{{Level: 1}, {Index: 1, Term: 1, Level: 2}, {Index: 1, Term: 1, Level: 2, Final: true}} {
				if e := Check(kind, s, caps...); e != checkOf(kind, s, caps) {
					t.Fatal(kind, s, caps, e)
				}
			}
		}
	}
}

// P19.3: entries, such as may be and such as may not.
func TestEntry(t *testing.T) {
	for _, c := range []struct {
		kind, value, term int
		want              api.Entry
	}{
		{api.EnNoop, 0, 1, api.Entry{Term: 1}}, {api.EnData, 7, 3, api.Entry{Term: 3, Kind: 1, Value: 7}}, {api.EnData, 0, 1, api.Entry{Term: 1, Kind: 1}}, {api.EnData, top, top, api.Entry{Term: top, Kind: 1, Value: top}},
		{api.EnPropose, 0, 4, api.Entry{Term: 4, Kind: 2}}, {api.EnRevert, 0, 4, api.Entry{Term: 4, Kind: 3}}, {api.EnFinal, 0, top, api.Entry{Term: top, Kind: 4}},
	} {
		if x, e := Entry(c.kind, c.value, c.term); x != c.want || e != api.OK {
			t.Error(c, x, e)
		}
	}
	for _, c := range [][3]int{
		{0, 0, 0}, {1, 5, 0}, {1, 5, -1}, {1, 5, top + 1}, {1, -1, 1}, {1, top + 1, 1}, {0, 1, 1}, {2, 1, 1}, {3, 5, 1}, {4, -1, 1}, {5, 0, 1}, {-1, 0, 1}, {256, 0, 1}, {math.MaxInt, math.MaxInt, math.MaxInt},
	} {
		if x, e := Entry(c[0], c[1], c[2]); x != (api.Entry{}) || e != api.ErrArg {
			t.Error(c, x, e)
		}
	}
	for _, kind := range numbers() {
		for _, value := range numbers() {
			for _, term := range numbers() {
				x, e := Entry(kind, value, term)
				may := term >= 1 && term <= top && (kind == 1 && value >= 0 && value <= top || kind >= 0 && kind <= 4 && value == 0)
				if may && (e != api.OK || x.Term != term || x.Kind != kind || x.Value != value) || !may && (e != api.ErrArg || x != api.Entry{}) {
					t.Fatal(kind, value, term, x, e)
				}
			}
		}
	}
}

// P19.3: stages, written out.
func TestStages(t *testing.T) {
	of := func(kinds ...int) (l []api.Entry) {
		for _, kind := range kinds {
			l = append(l, api.Entry{Term: 1, Kind: kind})
		}
		return l
	}
	two, final := api.State{Index: 5, Term: 1, Level: 2}, api.State{Index: 5, Term: 1, Level: 2, Final: true}
	for i, c := range []struct {
		s    api.State
		l    []api.Entry
		want []int
	}{
		{entry.First(), nil, []int{0}}, {entry.First(), []api.Entry{}, []int{0}}, {two, nil, []int{1}}, {final, nil, []int{2}}, {api.State{Level: 2, Final: true}, nil, []int{2}}, {api.State{}, nil, []int{0}},
		{entry.First(), of(2), []int{0, 1}}, {entry.First(), of(2, 4, 3), []int{0, 1, 2, 2}}, {entry.First(), of(2, 3, 4, 2, 4, 3, 2), []int{0, 1, 0, 0, 1, 2, 2, 2}},
		{entry.First(), of(0, 1, 4, 3, 2, 1, 0), []int{0, 0, 0, 0, 0, 1, 1, 1}}, {two, of(3, 2, 2, 4, 0), []int{1, 0, 1, 1, 2, 2}}, {final, of(3, 4, 2, 1, 0), []int{2, 2, 2, 2, 2, 2}},
		// Entries, and states, that may not be leave all as it is, and so does the last index.
		{entry.First(), []api.Entry{{Kind: 2}, {Term: 1, Kind: 2, Value: 1}, {Term: 1, Kind: 2}, {Term: 1, Kind: 5}, {Term: -1, Kind: 4}, {Term: 1, Kind: 4}}, []int{0, 0, 0, 1, 1, 1, 2}},
		{api.State{Level: 2}, of(3, 4), []int{1, 1, 1}}, {api.State{Index: 3, Term: 1, Level: 3}, of(2, 3), []int{0, 0, 0}}, {api.State{Level: 1, Final: true}, of(2), []int{0, 0}},
		{api.State{Index: top - 1, Term: 1, Level: 1}, of(2, 4, 3), []int{0, 1, 1, 1}}, {api.State{Index: top, Term: 1, Level: 1}, of(2, 4), []int{0, 0, 0}},
	} {
		if stages := Stages(c.s, c.l...); !slices.Equal(stages, c.want) {
			t.Error(i, c, stages)
		}
	}
}

// P19.3: stages behind each, of rows of all kinds: as what all up to there come to.
func TestStagesAll(t *testing.T) {
	roll := dice(19)
	for i, s := range someStates() {
		if i%7 > 0 && !entry.Fine(s) {
			continue
		}
		l := row(roll, roll(14))
		stages := Stages(s, l...)
		if len(stages) != len(l)+1 {
			t.Fatal(s, l, stages)
		}
		for at, stage := range stages {
			if stage != stageOf(entry.All(s, l[:at]...)) {
				t.Fatal(s, l, at, stages)
			}
		}
	}
}

// P19.4: behind what was asked; at the last index of all nothing comes behind.
func TestFollows(t *testing.T) {
	told := map[api.Errno]int{}
	for _, s := range fineStates() {
		for kind := range api.EnKinds {
			for _, caps := range [][]int{nil, {2, 2}, {2, 1}} {
				x, e := Entry(kind, 0, 7)
				if e != api.OK {
					t.Fatal(kind, e)
				}
				n, asked := entry.Next(s, x), Check(kind, s, caps...)
				told[asked]++
				switch {
				case asked == api.ErrFinal || asked == api.ErrLevel:
					if Stage(n) != Stage(s) || n.Level != s.Level {
						t.Fatal(s, kind, n)
					}
				case asked == api.OK && s.Index < top:
					so := map[int]bool{api.EnData: n.Level == s.Level && Stage(n) == Stage(s), api.EnPropose: n.Level == 2, api.EnRevert: n.Level == 1, api.EnFinal: Stage(n) == 2}
					if !so[kind] {
						t.Fatal(s, kind, n)
					}
				}
			}
		}
	}
	for _, e := range []api.Errno{api.OK, api.ErrArg, api.ErrCaps, api.ErrFinal, api.ErrLevel} {
		if told[e] == 0 {
			t.Error("never told:", e)
		}
	}
}

// P19.4: who is for good stays so, and a binary 1 writes the first format.
func TestForGood(t *testing.T) {
	roll := dice(194)
	for _, s := range fineStates() {
		for range 8 {
			l := row(roll, roll(20))
			good := false
			for at, stage := range Stages(s, l...) {
				n := entry.All(s, l[:at]...)
				if good && (stage != 2 || Check(api.EnRevert, n) != api.ErrFinal || Format(n, 2) != api.Fmt2) {
					t.Fatal(s, l, at, stage)
				}
				good = good || stage == 2
				if Format(n, 1) != api.Fmt1 {
					t.Fatal(n)
				}
			}
		}
	}
}

// R4: what is handed in stays as it was, spare room too, and shares no memory with answers.
func TestMemory(t *testing.T) {
	room := []api.Entry{{Term: 1, Kind: api.EnPropose}, {Term: -1}, {Term: 2, Kind: api.EnFinal}, {Term: 9, Kind: 9, Value: 9}}
	was := slices.Clone(room)
	a, b := Stages(entry.First(), room[:3]...), Stages(entry.First(), room[:3]...)
	for i := range a {
		a[i] = 99
	}
	_ = append(a, 98, 97)
	if !slices.Equal(room, was) {
		t.Error("what was handed in is another:", room)
	}
	if !slices.Equal(b, []int{0, 1, 1, 2}) {
		t.Error("an answer changed another:", b)
	}
	caps := []int{2, 2, 1, 7}
	if !Known(caps[:2]...) || Check(api.EnPropose, entry.First(), caps[:2]...) != api.OK || Check(api.EnPropose, entry.First(), caps[:3]...) != api.ErrCaps {
		t.Error("what was heard")
	}
	if !slices.Equal(caps, []int{2, 2, 1, 7}) {
		t.Error("what was handed in is another:", caps)
	}
}

// R4: states are told by an iterator that may be left early and gone over again.
func TestStatesAgain(t *testing.T) {
	all := states(entry.First(), api.Entry{Term: 1, Kind: api.EnPropose}, api.Entry{Term: 2, Kind: api.EnFinal})
	for leave := range 3 {
		at := 0
		for range all {
			if at == leave {
				break
			}
			at++
		}
	}
	want := []api.State{{Level: 1}, {Index: 1, Term: 1, Level: 2}, {Index: 2, Term: 2, Level: 2, Final: true}}
	for range 2 {
		if told := slices.Collect(all); !slices.Equal(told, want) {
			t.Error(told)
		}
	}
}
