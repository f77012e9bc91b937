package entry

import (
	"math"
	"math/big"
	"slices"
	"testing"

	"moult/api"
)

const top = 1073741824 // MaxNumber

// numbers are those at which an entry, or a state, comes to an edge.
func numbers() []int {
	return []int{
		math.MinInt, math.MinInt + 1, -1 << 32, -1<<32 + 1, -top - 1, -top, -256, -2, -1,
		0, 1, 2, 3, 4, 5, 6, 30, 31, 32, 255, 256, 257, 123456789, top / 31, top/31 + 1, top / 2, top - 2, top - 1,
		top, top + 1, top + 2, 1<<31 - 1, 1 << 31, 1 << 32, 1<<32 + 1, 1<<32 + 2, 1 << 62, math.MaxInt - 1, math.MaxInt,
	}
}

// number tells whether n is one from least to MaxNumber.
func number(n, least int) bool {
	return n >= least && n <= top
}

// rightOf tells by the chapter's words whether an entry may be.
func rightOf(e api.Entry) bool {
	five := e.Kind == 0 || e.Kind == 1 || e.Kind == 2 || e.Kind == 3 || e.Kind == 4
	return number(e.Term, 1) && five && number(e.Value, 0) && (e.Kind == 1 || e.Value == 0)
}

// fineOf tells by the chapter's words whether a state may be.
func fineOf(s api.State) bool {
	if !number(s.Index, 0) || !number(s.Term, 0) || !number(s.Sum, 0) || (s.Term == 0) != (s.Index == 0) {
		return false
	}
	if s.Level != 1 && s.Level != 2 || s.Final && s.Level == 1 {
		return false
	}
	return s.Index > 0 || s.Sum == 0 && s.Level == 1
}

// nextOf works out what comes behind by the chapter's words, sums by numbers that have no end.
func nextOf(s api.State, e api.Entry) api.State {
	if !fineOf(s) || !rightOf(e) || s.Index == top {
		return s
	}
	n := api.State{Index: s.Index + 1, Term: e.Term, Sum: s.Sum, Level: s.Level, Final: s.Final}
	switch {
	case e.Kind == 1:
		sum := new(big.Int).Mul(big.NewInt(31), big.NewInt(int64(s.Sum)))
		sum.Add(sum, big.NewInt(int64(e.Value)))
		sum.Add(sum, big.NewInt(1))
		n.Sum = int(sum.Mod(sum, big.NewInt(top)).Int64())
	case e.Kind == 2:
		n.Level = 2
	case e.Kind == 3 && !s.Final:
		n.Level = 1
	case e.Kind == 4 && s.Level == 2:
		n.Final = true
	}
	return n
}

// entries are of all kinds, right and wrong, with all these numbers.
func entries() []api.Entry {
	var l []api.Entry
	for _, term := range numbers() {
		for _, kind := range numbers() {
			for _, value := range numbers() {
				l = append(l, api.Entry{Term: term, Kind: kind, Value: value})
			}
		}
	}
	return l
}

// fewEntries are those at the edges, right and wrong.
func fewEntries() []api.Entry {
	var l []api.Entry
	for _, term := range []int{-1, 0, 1, 2, top, top + 1} {
		for _, kind := range []int{-1, 0, 1, 2, 3, 4, 5, 257} {
			for _, value := range []int{-1, 0, 1, 7, top - 1, top, top + 1} {
				l = append(l, api.Entry{Term: term, Kind: kind, Value: value})
			}
		}
	}
	return l
}

// fewStates are those at the edges, such as may be and such as may not.
func fewStates() []api.State {
	var l []api.State
	for _, index := range []int{math.MinInt, -1, 0, 1, 2, top - 1, top, top + 1, math.MaxInt} {
		for _, term := range []int{-1, 0, 1, 5, top, top + 1} {
			for _, sum := range []int{-1, 0, 1, top/31 + 1, top - 1, top, top + 1} {
				for level := range 4 {
					l = append(l,
						api.State{Index: index, Term: term, Sum: sum, Level: level},
						api.State{Index: index, Term: term, Sum: sum, Level: level, Final: true})
				}
			}
		}
	}
	return l
}

// dice tells numbers below n that look like chance, the same ones each time.
func dice(seed uint64) func(n int) int {
	return func(n int) int {
		seed = seed*6364136223846793005 + 1442695040888963407
		return int(seed >> 33 % uint64(n))
	}
}

// row is many entries, some of which may not be.
func row(roll func(int) int, many int) []api.Entry {
	var l []api.Entry
	for range many {
		e := api.Entry{Term: 1 + roll(9), Kind: roll(5)}
		if e.Kind == api.EnData {
			e.Value = []int{0, 1, roll(1000), roll(top), top}[roll(5)]
		}
		switch roll(12) {
		case 0:
			e.Term = []int{-1, 0, top + 1}[roll(3)]
		case 1:
			e.Kind = []int{-1, 5, 6}[roll(3)]
		case 2:
			e.Value = []int{-1, top + 1, math.MinInt}[roll(3)]
		}
		l = append(l, e)
	}
	return l
}

// P6.1: which entries may be.
func TestRight(t *testing.T) {
	for _, e := range []api.Entry{
		{Term: 1}, {Term: 7, Kind: api.EnNoop}, {Term: top, Kind: api.EnFinal}, {Term: 1, Kind: api.EnPropose}, {Term: 1, Kind: api.EnRevert},
		{Term: 1, Kind: api.EnData}, {Term: 1, Kind: api.EnData, Value: 1}, {Term: 2, Kind: api.EnData, Value: top}, {Term: top, Kind: api.EnData, Value: 5},
	} {
		if !Right(e) {
			t.Error(e)
		}
	}
	for _, e := range []api.Entry{
		{}, {Kind: api.EnData}, {Term: -1}, {Term: top + 1}, {Term: math.MaxInt, Kind: api.EnData}, {Term: math.MinInt},
		{Term: 1, Kind: -1}, {Term: 1, Kind: 5}, {Term: 1, Kind: 256}, {Term: 1, Kind: 1 << 32}, {Term: 1, Kind: math.MinInt}, {Term: 1, Kind: -1, Value: 1},
		{Term: 1, Kind: api.EnData, Value: -1}, {Term: 1, Kind: api.EnData, Value: top + 1}, {Term: 1, Kind: api.EnData, Value: math.MaxInt},
		{Term: 1, Kind: api.EnNoop, Value: 1}, {Term: 1, Kind: api.EnPropose, Value: 1}, {Term: 1, Kind: api.EnRevert, Value: 3},
		{Term: 1, Kind: api.EnFinal, Value: top}, {Term: 1, Kind: api.EnFinal, Value: -1}, {Term: 1 << 32, Kind: 0}, {Term: 1<<32 + 1, Kind: 1<<32 + 1},
	} {
		if Right(e) {
			t.Error(e)
		}
	}
	for _, e := range entries() {
		if Right(e) != rightOf(e) {
			t.Fatal(e, Right(e))
		}
	}
}

// P6.1: which states may be.
func TestFine(t *testing.T) {
	for _, s := range []api.State{
		{Level: 1}, {Index: 1, Term: 1, Level: 1}, {Index: 1, Term: 1, Level: 2}, {Index: 1, Term: 1, Level: 2, Final: true},
		{Index: top, Term: top, Sum: top, Level: 2, Final: true}, {Index: 1, Term: top, Sum: top, Level: 1}, {Index: top, Term: 1, Level: 1},
	} {
		if !Fine(s) {
			t.Error(s)
		}
	}
	for _, s := range []api.State{
		{}, {Level: 2}, {Level: 2, Final: true}, {Level: 1, Final: true}, {Sum: 1, Level: 1}, {Term: 1, Level: 1}, {Final: true},
		{Index: 1, Level: 1}, {Index: 1, Term: 1}, {Index: 1, Term: 1, Level: 3}, {Index: 1, Term: 1, Level: -1}, {Index: 1, Term: 1, Level: 1, Final: true},
		{Index: -1, Term: 1, Level: 1}, {Index: 1, Term: -1, Level: 1}, {Index: 1, Term: 1, Sum: -1, Level: 1}, {Index: -1, Term: 0, Level: 1},
		{Index: top + 1, Term: 1, Level: 1}, {Index: 1, Term: top + 1, Level: 1}, {Index: 1, Term: 1, Sum: top + 1, Level: 1}, {Index: 1, Term: 1, Level: 0, Final: true},
		{Index: 1, Term: 1, Level: 3, Final: true}, {Index: math.MinInt, Term: math.MinInt, Level: 1}, {Index: math.MaxInt, Term: 1, Level: 2},
	} {
		if Fine(s) {
			t.Error(s)
		}
	}
	for _, s := range fewStates() {
		if Fine(s) != fineOf(s) {
			t.Fatal(s, Fine(s))
		}
	}
	for _, n := range numbers() {
		for _, s := range []api.State{
			{Index: n, Term: 1, Level: 1}, {Index: 1, Term: n, Level: 1}, {Index: n, Term: n, Level: 2}, {Index: 1, Term: 1, Sum: n, Level: 2, Final: true},
			{Index: 1, Term: 1, Level: n}, {Index: 1, Term: 1, Level: n, Final: true}, {Level: n}, {Sum: n, Level: 1}, {Index: n, Level: 1}, {Term: n, Level: 1},
		} {
			if Fine(s) != fineOf(s) {
				t.Error(s, Fine(s))
			}
		}
	}
}

// P6.1: the first state; it may be.
func TestFirst(t *testing.T) {
	if s := First(); s != (api.State{Level: 1}) || !Fine(s) {
		t.Error(s)
	}
}

// P6.1: kinds by their names.
func TestName(t *testing.T) {
	for kind, name := range []string{"noop", "data", "propose", "revert", "final"} {
		if Name(kind) != name {
			t.Error(kind, Name(kind))
		}
	}
	for _, kind := range numbers() {
		if (Name(kind) == "") != (kind < 0 || kind > 4) {
			t.Error(kind, Name(kind))
		}
	}
}

// P6.2: what each kind does, worked out by hand.
func TestNext(t *testing.T) {
	for i, c := range []struct {
		s    api.State
		e    api.Entry
		want api.State
	}{
		{api.State{Level: 1}, api.Entry{Term: 3}, api.State{Index: 1, Term: 3, Level: 1}},
		{api.State{Level: 1}, api.Entry{Term: 1, Kind: api.EnData}, api.State{Index: 1, Term: 1, Sum: 1, Level: 1}},
		{api.State{Level: 1}, api.Entry{Term: 1, Kind: api.EnData, Value: 5}, api.State{Index: 1, Term: 1, Sum: 6, Level: 1}},
		{api.State{Index: 1, Term: 1, Sum: 6, Level: 1}, api.Entry{Term: 1, Kind: api.EnData, Value: 7}, api.State{Index: 2, Term: 1, Sum: 194, Level: 1}},
		{api.State{Index: 1, Term: 1, Sum: 0, Level: 2}, api.Entry{Term: 1, Kind: api.EnData, Value: top - 2}, api.State{Index: 2, Term: 1, Sum: top - 1, Level: 2}},
		{api.State{Index: 1, Term: 1, Sum: 0, Level: 2}, api.Entry{Term: 1, Kind: api.EnData, Value: top - 1}, api.State{Index: 2, Term: 1, Sum: 0, Level: 2}},
		{api.State{Index: 1, Term: 1, Sum: 0, Level: 2}, api.Entry{Term: 1, Kind: api.EnData, Value: top}, api.State{Index: 2, Term: 1, Sum: 1, Level: 2}},
		{api.State{Index: 1, Term: 1, Sum: top, Level: 2}, api.Entry{Term: 1, Kind: api.EnData, Value: top}, api.State{Index: 2, Term: 1, Sum: 1, Level: 2}},
		{api.State{Index: 1, Term: 1, Sum: top - 1, Level: 1}, api.Entry{Term: 1, Kind: api.EnData}, api.State{Index: 2, Term: 1, Sum: top - 30, Level: 1}},
		{api.State{Index: 1, Term: 1, Sum: top, Level: 1}, api.Entry{Term: 1}, api.State{Index: 2, Term: 1, Sum: top, Level: 1}},
		{api.State{Index: 4, Term: 9, Sum: 2, Level: 1}, api.Entry{Term: 1, Kind: api.EnPropose}, api.State{Index: 5, Term: 1, Sum: 2, Level: 2}},
		{api.State{Index: 4, Term: 9, Sum: 2, Level: 2}, api.Entry{Term: 9, Kind: api.EnPropose}, api.State{Index: 5, Term: 9, Sum: 2, Level: 2}},
		{api.State{Index: 4, Term: 9, Sum: 2, Level: 2, Final: true}, api.Entry{Term: 9, Kind: api.EnPropose}, api.State{Index: 5, Term: 9, Sum: 2, Level: 2, Final: true}},
		{api.State{Index: 4, Term: 9, Sum: 2, Level: 1}, api.Entry{Term: 9, Kind: api.EnRevert}, api.State{Index: 5, Term: 9, Sum: 2, Level: 1}},
		{api.State{Index: 4, Term: 9, Sum: 2, Level: 2}, api.Entry{Term: 9, Kind: api.EnRevert}, api.State{Index: 5, Term: 9, Sum: 2, Level: 1}},
		{api.State{Index: 4, Term: 9, Sum: 2, Level: 2, Final: true}, api.Entry{Term: 10, Kind: api.EnRevert}, api.State{Index: 5, Term: 10, Sum: 2, Level: 2, Final: true}},
		{api.State{Index: 4, Term: 9, Sum: 2, Level: 1}, api.Entry{Term: 9, Kind: api.EnFinal}, api.State{Index: 5, Term: 9, Sum: 2, Level: 1}},
		{api.State{Index: 4, Term: 9, Sum: 2, Level: 2}, api.Entry{Term: 9, Kind: api.EnFinal}, api.State{Index: 5, Term: 9, Sum: 2, Level: 2, Final: true}},
		{api.State{Index: 4, Term: 9, Sum: 2, Level: 2, Final: true}, api.Entry{Term: 9, Kind: api.EnFinal}, api.State{Index: 5, Term: 9, Sum: 2, Level: 2, Final: true}},
		{api.State{Index: 4, Term: 9, Sum: 2, Level: 2, Final: true}, api.Entry{Term: top}, api.State{Index: 5, Term: top, Sum: 2, Level: 2, Final: true}},
		{api.State{Index: top - 1, Term: 9, Sum: 2, Level: 1}, api.Entry{Term: 9, Kind: api.EnPropose}, api.State{Index: top, Term: 9, Sum: 2, Level: 2}},
	} {
		if s := Next(c.s, c.e); s != c.want {
			t.Error(i, c, s)
		}
	}
}

// P6.2: of what may not be, or at the last index of all, the state stays as it is.
func TestNextStays(t *testing.T) {
	s := api.State{Index: 3, Term: 2, Sum: 8, Level: 2}
	for _, e := range []api.Entry{{}, {Term: top + 1}, {Term: 1, Kind: 5}, {Term: 1, Kind: -1}, {Term: 3, Value: 1}, {Term: 3, Kind: api.EnRevert, Value: 1}, {Term: 3, Kind: api.EnData, Value: -1}, {Term: 3, Kind: api.EnData, Value: top + 1}, {Kind: api.EnFinal}} {
		if n := Next(s, e); n != s {
			t.Error(e, n)
		}
	}
	for _, s := range []api.State{
		{}, {Level: 2}, {Index: 1, Level: 1}, {Term: 1, Level: 1}, {Index: 1, Term: 1, Level: 3}, {Index: 1, Term: 1, Level: 1, Final: true}, {Index: -1, Term: -1, Sum: -1, Level: -1, Final: true},
		{Index: top + 1, Term: 1, Level: 1}, {Index: top, Term: 1, Level: 1}, {Index: top, Term: top, Sum: top, Level: 2}, {Index: top, Term: 1, Level: 2, Final: true}, {Index: math.MaxInt, Term: 1, Level: 1},
	} {
		for kind := range 5 {
			if n := Next(s, api.Entry{Term: 7, Kind: kind}); n != s {
				t.Error(s, kind, n)
			}
		}
	}
	few := fewEntries()
	for _, s := range fewStates() {
		for _, e := range few {
			if n := Next(s, e); n != nextOf(s, e) {
				t.Fatal(s, e, n, nextOf(s, e))
			}
		}
	}
}

// P6.2: behind all of them, and the level behind each, wherever one may not be.
func TestAll(t *testing.T) {
	roll := dice(6)
	starts := []api.State{
		First(), {}, {Index: 5, Term: 3, Sum: 99, Level: 2}, {Index: 5, Term: 3, Sum: top, Level: 2, Final: true}, {Index: 7, Term: 1, Level: 1},
		{Index: top - 3, Term: 1, Level: 1}, {Index: top, Term: 1, Level: 2}, {Index: 3, Level: 77}, {Index: 3, Term: 1, Level: -5, Final: true},
	}
	for many := range 80 {
		for _, start := range starts {
			l := row(roll, many)
			s, levels := start, []int{}
			for _, e := range l {
				s = nextOf(s, e)
				levels = append(levels, s.Level)
			}
			if a := All(start, l...); a != s {
				t.Fatal(start, l, a, s)
			}
			if a := Levels(start, l...); !slices.Equal(a, levels) {
				t.Fatal(start, l, a, levels)
			}
		}
	}
	for _, s := range fewStates() {
		if a := All(s); a != s {
			t.Error(s, a)
		}
		if a := All(s, []api.Entry{}...); a != s {
			t.Error(s, a)
		}
		if a := Levels(s); len(a) != 0 {
			t.Error(s, a)
		}
		if a := Levels(s, []api.Entry{}...); len(a) != 0 {
			t.Error(s, a)
		}
	}
}

// P6.2: the chapter's example, levels by hand, and the last index of all.
func TestExamples(t *testing.T) {
	propose, revert, final := api.Entry{Term: 1, Kind: api.EnPropose}, api.Entry{Term: 1, Kind: api.EnRevert}, api.Entry{Term: 1, Kind: api.EnFinal}
	if s := All(First(), propose, final, revert); s != (api.State{Index: 3, Term: 1, Level: 2, Final: true}) {
		t.Error(s)
	}
	l := []api.Entry{{Term: 1}, propose, {Term: 1, Kind: api.EnData, Value: 3}, revert, final, {Term: 0, Kind: api.EnPropose}, propose, {Term: 1, Kind: 9}, final, revert}
	if levels := Levels(First(), l...); !slices.Equal(levels, []int{1, 2, 2, 1, 1, 1, 2, 2, 2, 2}) {
		t.Error(levels)
	}
	if levels := Levels(api.State{Level: 9}, propose, revert); !slices.Equal(levels, []int{9, 9}) {
		t.Error(levels)
	}
	end := api.State{Index: top - 1, Term: 1, Level: 1}
	if s := All(end, propose, final, revert); s != (api.State{Index: top, Term: 1, Level: 2}) {
		t.Error(s)
	}
	if levels := Levels(end, propose, revert, revert); !slices.Equal(levels, []int{2, 2, 2}) {
		t.Error(levels)
	}
}

// P6.3: what may be stays so, once final is for good, and two parts come to what all come to.
func TestFollows(t *testing.T) {
	roll := dice(63)
	var starts []api.State
	for _, s := range fewStates() {
		if Fine(s) {
			starts = append(starts, s)
		}
	}
	for _, start := range starts {
		for range 12 {
			l := row(roll, roll(24))
			s, final := start, start.Final
			for _, e := range l {
				s = Next(s, e)
				final = final || s.Final
				if !Fine(s) || s.Final != final || final && s.Level != 2 {
					t.Fatal(start, l, e, s)
				}
			}
			at := roll(len(l) + 1)
			ahead := All(start, l[:at]...)
			if a := All(ahead, l[at:]...); a != s || All(start, l...) != s {
				t.Fatal(start, l, at, a, s)
			}
			levels := append(Levels(start, l[:at]...), Levels(ahead, l[at:]...)...)
			if !slices.Equal(levels, Levels(start, l...)) {
				t.Fatal(start, l, at, levels)
			}
			if start.Final && slices.ContainsFunc(levels, func(n int) bool { return n != 2 }) {
				t.Fatal(start, l, levels)
			}
		}
	}
}

// R4: what is handed in stays as it was, spare room too, and shares no memory with answers.
func TestMemory(t *testing.T) {
	room := []api.Entry{{Term: 1, Kind: api.EnData, Value: 4}, {Term: 1, Kind: api.EnPropose}, {Term: -1}, {Term: 2, Kind: api.EnRevert}, {Term: 9, Kind: 9, Value: 9}}
	was := slices.Clone(room)
	l := room[:4]
	a, b := Levels(First(), l...), Levels(First(), l...)
	for i := range a {
		a[i] = 99
	}
	_ = append(a, 98, 97)
	s := All(First(), l...)
	if !slices.Equal(room, was) {
		t.Error("what was handed in is another:", room)
	}
	if !slices.Equal(b, []int{1, 2, 2, 1}) || s != (api.State{Index: 3, Term: 2, Sum: 5, Level: 1}) {
		t.Error("an answer changed another:", b, s)
	}
}

// R4: states are told by an iterator that may be left early and gone over again.
func TestStatesAgain(t *testing.T) {
	l := []api.Entry{{Term: 1}, {Term: 2, Kind: api.EnPropose}, {Term: 2, Kind: api.EnFinal}}
	all := states(First(), l...)
	for s := range all {
		if s != (api.State{Index: 1, Term: 1, Level: 1}) {
			t.Error(s)
		}
		break
	}
	for range 2 {
		told := slices.Collect(all)
		if !slices.Equal(told, []api.State{{Index: 1, Term: 1, Level: 1}, {Index: 2, Term: 2, Level: 2}, {Index: 3, Term: 2, Level: 2, Final: true}}) {
			t.Error(told)
		}
	}
}
