package tuple

import (
	"math"
	"math/big"
	"reflect"
	"slices"
	"testing"

	"moult/api"
	"moult/entry"
)

const (
	top  = 1073741824 // MaxNumber
	last = top - 1000 // a snapshot's index, at most
)

// edges are numbers at which something comes to it, and those beside them, and great ones.
func edges() []int {
	return []int{
		math.MinInt, math.MinInt + 1, -1 << 32, -1<<32 + 1, -top, -256, -3, -2, -1,
		0, 1, 2, 3, 4, 5, 6, 7, 8, 9, 10, 11, 12, 13, 199, 200, 201, 255, 256, 257,
		last - 1, last, last + 1, top - 801, top - 800, top - 799, top - 1, top, top + 1,
		1 << 31, 1 << 32, 1<<32 + 1, 1<<32 + 2, math.MaxInt - 2, math.MaxInt - 1, math.MaxInt,
	}
}

// value is an entry of that term, and a value.
func value(term, v int) api.Entry {
	return api.Entry{Term: term, Kind: api.EnData, Value: v}
}

// row is so many entries, all of that term.
func row(term, many int) []api.Entry {
	var l []api.Entry
	for i := range many {
		l = append(l, value(term, i))
	}
	return l
}

// some is a tuple at whose edges most comes to it: a snapshot at 7, entries 8 to 11, of terms 3, 3, 5, 5.
func some() api.Tuple {
	return api.Tuple{
		Snap: api.State{Index: 7, Term: 3, Sum: 9, Level: 2},
		Log:  []api.Entry{value(3, 1), {Term: 3, Kind: api.EnRevert}, {Term: 5}, value(5, 2)},
		Term: 6, Vote: 2,
	}
}

// good are tuples that may be: empty ones, full ones, at all edges.
func good() []api.Tuple {
	first, far := api.State{Level: 1}, api.State{Index: last, Term: 4, Sum: top, Level: 2, Final: true}
	return []api.Tuple{
		{Snap: first},
		{Snap: first, Log: []api.Entry{}, Vote: 5},
		{Snap: first, Term: top, Vote: 1},
		{Snap: first, Log: []api.Entry{{Term: 1}}, Term: 1, Vote: 1},
		{Snap: first, Log: []api.Entry{{Term: top}}, Term: top},
		{Snap: first, Log: []api.Entry{{Term: 1, Kind: api.EnPropose}, value(1, top), {Term: 2, Kind: api.EnFinal}}, Term: 2, Vote: 3},
		{Snap: api.State{Index: 1, Term: 1, Level: 1}, Term: 1},
		{Snap: api.State{Index: 1, Term: 2, Level: 2, Final: true}, Log: []api.Entry{value(2, 0)}, Term: 9, Vote: 5},
		some(),
		{Snap: far, Term: 4},
		{Snap: far, Log: []api.Entry{value(4, 1), {Term: 6}}, Term: 6, Vote: 4},
		{Snap: api.State{Index: last, Term: top, Level: 1}, Term: top, Vote: 5},
		{Snap: api.State{Index: last - 1, Term: 1, Level: 1}, Log: []api.Entry{{Term: 1}, {Term: 1}, {Term: 1}}, Term: 1},
		{Snap: first, Log: row(1, 199), Term: 2, Vote: 2},
		{Snap: first, Log: row(1, 200), Term: 1},
		{Snap: far, Log: append(row(4, 100), row(top, 100)...), Term: top, Vote: 2},
	}
}

// may tells by the chapter's words whether t may be.
func may(t api.Tuple) bool {
	within := func(n, low, high int) bool { return n >= low && n <= high }
	if !entry.Fine(t.Snap) || len(t.Log) > 200 {
		return false
	}
	ends := t.Snap.Term
	for i, e := range t.Log {
		falls := i == 0 && e.Term < t.Snap.Term || i > 0 && e.Term < t.Log[i-1].Term
		if !entry.Right(e) || falls {
			return false
		}
		ends = e.Term
	}
	return within(t.Term, 0, top) && t.Term >= ends && within(t.Vote, 0, 5) && t.Snap.Index <= last
}

// alike tells whether both are the same, field by field.
func alike(a, b api.Tuple) bool {
	if len(a.Log) == 0 && len(b.Log) == 0 {
		a.Log, b.Log = nil, nil
	}
	return reflect.DeepEqual(a, b)
}

// copied is t in memory of its own.
func copied(t api.Tuple) api.Tuple {
	t.Log = append([]api.Entry(nil), t.Log...)
	return t
}

// numberOf is the place of t's number at that place.
func numberOf(t *api.Tuple, at int) *int {
	own := []*int{&t.Snap.Index, &t.Snap.Term, &t.Snap.Sum, &t.Snap.Level, &t.Term, &t.Vote}
	if at < len(own) {
		return own[at]
	}
	e := &t.Log[(at-len(own))/3]
	return []*int{&e.Term, &e.Kind, &e.Value}[(at-len(own))%3]
}

// others are tuples of all kinds: such as may be, those with another number, and such as nothing makes.
func others() []api.Tuple {
	l := append(good(),
		api.Tuple{}, api.Tuple{Log: row(1, 3), Term: 1}, api.Tuple{Snap: api.State{Level: 1}, Log: row(1, 201), Term: 1},
		api.Tuple{Snap: api.State{Level: 1}, Log: row(1, 400), Term: 1}, api.Tuple{Snap: api.State{Level: 1}, Log: make([]api.Entry, 2), Term: 1},
		api.Tuple{Snap: api.State{Index: math.MaxInt, Term: 1, Level: 1}, Log: row(1, 3), Term: 1},
		api.Tuple{Snap: api.State{Index: math.MinInt, Term: 1, Level: 1}, Log: row(1, 3), Term: 1},
		api.Tuple{Snap: api.State{Index: -2, Term: 7, Level: 1}, Log: row(1, 4), Term: 1},
	)
	for _, t := range good() {
		if len(t.Log) > 10 {
			continue
		}
		for at := range 6 + 3*len(t.Log) {
			for _, n := range edges() {
				o := copied(t)
				*numberOf(&o, at) = n
				l = append(l, o)
			}
		}
		t.Snap.Final = !t.Snap.Final
		l = append(l, t)
	}
	return l
}

// farOf is how far behind Snap's Index i is, or -1, if it is not from there to the last index; in numbers that have no end.
func farOf(t api.Tuple, i int) int {
	d := new(big.Int).Sub(big.NewInt(int64(i)), big.NewInt(int64(t.Snap.Index)))
	if d.Sign() < 0 || d.Cmp(big.NewInt(int64(len(t.Log)))) > 0 {
		return -1
	}
	return int(d.Int64())
}

// P12.1: which tuples may be.
func TestRight(t *testing.T) {
	for i, x := range good() {
		if !Right(x) {
			t.Error(i, x)
		}
	}
	for i, does := range []func(x *api.Tuple){
		func(x *api.Tuple) { *x = api.Tuple{} },
		func(x *api.Tuple) { x.Snap.Level = 3 },
		func(x *api.Tuple) { x.Snap.Level, x.Snap.Final = 1, true },
		func(x *api.Tuple) { x.Snap.Index = last + 1 },
		func(x *api.Tuple) { x.Snap.Index = 0 },
		func(x *api.Tuple) { x.Snap.Term = 4 },
		func(x *api.Tuple) { x.Log[0].Term = 2 },
		func(x *api.Tuple) { x.Log[2].Term = 2 },
		func(x *api.Tuple) { x.Log[3].Term = 4 },
		func(x *api.Tuple) { x.Log[3].Term = 7 },
		func(x *api.Tuple) { x.Log[1].Value = 1 },
		func(x *api.Tuple) { x.Log[3].Kind = 5 },
		func(x *api.Tuple) { x.Log[3] = api.Entry{} },
		func(x *api.Tuple) { x.Term = 4 },
		func(x *api.Tuple) { x.Log, x.Term = nil, 2 },
		func(x *api.Tuple) { x.Term = -1 },
		func(x *api.Tuple) { x.Term = top + 1 },
		func(x *api.Tuple) { x.Vote = -1 },
		func(x *api.Tuple) { x.Vote = 6 },
		func(x *api.Tuple) { x.Log = row(5, 201) },
	} {
		x := some()
		does(&x)
		if Right(x) {
			t.Error(i, x)
		}
	}
	for i, x := range others() {
		if Right(x) != may(x) {
			t.Error(i, x, may(x))
		}
	}
}

// P12.1: the first one, which may be; the example.
func TestFirst(t *testing.T) {
	x := First()
	if !alike(x, api.Tuple{Snap: api.State{Level: 1}}) || !Right(x) || Last(x) != 0 {
		t.Error(x)
	}
}

// P12.1: the last index, of any tuple for which an int tells it.
func TestLast(t *testing.T) {
	if Last(some()) != 11 || Last(api.Tuple{Snap: api.State{Index: 7}}) != 7 || Last(api.Tuple{Log: row(1, 3)}) != 3 {
		t.Error(Last(some()))
	}
	for i, x := range others() {
		want := new(big.Int).Add(big.NewInt(int64(x.Snap.Index)), big.NewInt(int64(len(x.Log))))
		if n := Last(x); want.IsInt64() && n != int(want.Int64()) {
			t.Error(i, x, n)
		}
	}
}

// P12.1: terms and entries of indexes, worked out by hand.
func TestAt(t *testing.T) {
	x := some()
	for i, c := range map[int]struct {
		term int
		ok   bool
	}{6: {}, 7: {3, true}, 8: {3, true}, 9: {3, true}, 10: {5, true}, 11: {5, true}, 12: {}, 0: {}, -1: {}, 1: {}, math.MaxInt: {}, math.MinInt: {}} {
		if term, ok := TermAt(x, i); term != c.term || ok != c.ok {
			t.Error(i, term, ok)
		}
		e, ok := At(x, i)
		if ok != (i >= 8 && i <= 11) || ok && e != x.Log[i-8] || !ok && e != (api.Entry{}) {
			t.Error(i, e, ok)
		}
	}
	if term, ok := TermAt(First(), 0); term != 0 || !ok {
		t.Error(term, ok)
	}
}

// P12.1, P12.3: terms, entries and states of all indexes, of any tuple.
func TestAll(t *testing.T) {
	for k, x := range others() {
		asked := edges()
		for d := range 8 {
			asked = append(asked, x.Snap.Index+d-2, x.Snap.Index+len(x.Log)+d-2)
		}
		for _, i := range asked {
			far := farOf(x, i)
			term, told := x.Snap.Term, api.Entry{}
			state := x.Snap
			if far > 0 {
				told = x.Log[far-1]
				term = told.Term
				for _, e := range x.Log[:far] {
					state = entry.Next(state, e)
				}
			}
			if far < 0 {
				term, state = 0, api.State{}
			}
			if n, ok := TermAt(x, i); n != term || ok != (far >= 0) {
				t.Fatal(k, x, i, n, ok)
			}
			if e, ok := At(x, i); e != told || ok != (far > 0) {
				t.Fatal(k, x, i, e, ok)
			}
			if s, ok := State(x, i); s != state || ok != (far >= 0) {
				t.Fatal(k, x, i, s, ok)
			}
		}
	}
}

// P12.3: states, worked out by hand.
func TestState(t *testing.T) {
	x := some()
	for i, want := range map[int]api.State{
		7:  {Index: 7, Term: 3, Sum: 9, Level: 2},
		8:  {Index: 8, Term: 3, Sum: 281, Level: 2},
		9:  {Index: 9, Term: 3, Sum: 281, Level: 1},
		10: {Index: 10, Term: 5, Sum: 281, Level: 1},
		11: {Index: 11, Term: 5, Sum: 8714, Level: 1},
	} {
		if s, ok := State(x, i); s != want || !ok {
			t.Error(i, s, ok)
		}
	}
	for _, i := range []int{6, 12, 0, -1, 4, math.MaxInt, math.MinInt} {
		if s, ok := State(x, i); s != (api.State{}) || ok {
			t.Error(i, s, ok)
		}
	}
	if s, ok := State(First(), 0); s != entry.First() || !ok {
		t.Error(s, ok)
	}
}

// deed is something that is done to a tuple: does does it, by asks by the chapter's words, and tells what comes of it.
type deed struct {
	name string
	does func(t api.Tuple) (api.Tuple, api.Errno)
	asks func(t api.Tuple) (api.Tuple, bool)
}

// appendOf appends these.
func appendOf(l []api.Entry) deed {
	return deed{"append", func(t api.Tuple) (api.Tuple, api.Errno) { return Append(t, l...) }, func(t api.Tuple) (api.Tuple, bool) {
		ok := len(t.Log)+len(l) <= 200
		for i, e := range l {
			ahead := t.Snap.Term
			if i > 0 {
				ahead = l[i-1].Term
			} else if len(t.Log) > 0 {
				ahead = t.Log[len(t.Log)-1].Term
			}
			ok = ok && entry.Right(e) && e.Term >= ahead && e.Term <= t.Term
		}
		t.Log = slices.Concat(t.Log, l)
		return t, ok
	}}
}

// cutOf cuts from there.
func cutOf(from int) deed {
	return deed{"cut", func(t api.Tuple) (api.Tuple, api.Errno) { return Cut(t, from) }, func(t api.Tuple) (api.Tuple, bool) {
		o := copied(t)
		o.Log = nil
		for i, e := range t.Log {
			if t.Snap.Index+1+i < from {
				o.Log = append(o.Log, e)
			}
		}
		return o, from > t.Snap.Index && from <= t.Snap.Index+len(t.Log)+1
	}}
}

// behindOf is t with that snapshot, and the entries above it.
func behindOf(t api.Tuple, s api.State) api.Tuple {
	o := api.Tuple{Snap: s, Term: t.Term, Vote: t.Vote}
	for i, e := range t.Log {
		if t.Snap.Index+1+i > s.Index {
			o.Log = append(o.Log, e)
		}
	}
	return o
}

// is tells whether the term at s's Index is its Term.
func is(t api.Tuple, s api.State) bool {
	at := farOf(t, s.Index)
	return at == 0 && t.Snap.Term == s.Term || at > 0 && t.Log[at-1].Term == s.Term
}

// saveOf saves s.
func saveOf(s api.State) deed {
	return deed{"save", func(t api.Tuple) (api.Tuple, api.Errno) { return Save(t, s) }, func(t api.Tuple) (api.Tuple, bool) {
		return behindOf(t, s), entry.Fine(s) && is(t, s)
	}}
}

// installOf installs s.
func installOf(s api.State) deed {
	return deed{"install", func(t api.Tuple) (api.Tuple, api.Errno) { return Install(t, s) }, func(t api.Tuple) (api.Tuple, bool) {
		ok := entry.Fine(s) && s.Index > t.Snap.Index && s.Index <= last && s.Term <= t.Term
		if is(t, s) {
			return behindOf(t, s), ok
		}
		return api.Tuple{Snap: s, Term: t.Term, Vote: t.Vote}, ok
	}}
}

// hardOf sets these.
func hardOf(term, vote int) deed {
	return deed{"hard", func(t api.Tuple) (api.Tuple, api.Errno) { return Hard(t, term, vote) }, func(t api.Tuple) (api.Tuple, bool) {
		ok := term >= t.Term && term <= top && vote >= 0 && vote <= 5 && (term != t.Term || t.Vote == 0 || t.Vote == vote)
		t.Term, t.Vote = term, vote
		return t, ok
	}}
}

// hold fails, if a deed does something else than what the chapter's words say.
func hold(t *testing.T, x api.Tuple, d deed) (done bool) {
	t.Helper()
	ahead := copied(x)
	var want api.Tuple
	ok := may(x)
	if ok {
		want, ok = d.asks(copied(x))
	}
	ok = ok && may(want)
	got, e := d.does(x)
	if !ok && (e != api.ErrArg || !alike(got, ahead)) || ok && (e != api.OK || !alike(got, want)) || !alike(x, ahead) {
		t.Errorf("%s of %v: %v, %d; asked: %v, %v", d.name, ahead, got, e, want, ok)
	}
	return ok
}

// around are numbers near t's own ones, beside the edges.
func around(x api.Tuple) []int {
	l := edges()
	for _, n := range []int{x.Snap.Index, x.Snap.Term, x.Snap.Index + len(x.Log), x.Term, x.Vote} {
		l = append(l, n-1, n, n+1, n+2)
	}
	return l
}

// appends are such as may be, and such as may not.
func appends(x api.Tuple) []deed {
	l := []deed{appendOf(nil), appendOf([]api.Entry{})}
	for _, n := range around(x) {
		for _, many := range []int{1, 2, 3} {
			l = append(l, appendOf(row(n, many)))
		}
		l = append(l, appendOf(append(row(n, 2), value(n+1, 1))), appendOf(append(row(n, 2), value(n-1, 1))))
		l = append(l, appendOf([]api.Entry{{Term: x.Term, Kind: n}}), appendOf([]api.Entry{value(x.Term, n)}), appendOf([]api.Entry{value(x.Term, 1), {Term: x.Term, Value: n}}))
	}
	for _, many := range []int{199 - len(x.Log), 200 - len(x.Log), 201 - len(x.Log), 200, 201, 1000} {
		l = append(l, appendOf(row(x.Term, many)))
	}
	return l
}

// states are such as may be, and such as may not.
func states(x api.Tuple) []api.State {
	var l []api.State
	for _, n := range around(x) {
		l = append(l, api.State{Index: n, Term: x.Term, Level: 1}, api.State{Index: n, Term: x.Snap.Term, Sum: 5, Level: 2, Final: true}, api.State{Index: x.Snap.Index, Term: n, Level: 1})
		l = append(l, api.State{Index: x.Snap.Index + 1, Term: n, Level: 2}, api.State{Index: x.Snap.Index + 1, Term: x.Term, Level: n}, api.State{Index: last, Term: n, Level: 1})
		l = append(l, api.State{Index: x.Snap.Index + len(x.Log), Term: x.Term, Sum: n, Level: 1}, api.State{Index: x.Snap.Index + len(x.Log) + 1, Term: n, Level: 1})
		if s, ok := State(x, n); ok {
			other := s
			other.Sum, other.Level = 77, 2
			l = append(l, s, other, api.State{Index: s.Index, Term: s.Term, Level: 1, Final: true}, api.State{Index: s.Index, Term: s.Term + 1, Level: 1}, api.State{Index: s.Index, Term: s.Term - 1, Level: 1})
		}
	}
	return append(l, api.State{}, api.State{Level: 1}, api.State{Level: 2})
}

// P12.2: what is done, of all arguments at edges, to tuples that may be.
func TestDone(t *testing.T) {
	did := map[string][2]int{}
	for _, x := range good() {
		l := appends(x)
		for _, n := range around(x) {
			l = append(l, cutOf(n))
			for _, vote := range edges() {
				l = append(l, hardOf(n, vote))
			}
			l = append(l, hardOf(x.Term, n), hardOf(x.Term+1, n))
		}
		for _, s := range states(x) {
			l = append(l, saveOf(s), installOf(s))
		}
		for _, d := range l {
			n := did[d.name]
			if hold(t, x, d) {
				n[0]++
			} else {
				n[1]++
			}
			did[d.name] = n
		}
	}
	for _, name := range []string{"append", "cut", "save", "install", "hard"} {
		if n := did[name]; n[0] < 40 || n[1] < 40 {
			t.Error(name, "was seldom done, or seldom not:", n)
		}
	}
}

// P12.2: of a tuple that may not be ErrArg, and the tuple as it is, whatever is to be done.
func TestDoneWrong(t *testing.T) {
	asked := 0
	for _, x := range others() {
		if may(x) {
			continue
		}
		asked++
		s := x.Snap
		for _, d := range []deed{
			appendOf(nil), appendOf(row(x.Term, 1)), cutOf(x.Snap.Index + 1), cutOf(x.Snap.Index + len(x.Log) + 1), saveOf(s), saveOf(api.State{Level: 1}),
			installOf(api.State{Index: s.Index + 1, Term: max(1, x.Term), Level: 1}), installOf(api.State{Index: 300, Term: 1, Level: 1}), hardOf(x.Term, x.Vote), hardOf(max(x.Term, 0)+1, 1), hardOf(top, 0),
		} {
			hold(t, x, d)
		}
	}
	if asked < 1000 {
		t.Error("few were asked:", asked)
	}
}

// P12.2: what would mend a tuple that may not be is not done, either.
func TestNotMended(t *testing.T) {
	x := some()
	x.Log[3].Term = 4
	first := api.State{Level: 1}
	for i, c := range []struct {
		x api.Tuple
		d deed
	}{
		{x, cutOf(11)}, {x, cutOf(8)}, {x, installOf(api.State{Index: 50, Term: 6, Level: 1})}, {x, saveOf(api.State{Index: 11, Term: 4, Level: 1})},
		{api.Tuple{Snap: first, Log: row(1, 201), Term: 1}, cutOf(2)}, {api.Tuple{Snap: first, Log: row(1, 201), Term: 1}, saveOf(api.State{Index: 9, Term: 1, Level: 1})},
		{api.Tuple{Snap: first, Log: row(5, 1), Term: 1}, hardOf(5, 0)}, {api.Tuple{Snap: first, Term: -1}, hardOf(5, 0)}, {api.Tuple{Snap: first, Vote: 9}, hardOf(5, 0)}, {api.Tuple{Snap: first, Vote: -1}, hardOf(1, 1)},
		{api.Tuple{}, saveOf(first)}, {api.Tuple{}, installOf(api.State{Index: 1, Term: 1, Level: 1})}, {api.Tuple{Snap: api.State{Index: 3, Term: 2}, Term: 2}, saveOf(api.State{Index: 3, Term: 2, Level: 1})},
	} {
		if hold(t, c.x, c.d) {
			t.Error(i)
		}
	}
}

// told fails, if what is told is not this.
func told(t *testing.T, what string, got api.Tuple, e api.Errno, want api.Tuple, f api.Errno) {
	t.Helper()
	if e != f || !alike(got, want) {
		t.Errorf("%s: %v, %d", what, got, e)
	}
}

// P12.2: Append and Cut, worked out by hand.
func TestAppendCut(t *testing.T) {
	x := some()
	to := some()
	to.Log = append(to.Log, value(5, 7), api.Entry{Term: 6, Kind: api.EnFinal})
	y, e := Append(x, value(5, 7), api.Entry{Term: 6, Kind: api.EnFinal})
	told(t, "two", y, e, to, api.OK)
	y, e = Append(x)
	told(t, "none", y, e, x, api.OK)
	for what, l := range map[string][]api.Entry{
		"term falls from the last one's": {value(4, 1)}, "term falls": {value(6, 1), value(5, 1)}, "term above": {value(7, 1)}, "the last term above": {value(6, 1), value(7, 1)},
		"no term": {{}}, "no kind": {{Term: 6, Kind: 5}}, "a value of a noop": {{Term: 6, Value: 1}}, "the second one may not be": {value(6, 1), value(6, -1)}, "too many": row(6, 197),
	} {
		y, e = Append(x, l...)
		told(t, what, y, e, x, api.ErrArg)
	}
	y, e = Append(x, row(6, 196)...)
	if e != api.OK || len(y.Log) != 200 || Last(y) != 207 {
		t.Error("as many as may be:", e)
	}
	empty := api.Tuple{Snap: api.State{Index: 2, Term: 3, Level: 1}, Term: 4}
	y, e = Append(empty, value(2, 1))
	told(t, "term falls from the snapshot's", y, e, empty, api.ErrArg)
	y, e = Append(empty, value(3, 1))
	told(t, "the snapshot's term", y, e, api.Tuple{Snap: empty.Snap, Log: row(3, 2)[1:], Term: 4}, api.OK)
	for from, left := range map[int]int{8: 0, 9: 1, 11: 3, 12: 4} {
		y, e = Cut(x, from)
		to = some()
		to.Log = to.Log[:left]
		told(t, "cut", y, e, to, api.OK)
	}
	for _, from := range []int{7, 13, 0, -1, math.MinInt, math.MaxInt} {
		y, e = Cut(x, from)
		told(t, "no cut", y, e, x, api.ErrArg)
	}
	y, e = Cut(First(), 1)
	told(t, "cut of nothing", y, e, First(), api.OK)
}

// P12.2: Save and Install, worked out by hand.
func TestSaveInstall(t *testing.T) {
	x := some()
	with := func(s api.State, l []api.Entry) api.Tuple { return api.Tuple{Snap: s, Log: l, Term: 6, Vote: 2} }
	for _, c := range []struct {
		s             api.State
		save, install api.Errno
		l             []api.Entry
	}{
		{api.State{Index: 7, Term: 3, Sum: 1, Level: 1}, api.OK, api.ErrArg, x.Log},
		{api.State{Index: 8, Term: 3, Sum: 1, Level: 1}, api.OK, api.OK, x.Log[1:]},
		{api.State{Index: 10, Term: 5, Level: 2, Final: true}, api.OK, api.OK, x.Log[3:]},
		{api.State{Index: 11, Term: 5, Level: 2}, api.OK, api.OK, nil},
		{api.State{Index: 10, Term: 4, Level: 2}, api.ErrArg, api.OK, nil},
		{api.State{Index: 8, Term: 6, Level: 2}, api.ErrArg, api.OK, nil},
		{api.State{Index: 9, Term: 1, Level: 2}, api.ErrArg, api.OK, nil},
		{api.State{Index: 12, Term: 5, Level: 2}, api.ErrArg, api.OK, nil},
		{api.State{Index: last, Term: 6, Level: 2}, api.ErrArg, api.OK, nil},
		{api.State{Index: last + 1, Term: 6, Level: 2}, api.ErrArg, api.ErrArg, nil},
		{api.State{Index: 12, Term: 7, Level: 2}, api.ErrArg, api.ErrArg, nil},
		{api.State{Index: 10, Term: 5, Level: 3}, api.ErrArg, api.ErrArg, nil},
		{api.State{Index: 12, Term: 5, Level: 1, Final: true}, api.ErrArg, api.ErrArg, nil},
		{api.State{Index: 7, Term: 4, Level: 1}, api.ErrArg, api.ErrArg, nil},
		{api.State{Index: 6, Term: 3, Level: 1}, api.ErrArg, api.ErrArg, nil},
		{api.State{Level: 1}, api.ErrArg, api.ErrArg, nil},
		{api.State{}, api.ErrArg, api.ErrArg, nil},
	} {
		to := map[api.Errno]api.Tuple{api.OK: with(c.s, c.l), api.ErrArg: x}
		y, e := Save(x, c.s)
		told(t, "save", y, e, to[c.save], c.save)
		y, e = Install(x, c.s)
		told(t, "install", y, e, to[c.install], c.install)
	}
	y, e := Save(First(), entry.First())
	told(t, "save of the first one", y, e, First(), api.OK)
	// The entries come to indexes that a snapshot's may not be.
	far := api.Tuple{Snap: api.State{Index: last - 1, Term: 1, Level: 1}, Log: row(1, 2), Term: 1}
	y, e = Save(far, api.State{Index: last, Term: 1, Level: 1})
	told(t, "save at the last index of all", y, e, api.Tuple{Snap: api.State{Index: last, Term: 1, Level: 1}, Log: row(1, 2)[1:], Term: 1}, api.OK)
	y, e = Save(far, api.State{Index: last + 1, Term: 1, Level: 1})
	told(t, "save above it", y, e, far, api.ErrArg)
	y, e = Install(far, api.State{Index: last + 1, Term: 1, Level: 1})
	told(t, "install above it", y, e, far, api.ErrArg)
}

// P12.2: Hard, worked out by hand.
func TestHard(t *testing.T) {
	for _, c := range []struct {
		vote, term, to int
		e              api.Errno
	}{
		{2, 6, 2, api.OK}, {2, 6, 0, api.ErrArg}, {2, 6, 3, api.ErrArg}, {0, 6, 0, api.OK}, {0, 6, 1, api.OK}, {0, 6, 5, api.OK}, {0, 6, 6, api.ErrArg}, {0, 6, -1, api.ErrArg},
		{2, 7, 0, api.OK}, {2, 7, 3, api.OK}, {2, 7, 6, api.ErrArg}, {2, 7, -1, api.ErrArg}, {2, top, 1, api.OK}, {2, top + 1, 1, api.ErrArg}, {2, math.MaxInt, 1, api.ErrArg},
		{2, 5, 2, api.ErrArg}, {0, 5, 0, api.ErrArg}, {2, -1, 2, api.ErrArg}, {2, math.MinInt, 0, api.ErrArg}, {2, 1<<32 + 6, 2, api.ErrArg},
	} {
		x := some()
		x.Vote = c.vote
		to := x
		if c.e == api.OK {
			to.Term, to.Vote = c.term, c.to
		}
		y, e := Hard(x, c.term, c.to)
		told(t, "hard", y, e, to, c.e)
	}
}

// P12.1: the same in all, or unlike in one number; nil and empty mean the same.
func TestSame(t *testing.T) {
	for i, x := range good() {
		if !Same(x, x) || !Same(x, copied(x)) || !Same(Own(x), x) || !alike(Own(x), x) {
			t.Error(i, x)
		}
		for at := range 6 + 3*len(x.Log) {
			o := copied(x)
			*numberOf(&o, at)++
			if Same(x, o) || Same(o, x) {
				t.Error(i, at)
			}
		}
		o := copied(x)
		o.Snap.Final = !o.Snap.Final
		more := copied(x)
		more.Log = append(more.Log, api.Entry{})
		if Same(x, o) || Same(x, more) || Same(more, x) {
			t.Error(i, x)
		}
	}
	if !Same(api.Tuple{}, api.Tuple{Log: []api.Entry{}}) || !Same(api.Tuple{Log: []api.Entry{}}, api.Tuple{}) {
		t.Error("nil and empty")
	}
	for i, x := range others() {
		if !alike(Own(x), x) || !Same(x, Own(x)) {
			t.Error(i, x)
		}
	}
}

// P12.1, P12.2: what is handed in stays, spare room behind it included, and is not kept; answers share nothing.
func TestMemory(t *testing.T) {
	spoil := func(l []api.Entry) {
		for i := range l[:cap(l)] {
			l[:cap(l)][i] = value(99, 99)
		}
	}
	for i, x := range append(good(), api.Tuple{Log: row(1, 3)}) {
		room := append(slices.Clone(x.Log), value(1, 77), value(1, 78), value(1, 79))
		before := slices.Clone(room)
		x.Log = room[:len(x.Log)]
		more := append(row(x.Term, 2), value(1, 80))
		same := slices.Clone(more)
		deeds := []func() api.Tuple{
			func() api.Tuple { return Own(x) },
			func() api.Tuple { y, _ := Append(x, more[:2]...); return y },
			func() api.Tuple { y, _ := Append(x); return y },
			func() api.Tuple { y, _ := Append(x, api.Entry{}); return y },
			func() api.Tuple { y, _ := Cut(x, Last(x)); return y },
			func() api.Tuple { y, _ := Cut(x, Last(x)+1); return y },
			func() api.Tuple { y, _ := Cut(x, -1); return y },
			func() api.Tuple { y, _ := Save(x, x.Snap); return y },
			func() api.Tuple { y, _ := Save(x, api.State{}); return y },
			func() api.Tuple { s, _ := State(x, x.Snap.Index+1); y, _ := Save(x, s); return y },
			func() api.Tuple { s, _ := State(x, x.Snap.Index+1); y, _ := Install(x, s); return y },
			func() api.Tuple { y, _ := Install(x, api.State{}); return y },
			func() api.Tuple { y, _ := Hard(x, top, 1); return y },
			func() api.Tuple { y, _ := Hard(x, -1, 1); return y },
		}
		for k, does := range deeds {
			y, z := does(), does()
			kept := copied(z)
			spoil(y.Log)
			if !slices.Equal(room, before) || !slices.Equal(more, same) || !alike(z, kept) {
				t.Fatal(i, k, "changed, or shared")
			}
			clear(room)
			clear(more)
			if !alike(z, kept) {
				t.Fatal(i, k, "kept")
			}
			copy(room, before)
			copy(more, same)
		}
		Right(x)
		Same(x, x)
		State(x, Last(x))
		if !slices.Equal(room, before) {
			t.Error(i, "changed")
		}
	}
}

// P12.4: behind whatever is done a tuple may be; what is cut is the end; states above are the same, saved or not.
func TestWalk(t *testing.T) {
	seed := uint64(12)
	chance := func(n int) int {
		seed = seed*6364136223846793005 + 1442695040888963407
		return int(seed >> 33 % uint64(n))
	}
	done := 0
	for range 60 {
		x := First()
		for range 200 {
			from := x.Snap.Index + chance(len(x.Log)+3) - 1
			s, there := State(x, from)
			d := []deed{
				appendOf(row(x.Term+chance(2)-chance(2), chance(9))), appendOf(row(x.Term, chance(5))), appendOf([]api.Entry{{Term: x.Term, Kind: chance(6)}}),
				cutOf(from), saveOf(s), hardOf(x.Term+chance(3)-1, chance(7)-1),
				installOf(api.State{Index: from + chance(3), Term: s.Term + chance(2), Level: 1 + chance(2)}),
			}[chance(7)]
			if hold(t, x, d) {
				done++
			}
			y, e := d.does(x)
			if !Right(y) || e != api.OK && !alike(x, y) {
				t.Fatal(d.name, x, y, e)
			}
			if d.name == "cut" && e == api.OK && (y.Snap != x.Snap || !slices.Equal(y.Log, x.Log[:from-x.Snap.Index-1])) {
				t.Fatal(x, from, y)
			}
			if d.name == "save" && there {
				sameAbove(t, x, y, from)
			}
			x = y
		}
	}
	if done < 3000 {
		t.Error("little was done:", done)
	}
}

// sameAbove fails, if a state of an index from there on is not the same in both.
func sameAbove(t *testing.T, x, y api.Tuple, from int) {
	t.Helper()
	if y.Snap.Index != from || Last(x) != Last(y) {
		t.Fatal("not saved:", x, y, from)
	}
	for i := from; i <= Last(x)+1; i++ {
		a, is := State(x, i)
		b, also := State(y, i)
		if a != b || is != also {
			t.Fatal(x, y, i)
		}
	}
}
