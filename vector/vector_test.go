package vector_test

import (
	"bytes"
	"encoding/binary"
	"fmt"
	"math"
	"math/rand"
	"slices"
	"testing"

	"biscotti/api"
	"biscotti/pack"
	"biscotti/vector"
)

// The greatest numbers that may be, and the most marks, by the document's words.
const (
	lastDev  = 63
	lastInc  = 1 << 20
	lastSeq  = 1 << 32
	mostHere = 4096
)

// by is an actor, of is a dot, and mark is a mark.
func by(dev, inc int) api.Actor {
	return api.Actor{Dev: dev, Inc: inc}
}

func of(dev, inc, seq int) api.Dot {
	return api.Dot{A: by(dev, inc), Seq: seq}
}

func mark(dev, inc, seq int) api.Mark {
	return api.Mark{A: by(dev, inc), Seq: seq}
}

// ends are the ends of what numbers may be, and of an int, with what lies on either side.
func ends() []int {
	l := []int{math.MinInt, math.MinInt + 1, math.MinInt32, -lastSeq, -lastInc, math.MaxInt32, math.MaxInt - 1, math.MaxInt}
	for _, near := range []int{0, lastDev, lastInc, lastSeq, 2 * lastSeq} {
		for by := -2; by <= 2; by++ {
			l = append(l, near+by)
		}
	}
	slices.Sort(l)
	return slices.Compact(l)
}

// endMarks are marks of all those numbers.
func endMarks() []api.Mark {
	var l []api.Mark
	for _, dev := range ends() {
		for _, inc := range ends() {
			for _, seq := range ends() {
				l = append(l, mark(dev, inc, seq))
			}
		}
	}
	return l
}

// within tells whether n is one of the numbers from one to another one.
func within(n, from, to int) bool {
	return min(max(n, from), to) == n
}

// mayBe tells by the words of the chapter, and of layer 16, whether a mark's actor and its number may be.
func mayBe(m api.Mark) bool {
	return within(m.A.Dev, 0, lastDev) && within(m.A.Inc, 1, lastInc) && within(m.Seq, 1, lastSeq)
}

// rank is by layer 16's words a text that is less than another one's just where the actor is ahead.
func rank(a api.Actor) string {
	return fmt.Sprintf("%016x%016x", uint64(a.Dev)+1<<63, uint64(a.Inc)+1<<63)
}

// checked tells by the chapter's words what Check answers.
func checked(l []api.Mark) api.Errno {
	if len(l) >= mostHere+1 {
		return api.ErrLong
	}
	ahead := ""
	for _, m := range l {
		switch {
		case !mayBe(m):
			return api.ErrRange
		case rank(m.A) <= ahead:
			return api.ErrOrder
		}
		ahead = rank(m.A)
	}
	return api.OK
}

// told is what a vector is by the chapter's words, told another way: numbers, found by their actors' ranks.
type told map[string]api.Mark

// tell is what is told of marks, whatever their order.
func tell(l ...api.Mark) told {
	k := told{}
	for _, m := range l {
		k[rank(m.A)] = m
	}
	return k
}

// number is the actor's number.
func (k told) number(a api.Actor) int {
	return k[rank(a)].Seq
}

// has is by the chapter's words whether there is a dot.
func (k told) has(d api.Dot) bool {
	return mayBe(api.Mark(d)) && !(k.number(d.A) < d.Seq)
}

// raise is by the chapter's words what Raise does, and answers.
func (k told) raise(a api.Actor, n int) bool {
	m := api.Mark{A: a, Seq: n}
	if mayBe(m) && n > k.number(a) {
		k[rank(a)] = m
		return true
	}
	return false
}

// take is by the chapter's words what Take does, and answers.
func (k told) take(d api.Dot) bool {
	next := k.number(d.A) + 1
	if mayBe(api.Mark(d)) && d.Seq == next {
		k[rank(d.A)] = api.Mark(d)
		return true
	}
	return false
}

// marks are the marks, in order.
func (k told) marks() []api.Mark {
	var ranks []string
	for s := range k {
		ranks = append(ranks, s)
	}
	slices.Sort(ranks)
	l := []api.Mark{}
	for _, s := range ranks {
		l = append(l, k[s])
	}
	return l
}

// sum is all numbers together.
func (k told) sum() int {
	n := 0
	for _, m := range k.marks() {
		n += m.Seq
	}
	return n
}

// either are the marks of all actors of both, with the number that is chosen of both's; there is none of 0.
func either(k, o told, choose func(x, y int) int) told {
	all := told{}
	for _, one := range []told{k, o} {
		for s, m := range one {
			m.Seq = choose(k[s].Seq, o[s].Seq)
			if m.Seq > 0 {
				all[s] = m
			}
		}
	}
	return all
}

func lesser(x, y int) int {
	if x < y {
		return x
	}
	return y
}

func greater(x, y int) int {
	if x < y {
		return y
	}
	return x
}

// covers is by the chapter's words whether one covers another one.
func (k told) covers(o told) bool {
	for s, m := range o {
		if m.Seq > k[s].Seq {
			return false
		}
	}
	return true
}

// must is the vector of marks that may be.
func must(t *testing.T, l ...api.Mark) *vector.Vector {
	t.Helper()
	v, e := vector.Of(l)
	if e != api.OK {
		t.Fatalf("Of(%v): %v", l, e)
	}
	return v
}

// hold holds what a vector tells of itself against what is wanted.
func hold(t *testing.T, what string, v *vector.Vector, want told) {
	t.Helper()
	if got := v.Marks(); !slices.Equal(got, want.marks()) {
		t.Fatalf("%s: the marks are %v, not %v", what, got, want.marks())
	}
	if n := v.Sum(); n != want.sum() {
		t.Fatalf("%s: the sum is %d, not %d", what, n, want.sum())
	}
	for _, m := range want {
		if n := v.Get(m.A); n != m.Seq {
			t.Fatalf("%s: the number of %v is %d, not %d", what, m.A, n, m.Seq)
		}
	}
}

// holdEmpty holds that a vector has no numbers.
func holdEmpty(t *testing.T, what string, v *vector.Vector) {
	t.Helper()
	hold(t, what, v, tell())
	for _, m := range []api.Mark{mark(0, 1, 1), mark(lastDev, lastInc, lastSeq), {}, mark(-1, -1, -1)} {
		if v.Get(m.A) != 0 || v.Has(api.Dot(m)) {
			t.Fatalf("%s: it has %v", what, m)
		}
	}
}

// pick draws one of the list.
func pick[T any](r *rand.Rand, l []T) T {
	return l[r.Intn(len(l))]
}

// someActors are actors that may be, so few that drawn ones are often the same.
func someActors() []api.Actor {
	return []api.Actor{by(0, 1), by(0, 2), by(0, 10), by(0, lastInc), by(1, 1), by(1, 9), by(2, 1), by(10, 1), by(lastDev, 1), by(lastDev, lastInc)}
}

// drawn answers marks that may be, in order, of some of the actors.
func drawn(r *rand.Rand) []api.Mark {
	k := told{}
	seqs := []int{1, 2, 3, 4, 5, 127, 128, math.MaxInt32, lastSeq - 1, lastSeq}
	for range r.Intn(12) {
		a := pick(r, someActors())
		k[rank(a)] = api.Mark{A: a, Seq: pick(r, seqs)}
	}
	return k.marks()
}

// long answers n marks in order, of lives behind one another.
func long(n int) []api.Mark {
	var l []api.Mark
	for i := range n {
		l = append(l, mark(i*64/max(n, 1), 1+i, 1+i*i))
	}
	return l
}

func TestP17_1New(t *testing.T) {
	one, other := vector.New(), vector.New()
	if one == nil || other == nil {
		t.Fatal("none")
	}
	holdEmpty(t, "a new one", one)
	if !one.Raise(by(0, 1), 1) {
		t.Error("it was not raised")
	}
	holdEmpty(t, "another new one", other)
}

// wrongs are marks that may not be, or are not in order, with their error.
func wrongs() map[string]struct {
	l []api.Mark
	e api.Errno
} {
	type wrong = struct {
		l []api.Mark
		e api.Errno
	}
	return map[string]wrong{
		"a number of 0":               {[]api.Mark{mark(0, 1, 0)}, api.ErrRange},
		"a number below 0":            {[]api.Mark{mark(0, 1, -1)}, api.ErrRange},
		"a number above the last":     {[]api.Mark{mark(0, 1, 4294967297)}, api.ErrRange},
		"a life of 0":                 {[]api.Mark{mark(0, 0, 1)}, api.ErrRange},
		"a life below 0":              {[]api.Mark{mark(0, -1, 1)}, api.ErrRange},
		"a life above the last":       {[]api.Mark{mark(0, 1048577, 1)}, api.ErrRange},
		"a device below 0":            {[]api.Mark{mark(-1, 1, 1)}, api.ErrRange},
		"a device above the last":     {[]api.Mark{mark(64, 1, 1)}, api.ErrRange},
		"nothing but zero":            {[]api.Mark{{}}, api.ErrRange},
		"the least int":               {[]api.Mark{mark(math.MinInt, math.MinInt, math.MinInt)}, api.ErrRange},
		"the greatest int":            {[]api.Mark{mark(math.MaxInt, math.MaxInt, math.MaxInt)}, api.ErrRange},
		"a wrong one at the end":      {[]api.Mark{mark(0, 1, 1), mark(0, 2, 1), mark(1, 1, 0)}, api.ErrRange},
		"lives that fall":             {[]api.Mark{mark(0, 2, 1), mark(0, 1, 1)}, api.ErrOrder},
		"devices that fall":           {[]api.Mark{mark(1, 1, 1), mark(0, 2, 2)}, api.ErrOrder},
		"devices that fall to 0":      {[]api.Mark{mark(10, 1, 1), mark(9, 20, 1)}, api.ErrOrder},
		"twice the same":              {[]api.Mark{mark(3, 1, 7), mark(3, 1, 7)}, api.ErrOrder},
		"twice with a greater number": {[]api.Mark{mark(3, 1, 7), mark(3, 1, 8)}, api.ErrOrder},
		"twice with a lesser number":  {[]api.Mark{mark(3, 1, 7), mark(3, 1, 6)}, api.ErrOrder},
		"the last two fall":           {[]api.Mark{mark(0, 1, 1), mark(2, 1, 1), mark(1, 1, 1)}, api.ErrOrder},
		"the last one is the first":   {[]api.Mark{mark(0, 1, 1), mark(1, 1, 1), mark(2, 1, 1), mark(0, 1, 1)}, api.ErrOrder},
		// Mark by mark, and of one mark its range ahead.
		"order, then range":            {[]api.Mark{mark(1, 1, 1), mark(0, 1, 1), mark(2, 1, 0)}, api.ErrOrder},
		"range, then order":            {[]api.Mark{mark(1, 1, 0), mark(0, 1, 1)}, api.ErrRange},
		"range and order of one":       {[]api.Mark{mark(1, 1, 1), mark(0, 1, 0)}, api.ErrRange},
		"range and twice of one":       {[]api.Mark{mark(1, 1, 1), mark(1, 1, 0)}, api.ErrRange},
		"a device below 0 at the end":  {[]api.Mark{mark(0, 1, 1), mark(-1, 1, 1)}, api.ErrRange},
		"one mark too many":            {long(4097), api.ErrLong},
		"too many, and one is wrong":   {append(long(4096), api.Mark{}), api.ErrLong},
		"too many, the first is wrong": {append([]api.Mark{{}}, long(4096)...), api.ErrLong},
		"too many, out of order":       {append(long(4096), mark(0, 1, 1)), api.ErrLong},
		"far too many":                 {make([]api.Mark, 100000), api.ErrLong},
		"4096, the last one is wrong":  {append(long(4095), mark(lastDev, lastInc, 0)), api.ErrRange},
		"4096, the last one is behind": {append(long(4095), mark(0, 1, 1)), api.ErrOrder},
	}
}

// rights are marks that may be.
func rights() [][]api.Mark {
	return [][]api.Mark{
		nil,
		{},
		{mark(0, 1, 1)},
		{mark(3, 1, 7)},
		{mark(63, 1048576, 4294967296)},
		{mark(0, 1, 4294967296), mark(0, 2, 1)},
		{mark(0, 1, 9), mark(0, 2, 8), mark(0, 10, 7), mark(1, 1, 6), mark(2, 1, 5), mark(10, 1, 4)},
		{mark(0, 1048576, 1), mark(1, 1, 1), mark(63, 1, 1), mark(63, 1048576, 1)},
		long(1), long(2), long(63), long(64), long(1000), long(4095), long(4096),
	}
}

func TestP17_1Check(t *testing.T) {
	for _, l := range rights() {
		if e := vector.Check(l); e != api.OK {
			t.Errorf("%d marks %v: %v", len(l), l, e)
		}
	}
	for what, c := range wrongs() {
		if e := vector.Check(c.l); e != c.e {
			t.Errorf("%s: %v, not %v", what, e, c.e)
		}
	}
}

func TestP17_1CheckAtTheEnds(t *testing.T) {
	for _, m := range endMarks() {
		for _, l := range [][]api.Mark{{m}, {mark(5, 5, 5), m}, {m, mark(5, 5, 5)}} {
			if e := vector.Check(l); e != checked(l) {
				t.Fatalf("Check(%v): %v, not %v", l, e, checked(l))
			}
		}
	}
}

func TestP17_1CheckOfDrawnMarks(t *testing.T) {
	r := rand.New(rand.NewSource(171))
	numbers := []int{1, 1, 1, 1, 1, 2, 2, 3, 4, 5, 0, 64}
	met := map[api.Errno]int{}
	for range 200000 {
		var l []api.Mark
		for range r.Intn(5) {
			l = append(l, mark(pick(r, numbers), pick(r, numbers), pick(r, numbers)))
		}
		if r.Intn(2) == 0 {
			slices.SortFunc(l, func(x, y api.Mark) int { return x.A.Dev - y.A.Dev })
		}
		was := slices.Clone(l)
		want := checked(l)
		if e := vector.Check(l); e != want {
			t.Fatalf("Check(%v): %v, not %v", l, e, want)
		}
		v, e := vector.Of(l)
		if e != want || (v == nil) != (e != api.OK) {
			t.Fatalf("Of(%v): %v %v, not %v", l, v, e, want)
		}
		if e == api.OK {
			hold(t, fmt.Sprintf("Of(%v)", l), v, tell(l...))
		}
		if !slices.Equal(l, was) {
			t.Fatalf("%v was changed to %v", was, l)
		}
		met[e]++
	}
	if met[api.OK] < 10000 || met[api.ErrRange] < 10000 || met[api.ErrOrder] < 10000 {
		t.Errorf("%v", met)
	}
}

func TestP17_1Of(t *testing.T) {
	for _, l := range rights() {
		hold(t, "marks that may be", must(t, l...), tell(l...))
	}
	for what, c := range wrongs() {
		if v, e := vector.Of(c.l); v != nil || e != c.e {
			t.Errorf("%s: %v %v, not %v", what, v, e, c.e)
		}
	}
}

func TestP17_1OfKeepsNothing(t *testing.T) {
	room := []api.Mark{mark(0, 1, 5), mark(1, 1, 6), mark(2, 1, 7), mark(3, 1, 8)}
	was := slices.Clone(room)
	for n := range room {
		v := must(t, room[:n]...)
		for _, m := range was {
			v.Raise(m.A, 100)
		}
		v.Raise(by(9, 9), 9)
		if !slices.Equal(room, was) {
			t.Fatalf("of %d marks, the list was changed: %v", n, room)
		}
		one, other := must(t, room[:n]...), must(t, room[:n]...)
		one.Raise(by(0, 1), 99)
		clear(room)
		hold(t, "another one", other, tell(was[:n]...))
		copy(room, was)
	}
}

func TestP17_1GetAndHas(t *testing.T) {
	v := must(t, mark(0, 1, 4), mark(0, 3, 1), mark(3, 1, 7), mark(lastDev, lastInc, lastSeq))
	for _, c := range []struct {
		a api.Actor
		n int
	}{
		{by(0, 1), 4}, {by(0, 2), 0}, {by(0, 3), 1}, {by(1, 1), 0}, {by(1, 3), 0}, {by(3, 1), 7}, {by(63, 1048576), 4294967296},
		// Actors that may not be.
		{by(0, 0), 0}, {by(-1, 1), 0}, {by(64, 1), 0}, {by(63, 1048577), 0}, {api.Actor{}, 0}, {by(math.MinInt, math.MaxInt), 0},
	} {
		if n := v.Get(c.a); n != c.n {
			t.Errorf("Get(%v): %d, not %d", c.a, n, c.n)
		}
	}
	for _, c := range []struct {
		d   api.Dot
		has bool
	}{
		{of(0, 1, 1), true}, {of(0, 1, 3), true}, {of(0, 1, 4), true}, {of(0, 1, 5), false},
		{of(0, 2, 1), false}, {of(0, 3, 1), true}, {of(0, 3, 2), false}, {of(1, 1, 1), false}, {of(3, 1, 7), true}, {of(3, 1, 8), false},
		{of(63, 1048576, 4294967296), true}, {of(63, 1048576, 4294967297), false}, {of(63, 1048576, 1), true},
		// Dots that may not be, of actors that the vector has and of others.
		{of(0, 1, 0), false}, {of(0, 1, -1), false}, {of(0, 1, math.MinInt), false}, {of(0, 1, math.MaxInt), false},
		{of(0, 0, 0), false}, {of(0, 0, 1), false}, {of(0, 0, -1), false}, {of(64, 1, 0), false}, {of(-1, 1, -5), false}, {of(0, 1048577, 0), false}, {api.Dot{}, false},
	} {
		if has := v.Has(c.d); has != c.has {
			t.Errorf("Has(%v): %v", c.d, has)
		}
	}
}

func TestP17_1GetAndHasAtTheEnds(t *testing.T) {
	l := []api.Mark{mark(0, 1, 1), mark(0, 2, lastSeq), mark(1, lastInc, lastSeq-1), mark(lastDev, 1, math.MaxInt32), mark(lastDev, lastInc, lastSeq)}
	v, want := must(t, l...), tell(l...)
	had := 0
	for _, m := range endMarks() {
		if n := v.Get(m.A); n != want.number(m.A) {
			t.Fatalf("Get(%v): %d, not %d", m.A, n, want.number(m.A))
		}
		has := v.Has(api.Dot(m))
		if has != want.has(api.Dot(m)) {
			t.Fatalf("Has(%v): %v", m, has)
		}
		if has {
			had++
		}
	}
	if had < 20 {
		t.Errorf("it had %d", had)
	}
	hold(t, "asked", v, want)
}

func TestP17_1Raise(t *testing.T) {
	v, want := vector.New(), tell()
	for i, c := range []struct {
		m   api.Mark
		did bool
	}{
		{mark(1, 2, 5), true},
		{mark(1, 2, 5), false},
		{mark(1, 2, 4), false},
		{mark(1, 2, 1), false},
		{mark(1, 2, 6), true},
		// With gaps, and of another life, or device.
		{mark(1, 2, 1000), true},
		{mark(1, 1, 7), true},
		{mark(2, 2, 7), true},
		{mark(2, 1, 1), true},
		{mark(0, 1, 3), true},
		{mark(0, 1, 0), false},
		{mark(0, 1, -1), false},
		{mark(5, 1, 0), false},
		{mark(5, 1, -1), false},
		{mark(0, 0, 9), false},
		{mark(0, -1, 9), false},
		{mark(-1, 1, 9), false},
		{mark(64, 1, 9), false},
		{mark(0, 1048577, 9), false},
		{mark(0, 1, 4294967297), false},
		{mark(0, 1, math.MaxInt), false},
		{mark(0, 1, math.MinInt), false},
		{mark(63, 1048576, 4294967295), true},
		{mark(63, 1048576, 4294967296), true},
		{mark(63, 1048576, 4294967297), false},
		{mark(63, 1048576, 4294967296), false},
		{mark(7, 7, 4294967296), true},
	} {
		if did := v.Raise(c.m.A, c.m.Seq); did != c.did {
			t.Errorf("%d: Raise(%v, %d): %v", i, c.m.A, c.m.Seq, did)
		}
		want.raise(c.m.A, c.m.Seq)
		hold(t, fmt.Sprint("raised ", i), v, want)
	}
}

func TestP17_1RaiseAndTakeAtTheEnds(t *testing.T) {
	l := []api.Mark{mark(0, 1, 1), mark(0, 2, lastSeq), mark(1, lastInc, lastSeq-1), mark(lastDev, 1, lastInc), mark(lastDev, lastInc, lastSeq-2)}
	raised, taken := 0, 0
	for _, m := range endMarks() {
		v, want := must(t, l...), tell(l...)
		did := v.Raise(m.A, m.Seq)
		if did != want.raise(m.A, m.Seq) {
			t.Fatalf("Raise(%v, %d): %v", m.A, m.Seq, did)
		}
		hold(t, fmt.Sprintf("Raise(%v, %d)", m.A, m.Seq), v, want)
		if did {
			raised++
		}
		v, want = must(t, l...), tell(l...)
		did = v.Take(api.Dot(m))
		if did != want.take(api.Dot(m)) {
			t.Fatalf("Take(%v): %v", m, did)
		}
		hold(t, fmt.Sprintf("Take(%v)", m), v, want)
		if did {
			taken++
		}
	}
	if raised < 100 || taken < 10 {
		t.Errorf("%d were raised, %d taken", raised, taken)
	}
}

func TestP17_1Take(t *testing.T) {
	v, want := vector.New(), tell()
	v.Raise(by(0, 1), 3)
	want.raise(by(0, 1), 3)
	for i, c := range []struct {
		d   api.Dot
		did bool
	}{
		{of(0, 1, 4), true},
		{of(0, 1, 4), false},
		{of(0, 1, 3), false},
		{of(0, 1, 6), false},
		{of(0, 1, 5), true},
		{of(0, 1, 6), true},
		// The first one of another actor.
		{of(1, 1, 2), false},
		{of(1, 1, 0), false},
		{of(1, 1, 1), true},
		{of(1, 1, 1), false},
		{of(1, 1, 2), true},
		{of(0, 2, 7), false},
		{of(0, 2, 1), true},
		{of(63, 1048576, 1), true},
		// Those that may not be, even if they were next.
		{of(64, 1, 1), false},
		{of(-1, 1, 1), false},
		{of(0, 0, 1), false},
		{of(0, -1, 1), false},
		{of(0, 1048577, 1), false},
		{of(0, 3, 0), false},
		{of(0, 3, -1), false},
		{of(0, 3, math.MinInt), false},
		{of(0, 3, math.MaxInt), false},
		{api.Dot{}, false},
	} {
		if did := v.Take(c.d); did != c.did {
			t.Errorf("%d: Take(%v): %v", i, c.d, did)
		}
		if want.take(c.d); v.Has(c.d) != want.has(c.d) {
			t.Errorf("%d: Has(%v): %v", i, c.d, v.Has(c.d))
		}
		hold(t, fmt.Sprint("taken ", i), v, want)
	}
	// Up to the last one, and none behind it.
	v = must(t, mark(5, 5, lastSeq-2))
	for _, c := range []struct {
		seq int
		did bool
	}{{lastSeq, false}, {lastSeq - 1, true}, {lastSeq, true}, {lastSeq, false}, {lastSeq + 1, false}, {lastSeq + 2, false}} {
		if did := v.Take(of(5, 5, c.seq)); did != c.did {
			t.Errorf("Take of %d: %v", c.seq, did)
		}
	}
	hold(t, "at the last one", v, tell(mark(5, 5, lastSeq)))
}

func TestP17_1DrawnSteps(t *testing.T) {
	r := rand.New(rand.NewSource(1711))
	actors := append(someActors(), by(64, 1), by(0, 0), by(-1, 1), by(0, lastInc+1))
	did := 0
	for range 300 {
		v, want := vector.New(), tell()
		for range 200 {
			a, n := pick(r, actors), r.Intn(12)-1
			var got, is bool
			if r.Intn(3) == 0 {
				got, is = v.Raise(a, n), want.raise(a, n)
			} else {
				d := api.Dot{A: a, Seq: n}
				got, is = v.Take(d), want.take(d)
			}
			if got != is {
				t.Fatalf("%v of %v %d in %v", got, a, n, want.marks())
			}
			if is {
				did++
			}
			d := api.Dot{A: pick(r, actors), Seq: r.Intn(12) - 1}
			if v.Has(d) != want.has(d) || v.Get(d.A) != want.number(d.A) {
				t.Fatalf("%v in %v", d, want.marks())
			}
		}
		hold(t, "behind drawn steps", v, want)
	}
	if did < 5000 {
		t.Errorf("%d did", did)
	}
}

func TestP17_1Marks(t *testing.T) {
	want := []api.Mark{mark(0, 1, 9), mark(0, 2, 8), mark(0, 10, 7), mark(1, 1, 6), mark(2, 1, 5), mark(10, 1, 4)}
	r := rand.New(rand.NewSource(1712))
	for range 500 {
		v := vector.New()
		for _, i := range r.Perm(len(want)) {
			v.Raise(want[i].A, want[i].Seq)
		}
		if l := v.Marks(); !slices.Equal(l, want) {
			t.Fatalf("%v", l)
		}
	}
	// What was answered is of the one who asked.
	v := must(t, want...)
	first, second := v.Marks(), v.Marks()
	clear(first)
	_ = append(first, mark(9, 9, 9))
	if !slices.Equal(second, want) || !slices.Equal(v.Marks(), want) {
		t.Errorf("%v %v", second, v.Marks())
	}
	v.Raise(by(0, 1), 100)
	if !slices.Equal(second, want) {
		t.Errorf("%v", second)
	}
}

func TestP17_1MoreActorsThanMarksMayBe(t *testing.T) {
	const n = 20000
	v := vector.New()
	for i := range n {
		if !v.Raise(by((n-i)%64, 1+i), 1+i) {
			t.Fatalf("%d was not raised", i)
		}
	}
	l := v.Marks()
	if len(l) != n || !slices.IsSortedFunc(l, func(x, y api.Mark) int { return (x.A.Dev-y.A.Dev)*2*lastInc + x.A.Inc - y.A.Inc }) {
		t.Fatalf("%d marks", len(l))
	}
	if v.Sum() != n*(n+1)/2 {
		t.Errorf("%d", v.Sum())
	}
	if e := vector.Check(l); e != api.ErrLong {
		t.Errorf("%v", e)
	}
	if u, e := vector.Of(l); u != nil || e != api.ErrLong {
		t.Errorf("%v", e)
	}
	u := v.Copy()
	if !slices.Equal(u.Marks(), l) || !slices.Equal(v.Meet(u).Marks(), l) || !v.Covers(u) {
		t.Error("they are not the same")
	}
	u = vector.New()
	if u.Join(v); !slices.Equal(u.Marks(), l) {
		t.Error("not all were joined")
	}
}

func TestP17_1OfNil(t *testing.T) {
	var none *vector.Vector
	for range 2 {
		holdEmpty(t, "nil", none)
		for _, m := range []api.Mark{mark(0, 1, 1), mark(0, 1, 2), mark(0, 1, 0), {}, mark(64, 1, 1), mark(lastDev, lastInc, lastSeq), mark(math.MinInt, math.MaxInt, math.MaxInt)} {
			// Nothing changes: its number does not become another one, and it does not have the dot then.
			if none.Raise(m.A, m.Seq) || none.Take(api.Dot(m)) {
				t.Errorf("nil has %v", m)
			}
		}
	}
}

func TestP17_2Join(t *testing.T) {
	for _, c := range []struct {
		a, b, want []api.Mark
	}{
		{nil, nil, nil},
		{[]api.Mark{mark(0, 1, 3)}, nil, []api.Mark{mark(0, 1, 3)}},
		{nil, []api.Mark{mark(0, 1, 3)}, []api.Mark{mark(0, 1, 3)}},
		{[]api.Mark{mark(0, 1, 3)}, []api.Mark{mark(0, 1, 4)}, []api.Mark{mark(0, 1, 4)}},
		{[]api.Mark{mark(0, 1, 4)}, []api.Mark{mark(0, 1, 3)}, []api.Mark{mark(0, 1, 4)}},
		{[]api.Mark{mark(0, 1, 4)}, []api.Mark{mark(0, 2, 3)}, []api.Mark{mark(0, 1, 4), mark(0, 2, 3)}},
		{[]api.Mark{mark(1, 1, 4), mark(2, 1, 9)}, []api.Mark{mark(0, 1, 1), mark(1, 1, 5), mark(2, 1, 8)}, []api.Mark{mark(0, 1, 1), mark(1, 1, 5), mark(2, 1, 9)}},
		{[]api.Mark{mark(0, 1, lastSeq)}, []api.Mark{mark(lastDev, lastInc, lastSeq)}, []api.Mark{mark(0, 1, lastSeq), mark(lastDev, lastInc, lastSeq)}},
	} {
		v, o := must(t, c.a...), must(t, c.b...)
		v.Join(o)
		hold(t, fmt.Sprintf("%v joined with %v", c.a, c.b), v, tell(c.want...))
		hold(t, "what was joined", o, tell(c.b...))
	}
}

func TestP17_2Meet(t *testing.T) {
	for _, c := range []struct {
		a, b, want []api.Mark
	}{
		{nil, nil, nil},
		{[]api.Mark{mark(0, 1, 3)}, nil, nil},
		{nil, []api.Mark{mark(0, 1, 3)}, nil},
		{[]api.Mark{mark(0, 1, 3)}, []api.Mark{mark(0, 1, 4)}, []api.Mark{mark(0, 1, 3)}},
		{[]api.Mark{mark(0, 1, 4)}, []api.Mark{mark(0, 1, 3)}, []api.Mark{mark(0, 1, 3)}},
		{[]api.Mark{mark(0, 1, 4)}, []api.Mark{mark(0, 2, 3)}, nil},
		{[]api.Mark{mark(1, 1, 4), mark(2, 1, 9)}, []api.Mark{mark(0, 1, 1), mark(1, 1, 5), mark(2, 1, 8)}, []api.Mark{mark(1, 1, 4), mark(2, 1, 8)}},
		{[]api.Mark{mark(lastDev, lastInc, lastSeq)}, []api.Mark{mark(lastDev, lastInc, lastSeq)}, []api.Mark{mark(lastDev, lastInc, lastSeq)}},
	} {
		v, o := must(t, c.a...), must(t, c.b...)
		hold(t, fmt.Sprintf("%v met with %v", c.a, c.b), v.Meet(o), tell(c.want...))
		hold(t, "what met", v, tell(c.a...))
		hold(t, "what was met", o, tell(c.b...))
	}
}

func TestP17_2Covers(t *testing.T) {
	for _, c := range []struct {
		a, b []api.Mark
		does bool
	}{
		{nil, nil, true},
		{[]api.Mark{mark(0, 1, 3)}, nil, true},
		{nil, []api.Mark{mark(0, 1, 1)}, false},
		{[]api.Mark{mark(0, 1, 3)}, []api.Mark{mark(0, 1, 3)}, true},
		{[]api.Mark{mark(0, 1, 4)}, []api.Mark{mark(0, 1, 3)}, true},
		{[]api.Mark{mark(0, 1, 3)}, []api.Mark{mark(0, 1, 4)}, false},
		{[]api.Mark{mark(0, 1, 9)}, []api.Mark{mark(0, 2, 1)}, false},
		{[]api.Mark{mark(0, 1, 9)}, []api.Mark{mark(1, 1, 1)}, false},
		{[]api.Mark{mark(0, 1, 9), mark(1, 1, 1)}, []api.Mark{mark(0, 1, 1), mark(1, 1, 2)}, false},
		{[]api.Mark{mark(0, 1, 1), mark(1, 1, 9)}, []api.Mark{mark(0, 1, 2), mark(1, 1, 1)}, false},
		{[]api.Mark{mark(0, 1, 2), mark(1, 1, 2), mark(2, 1, 2)}, []api.Mark{mark(0, 1, 2), mark(2, 1, 1)}, true},
		{[]api.Mark{mark(0, 1, lastSeq)}, []api.Mark{mark(0, 1, lastSeq-1)}, true},
	} {
		v, o := must(t, c.a...), must(t, c.b...)
		if does := v.Covers(o); does != c.does {
			t.Errorf("whether %v covers %v: %v", c.a, c.b, does)
		}
		hold(t, "what covers", v, tell(c.a...))
		hold(t, "what is covered", o, tell(c.b...))
	}
}

func TestP17_2Copy(t *testing.T) {
	for _, l := range rights() {
		v := must(t, l...)
		c := v.Copy()
		if c == v {
			t.Fatal("it is no new one")
		}
		hold(t, "the copy", c, tell(l...))
		// Each goes its own way.
		one, other := tell(l...), tell(l...)
		for _, a := range someActors() {
			c.Raise(a, 1000)
			one.raise(a, 1000)
		}
		hold(t, "the copy, raised", c, one)
		hold(t, "what was copied", v, other)
		for _, a := range someActors() {
			v.Raise(a, 2000)
			other.raise(a, 2000)
		}
		hold(t, "the copy, raised", c, one)
		hold(t, "what was copied, raised", v, other)
	}
}

func TestP17_2Sum(t *testing.T) {
	v := vector.New()
	for _, c := range []struct{ dev, inc, seq, sum int }{
		{0, 1, 5, 5}, {0, 1, 6, 6}, {0, 1, 6, 6}, {0, 2, 1, 7}, {3, 1, 100, 107}, {0, 1, 1, 107}, {3, 0, 9, 107},
		{63, 1048576, 4294967296, 4294967403}, {62, 1048576, 4294967296, 8589934699},
	} {
		if v.Raise(by(c.dev, c.inc), c.seq); v.Sum() != c.sum {
			t.Errorf("%d, not %d", v.Sum(), c.sum)
		}
	}
	// As many as an int has room for by far.
	v = vector.New()
	for i := range 100000 {
		v.Raise(by(i%64, 1+i), lastSeq)
	}
	if n := v.Sum(); n != 429496729600000 {
		t.Errorf("%d", n)
	}
}

func TestP17_2OfNil(t *testing.T) {
	var none *vector.Vector
	l := []api.Mark{mark(0, 1, 3), mark(1, 1, 4)}
	v := must(t, l...)
	v.Join(none)
	hold(t, "joined with nil", v, tell(l...))
	none.Join(v)
	none.Join(nil)
	holdEmpty(t, "nil", none)
	hold(t, "what nil was joined with", v, tell(l...))
	for what, met := range map[string]*vector.Vector{"with nil": v.Meet(none), "of nil": none.Meet(v), "of nil with nil": none.Meet(nil), "nil's copy": none.Copy()} {
		if met == nil {
			t.Fatalf("%s: no new vector", what)
		}
		holdEmpty(t, what, met)
		if !met.Raise(by(0, 1), 1) || met.Sum() != 1 {
			t.Errorf("%s: it does not go on", what)
		}
	}
	if !v.Covers(none) || none.Covers(v) || !none.Covers(nil) || !none.Covers(vector.New()) || !vector.New().Covers(none) {
		t.Error("covers")
	}
	if none.Sum() != 0 {
		t.Errorf("%d", none.Sum())
	}
	hold(t, "at the end", v, tell(l...))
}

func TestP17_2WithItself(t *testing.T) {
	for _, l := range rights() {
		v := must(t, l...)
		v.Join(v)
		hold(t, "joined with itself", v, tell(l...))
		met := v.Meet(v)
		hold(t, "met with itself", met, tell(l...))
		if met == v || !v.Covers(v) {
			t.Errorf("%v with itself", l)
		}
	}
}

func TestP17_2OfDrawnVectors(t *testing.T) {
	r := rand.New(rand.NewSource(172))
	covered := 0
	for range 20000 {
		a, b := drawn(r), drawn(r)
		v, o := must(t, a...), must(t, b...)
		met := v.Meet(o)
		hold(t, fmt.Sprintf("%v met with %v", a, b), met, either(tell(a...), tell(b...), lesser))
		if does := v.Covers(o); does != tell(a...).covers(tell(b...)) {
			t.Fatalf("whether %v covers %v: %v", a, b, does)
		} else if does {
			covered++
		}
		c := v.Copy()
		v.Join(o)
		hold(t, fmt.Sprintf("%v joined with %v", a, b), v, either(tell(a...), tell(b...), greater))
		hold(t, "the copy", c, tell(a...))
		hold(t, "the other one", o, tell(b...))
		// What was answered, and what was joined, goes its own way.
		for _, one := range []*vector.Vector{met, v, c} {
			for _, x := range someActors() {
				one.Raise(x, lastSeq)
			}
		}
		hold(t, "the other one", o, tell(b...))
		o.Raise(by(30, 30), 30)
		for _, one := range []*vector.Vector{met, v, c} {
			if one.Get(by(30, 30)) != 0 || one.Sum() != len(someActors())*lastSeq {
				t.Fatalf("%v", one.Marks())
			}
		}
	}
	if covered < 1000 {
		t.Errorf("%d were covered", covered)
	}
}

// packed is by layer 5's words what numbers are packed as.
func packed(l ...uint64) []byte {
	var b []byte
	for _, n := range l {
		b = binary.AppendUvarint(b, n)
	}
	return b
}

// packedMarks is by the chapter's words what marks are packed as.
func packedMarks(l []api.Mark) []byte {
	b := packed(uint64(len(l)))
	for _, m := range l {
		b = append(b, packed(uint64(m.A.Dev), uint64(m.A.Inc), uint64(m.Seq))...)
	}
	return b
}

func TestP17_3Put(t *testing.T) {
	for _, c := range []struct {
		l    []api.Mark
		want []byte
	}{
		{nil, []byte{0}},
		{[]api.Mark{}, []byte{0}},
		{[]api.Mark{mark(0, 1, 4)}, []byte{1, 0, 1, 4}},
		{[]api.Mark{mark(1, 1, 1), mark(1, 2, 6)}, []byte{2, 1, 1, 1, 1, 2, 6}},
		{[]api.Mark{mark(0, 300, 128), mark(63, lastInc, lastSeq)}, []byte{2, 0, 172, 2, 128, 1, 63, 128, 128, 64, 128, 128, 128, 128, 16}},
	} {
		w := new(pack.Writer)
		if e := vector.Put(w, c.l); e != api.OK || !bytes.Equal(w.Bytes(), c.want) {
			t.Errorf("Put(%v): %x %v, not %x", c.l, w.Bytes(), e, c.want)
		}
	}
	for _, l := range rights() {
		was := slices.Clone(l)
		w := new(pack.Writer).Num(300).Text("a")
		e := vector.Put(w, l)
		w.Flags(true)
		if want := slices.Concat([]byte{172, 2, 1, 97}, packedMarks(l), []byte{1}); e != api.OK || !bytes.Equal(w.Bytes(), want) {
			t.Errorf("Put(%v) between others: %x %v, not %x", l, w.Bytes(), e, want)
		}
		if !slices.Equal(l, was) {
			t.Errorf("%v was changed to %v", was, l)
		}
	}
}

func TestP17_3PutOfWrongMarks(t *testing.T) {
	for what, c := range wrongs() {
		w := new(pack.Writer).Num(300)
		if e := vector.Put(w, c.l); e != c.e || !bytes.Equal(w.Bytes(), []byte{172, 2}) {
			t.Errorf("%s: %x %v, not %v", what, w.Bytes(), e, c.e)
		}
		if e := vector.Put(nil, c.l); e != c.e {
			t.Errorf("%s, of no writer: %v, not %v", what, e, c.e)
		}
	}
	for _, l := range rights() {
		if e := vector.Put(nil, l); e != api.OK {
			t.Errorf("%v, of no writer: %v", l, e)
		}
	}
	for _, m := range endMarks() {
		l := []api.Mark{mark(0, 1, 1), m}
		e, want := checked(l), []byte(nil)
		if e == api.OK {
			want = packedMarks(l)
		}
		w := new(pack.Writer)
		if got := vector.Put(w, l); got != e || !bytes.Equal(w.Bytes(), want) {
			t.Fatalf("Put(%v): %x %v, not %x %v", l, w.Bytes(), got, want, e)
		}
	}
}

// holdGet reads marks, and holds what is answered, and how the reader stands then, against what is wanted.
func holdGet(t *testing.T, what string, r *pack.Reader, want []api.Mark, left int, e api.Errno) {
	t.Helper()
	if l := vector.Get(r); !slices.Equal(l, want) || r.Err() != e || r.Left() != left {
		t.Fatalf("%s: %v, %v, %d left, not %v, %v, %d left", what, l, r.Err(), r.Left(), want, e, left)
	}
}

// holdFails holds that of these bytes no marks are got, and that the error stays.
func holdFails(t *testing.T, b []byte, left int, e api.Errno) {
	t.Helper()
	r := pack.Read(b)
	what := fmt.Sprintf("Get of %x", b[:min(len(b), 30)])
	holdGet(t, what, r, nil, left, e)
	// What is read stays where it was.
	holdGet(t, what+" again", r, nil, left, e)
	if n := r.Num(math.MaxUint64); n != 0 || r.End() != e || r.Left() != left {
		t.Errorf("%s: behind it %d, %v, %d left", what, n, r.End(), r.Left())
	}
}

func TestP17_3Get(t *testing.T) {
	for _, l := range rights() {
		for _, behind := range [][]byte{nil, {0}, {128}, {255, 255}, {1, 0, 1, 1}} {
			b := append(packedMarks(l), behind...)
			r := pack.Read(b)
			holdGet(t, "Get", r, l, len(behind), api.OK)
		}
	}
	// Behind something else, and ahead of it.
	r := pack.Read([]byte{172, 2, 1, 3, 1, 7, 1, 97, 0, 2, 0, 1, 1, 0, 2, 1})
	if n := r.Num(300); n != 300 {
		t.Errorf("%d", n)
	}
	holdGet(t, "the first marks", r, []api.Mark{mark(3, 1, 7)}, 10, api.OK)
	if s := r.Text(1); s != "a" {
		t.Errorf("%q", s)
	}
	holdGet(t, "no marks", r, nil, 7, api.OK)
	holdGet(t, "the last marks", r, []api.Mark{mark(0, 1, 1), mark(0, 2, 1)}, 0, api.OK)
	if e := r.End(); e != api.OK {
		t.Errorf("%v", e)
	}
	holdGet(t, "at the end", r, nil, 0, api.ErrShort)
}

func TestP17_3GetOfWrongMarks(t *testing.T) {
	for _, c := range []struct {
		b    []byte
		left int
		e    api.Errno
	}{
		// Layer 5's.
		{nil, 0, api.ErrShort},
		{[]byte{128}, 1, api.ErrShort},
		{[]byte{129, 0, 0, 1, 1}, 5, api.ErrForm},
		{[]byte{1}, 0, api.ErrShort},
		{[]byte{1, 1}, 0, api.ErrShort},
		{[]byte{1, 1, 1}, 0, api.ErrShort},
		{[]byte{2, 1, 1, 1}, 0, api.ErrShort},
		{[]byte{2, 1, 1, 1, 2, 1}, 0, api.ErrShort},
		{[]byte{2, 1, 1, 1, 129, 0, 1, 1}, 4, api.ErrForm},
		// Layer 16's: numbers above, a life and a number of 0.
		{[]byte{1, 64, 1, 1}, 3, api.ErrLong},
		{slices.Concat([]byte{1, 0}, packed(lastInc+1), []byte{1}), 4, api.ErrLong},
		{slices.Concat([]byte{1, 0, 1}, packed(lastSeq+1), []byte{9}), 6, api.ErrLong},
		{[]byte{1, 0, 0, 1, 9}, 1, api.ErrRange},
		{[]byte{1, 0, 1, 0, 9}, 1, api.ErrRange},
		{[]byte{2, 0, 1, 1, 0, 2, 0, 9}, 1, api.ErrRange},
		{[]byte{2, 0, 1, 0, 0, 2, 1, 9}, 4, api.ErrRange},
		// How many there are.
		{slices.Concat(packed(4097), []byte{0, 1, 1}), 5, api.ErrLong},
		{slices.Concat(packed(math.MaxUint64), []byte{0, 1, 1}), 13, api.ErrLong},
		{slices.Concat(packed(4096), []byte{0, 1, 1}), 0, api.ErrShort},
		// Check's: the order, once all are read.
		{[]byte{2, 0, 2, 1, 0, 1, 1, 9}, 1, api.ErrOrder},
		{[]byte{2, 1, 1, 1, 0, 2, 1, 9}, 1, api.ErrOrder},
		{[]byte{2, 3, 1, 7, 3, 1, 7, 9}, 1, api.ErrOrder},
		{[]byte{2, 3, 1, 7, 3, 1, 8, 9}, 1, api.ErrOrder},
		{[]byte{3, 1, 1, 1, 0, 1, 1, 2, 1, 1, 9}, 1, api.ErrOrder},
		// An error of the reader is ahead of the order, whichever mark it is of.
		{[]byte{3, 1, 1, 1, 0, 1, 1, 2, 1}, 0, api.ErrShort},
		{[]byte{3, 1, 1, 1, 0, 1, 1}, 0, api.ErrShort},
		{[]byte{3, 1, 1, 1, 0, 1, 1, 2, 1, 128}, 1, api.ErrShort},
		{[]byte{3, 1, 1, 1, 0, 1, 1, 64, 1, 1}, 3, api.ErrLong},
		{[]byte{3, 1, 1, 1, 0, 1, 1, 2, 0, 1, 9}, 1, api.ErrRange},
		{[]byte{2, 1, 1, 1, 1, 1, 0, 9}, 1, api.ErrRange},
		{[]byte{3, 1, 1, 1, 0, 1, 0, 9}, 1, api.ErrRange},
	} {
		holdFails(t, c.b, c.left, c.e)
	}
}

func TestP17_3GetOfManyMarks(t *testing.T) {
	l := long(4097)
	holdFails(t, packedMarks(l), len(packedMarks(l)), api.ErrLong)
	b := packedMarks(l[:4096])
	holdGet(t, "4096", pack.Read(b), l[:4096], 0, api.OK)
	// The last one of as many as may be.
	holdFails(t, b[:len(b)-1], 3, api.ErrShort)
	last := slices.Clone(l[:4096])
	last[4095].A = last[4094].A
	holdFails(t, packedMarks(last), 0, api.ErrOrder)
}

func TestP17_3GetOfBytesThatAreCutOff(t *testing.T) {
	for _, l := range [][]api.Mark{
		{mark(0, 1, 1)},
		{mark(0, 300, 128), mark(1, 1, 1), mark(63, lastInc, lastSeq)},
		{mark(63, lastInc, lastSeq)},
		long(200),
	} {
		b := packedMarks(l)
		for n := range b {
			// What stands in the room behind the end is none of it.
			r := pack.Read(b[:n])
			if got := vector.Get(r); len(got) != 0 || r.Err() != api.ErrShort {
				t.Fatalf("Get of the first %d bytes of %v: %v %v", n, l, got, r.Err())
			}
		}
	}
}

// read is by the words of layers 5 and 16, and of the chapter, what is got of numbers that are packed: the marks, how many numbers are left, and the error.
func read(l []uint64) ([]api.Mark, int, api.Errno) {
	next := func(most uint64) (uint64, api.Errno) {
		switch {
		case len(l) == 0:
			return 0, api.ErrShort
		case l[0] > most:
			return 0, api.ErrLong
		}
		n := l[0]
		l = l[1:]
		return n, api.OK
	}
	count, e := next(mostHere)
	if e != api.OK {
		return nil, len(l), e
	}
	var got []api.Mark
	for range count {
		var of [3]uint64
		for i, most := range []uint64{lastDev, lastInc, lastSeq} {
			if of[i], e = next(most); e != api.OK {
				return nil, len(l), e
			}
		}
		if of[1] == 0 || of[2] == 0 {
			return nil, len(l), api.ErrRange
		}
		got = append(got, mark(int(of[0]), int(of[1]), int(of[2])))
	}
	if e = checked(got); e != api.OK {
		return nil, len(l), e
	}
	return got, len(l), api.OK
}

func TestP17_3GetOfDrawnNumbers(t *testing.T) {
	r := rand.New(rand.NewSource(173))
	met := map[api.Errno]int{}
	for i := range 300000 {
		numbers := []uint64{uint64(r.Intn(5))}
		for range r.Intn(14) {
			// All but a few of them may be.
			n := uint64(1 + r.Intn(3))
			switch r.Intn(30) {
			case 0:
				n = 0
			case 1:
				n = 64
			}
			numbers = append(numbers, n)
		}
		if i%20 == 0 {
			numbers[r.Intn(len(numbers))] = pick(r, []uint64{63, 64, 4096, 4097, lastInc, lastInc + 1, lastSeq, lastSeq + 1, 1<<63 + 1, math.MaxUint64})
		}
		want, left, e := read(numbers)
		bytesLeft := len(packed(numbers[len(numbers)-left:]...))
		if e == api.OK {
			holdGet(t, fmt.Sprint(numbers), pack.Read(packed(numbers...)), want, bytesLeft, e)
		} else {
			holdFails(t, packed(numbers...), bytesLeft, e)
		}
		met[e]++
	}
	for _, e := range []api.Errno{api.OK, api.ErrShort, api.ErrLong, api.ErrRange, api.ErrOrder} {
		if met[e] < 3000 {
			t.Errorf("%v was met %d times", e, met[e])
		}
	}
}

func TestP17_3GetBehindAnError(t *testing.T) {
	for _, e := range []api.Errno{api.ErrForm, api.ErrShort, api.ErrLong, api.ErrRange, api.ErrSum, api.ErrOrder, api.ErrNil, -1, 99} {
		for _, b := range [][]byte{nil, {0}, {1, 5, 1, 7}, {2, 5, 1, 7, 5, 1, 7}, {1, 64, 1, 1}, {1, 5, 1, 0}, {1, 5}} {
			r := pack.Read(b)
			r.Fail(e)
			holdGet(t, "behind an error", r, nil, len(b), e)
			// Behind marks that were got, too.
			r = pack.Read(append([]byte{1, 5, 1, 7}, b...))
			holdGet(t, "ahead of an error", r, []api.Mark{mark(5, 1, 7)}, len(b), api.OK)
			r.Fail(e)
			holdGet(t, "behind an error", r, nil, len(b), e)
		}
	}
	// Marks that are not in order keep the next ones from being got, and their error is the first.
	r := pack.Read([]byte{2, 5, 1, 7, 5, 1, 7, 1, 5, 1, 7})
	holdGet(t, "marks twice", r, nil, 4, api.ErrOrder)
	r.Fail(api.ErrSum)
	holdGet(t, "behind marks twice", r, nil, 4, api.ErrOrder)
	var none *pack.Reader
	holdGet(t, "of nil", none, nil, 0, api.ErrNil)
}

func TestP17_3GetIsOfTheCallAlone(t *testing.T) {
	l := []api.Mark{mark(3, 1, 7), mark(63, lastInc, lastSeq)}
	b := packedMarks(l)
	was := bytes.Clone(b)
	first, second := vector.Get(pack.Read(b)), vector.Get(pack.Read(b))
	clear(first)
	if !bytes.Equal(b, was) || !slices.Equal(second, l) {
		t.Errorf("%x %v", b, second)
	}
	clear(b)
	if !slices.Equal(second, l) {
		t.Errorf("%v", second)
	}
}

func TestP17_4JoinedAndMet(t *testing.T) {
	r := rand.New(rand.NewSource(174))
	between, below := 0, 0
	for range 30000 {
		a, b, c := must(t, drawn(r)...), must(t, drawn(r)...), must(t, drawn(r)...)
		joined := a.Copy()
		joined.Join(b)
		if !joined.Covers(a) || !joined.Covers(b) {
			t.Fatalf("%v does not cover %v and %v", joined.Marks(), a.Marks(), b.Marks())
		}
		// One that covers both, made of a third one.
		over := c.Copy()
		over.Join(b)
		over.Join(a)
		for _, one := range []*vector.Vector{c, over, a, b} {
			if both := one.Covers(a) && one.Covers(b); both != one.Covers(joined) {
				t.Fatalf("%v, %v of %v and %v", one.Marks(), both, a.Marks(), b.Marks())
			} else if both {
				between++
			}
		}
		met := a.Meet(b)
		if !a.Covers(met) || !b.Covers(met) {
			t.Fatalf("%v is not covered by %v and %v", met.Marks(), a.Marks(), b.Marks())
		}
		for _, one := range []*vector.Vector{c, c.Meet(a).Meet(b), vector.New()} {
			if both := a.Covers(one) && b.Covers(one); both != met.Covers(one) {
				t.Fatalf("%v, %v of %v and %v", one.Marks(), both, a.Marks(), b.Marks())
			} else if both {
				below++
			}
		}
		// Whichever is the first one.
		other := b.Copy()
		other.Join(a)
		if !slices.Equal(other.Marks(), joined.Marks()) || !slices.Equal(b.Meet(a).Marks(), met.Marks()) {
			t.Fatalf("%v and %v the other way round", a.Marks(), b.Marks())
		}
	}
	if between < 30000 || below < 60000 {
		t.Errorf("%d cover both, %d are covered by both", between, below)
	}
}

func TestP17_5WhatWasPutIsGot(t *testing.T) {
	r := rand.New(rand.NewSource(175))
	all := rights()
	for range 5000 {
		all = append(all, drawn(r))
	}
	w := new(pack.Writer)
	for i, l := range all {
		v := must(t, l...)
		one := new(pack.Writer)
		if e := vector.Put(one, v.Marks()); e != api.OK {
			t.Fatalf("%v: %v", l, e)
		}
		holdGet(t, "alone", pack.Read(one.Bytes()), l, 0, api.OK)
		vector.Put(w, v.Marks())
		// Those that may not be leave nothing that could be got.
		vector.Put(w, append(slices.Clone(l), api.Mark{}))
		w.Int(int64(-i))
	}
	got := pack.Read(w.Bytes())
	for i, l := range all {
		marks := vector.Get(got)
		hold(t, "of what was got", must(t, marks...), tell(l...))
		if n := got.Int(math.MaxInt64); n != int64(-i) {
			t.Fatalf("%d behind %v", n, l)
		}
	}
	if e := got.End(); e != api.OK {
		t.Errorf("%v", e)
	}
}
