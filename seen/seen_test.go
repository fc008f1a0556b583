package seen_test

import (
	"bytes"
	"encoding/binary"
	"fmt"
	"math"
	"math/rand"
	"slices"
	"testing"

	"biscotti/api"
	"biscotti/pack"
	"biscotti/seen"
)

// The greatest numbers that may be, and the most exceptions and marks, by the document's words.
const (
	lastDev  = 63
	lastInc  = 1 << 20
	lastSeq  = 1 << 32
	mostHere = 4096
)

// by is an actor, at is a dot.
func by(dev, inc int) api.Actor {
	return api.Actor{Dev: dev, Inc: inc}
}

func at(dev, inc, seq int) api.Dot {
	return api.Dot{A: by(dev, inc), Seq: seq}
}

// ends are the ends of what numbers may be, and of an int, with what lies on either side.
func ends() []int {
	l := []int{math.MinInt, math.MinInt + 1, math.MinInt32, -lastSeq, math.MaxInt32, math.MaxInt - 1, math.MaxInt}
	for _, near := range []int{0, 3, lastDev, lastInc, lastSeq} {
		for by := -2; by <= 2; by++ {
			l = append(l, near+by)
		}
	}
	slices.Sort(l)
	return slices.Compact(l)
}

// endDots are dots of all those numbers.
func endDots() []api.Dot {
	var l []api.Dot
	for _, dev := range ends() {
		for _, inc := range ends() {
			for _, seq := range ends() {
				l = append(l, at(dev, inc, seq))
			}
		}
	}
	return l
}

// within tells whether n is one of the numbers from one to another one.
func within(n, from, to int) bool {
	return min(max(n, from), to) == n
}

// mayBe tells by layer 16's words whether a dot may be.
func mayBe(d api.Dot) bool {
	return within(d.A.Dev, 0, lastDev) && within(d.A.Inc, 1, lastInc) && within(d.Seq, 1, lastSeq)
}

// rank is by layer 16's words a text that is less than another one's just where the actor is ahead.
func rank(a api.Actor) string {
	return fmt.Sprintf("%016x%016x", uint64(a.Dev)+1<<63, uint64(a.Inc)+1<<63)
}

// span is of dots of one actor, from one Seq to another one.
type span struct{ from, to int }

// life is of an actor's dots: their spans are rising, and there is a gap ahead of each but the first.
type life struct {
	a     api.Actor
	spans []span
}

// told is what a set is by the chapter's words, told another way: lives, found by their actors' ranks.
type told map[string]life

// tell is what is told of dots, and of all dots up to each mark.
func tell(base []api.Mark, dots ...api.Dot) told {
	k := told{}
	for _, m := range base {
		k.lay(m.A, span{1, m.Seq})
	}
	for _, d := range dots {
		k.lay(d.A, span{d.Seq, d.Seq})
	}
	return k
}

// lay puts a span's dots to an actor's.
func (k told) lay(a api.Actor, s span) {
	all := append(slices.Clone(k[rank(a)].spans), s)
	slices.SortFunc(all, func(x, y span) int { return x.from - y.from })
	apart := all[:1]
	for _, s := range all[1:] {
		if last := &apart[len(apart)-1]; s.from <= last.to+1 {
			last.to = max(last.to, s.to)
		} else {
			apart = append(apart, s)
		}
	}
	k[rank(a)] = life{a, apart}
}

// has is by the chapter's words whether a dot is in it.
func (k told) has(d api.Dot) bool {
	return slices.ContainsFunc(k[rank(d.A)].spans, func(s span) bool { return within(d.Seq, s.from, s.to) })
}

// add is by the chapter's words what Add does, and answers.
func (k told) add(d api.Dot) bool {
	if k.has(d) || !mayBe(d) {
		return false
	}
	k.lay(d.A, span{d.Seq, d.Seq})
	return true
}

// join is by the chapter's words what Join does.
func (k told) join(o told) {
	for _, v := range o {
		for _, s := range v.spans {
			k.lay(v.a, s)
		}
	}
}

// copied is the same once more.
func (k told) copied() told {
	o := told{}
	o.join(k)
	return o
}

// lives are the lives, by their actors' order.
func (k told) lives() []life {
	var ranks []string
	for s := range k {
		ranks = append(ranks, s)
	}
	slices.Sort(ranks)
	var l []life
	for _, s := range ranks {
		l = append(l, k[s])
	}
	return l
}

// base are by the chapter's words the base's marks.
func (k told) base() []api.Mark {
	l := []api.Mark{}
	for _, v := range k.lives() {
		if v.spans[0].from == 1 {
			l = append(l, api.Mark{A: v.a, Seq: v.spans[0].to})
		}
	}
	return l
}

// beyond are by the chapter's words the exceptions.
func (k told) beyond() []api.Dot {
	l := []api.Dot{}
	for _, v := range k.lives() {
		for _, s := range v.spans {
			for seq := s.from; s.from > 1 && seq <= s.to; seq++ {
				l = append(l, api.Dot{A: v.a, Seq: seq})
			}
		}
	}
	return l
}

// missing is by the chapter's words what Missing answers.
func (k told) missing(o told) []api.Dot {
	l := []api.Dot{}
	for _, m := range o.base() {
		next := api.Dot{A: m.A, Seq: 1}
		if spans := k[rank(m.A)].spans; len(spans) > 0 && spans[0].from == 1 {
			next.Seq = spans[0].to + 1
		}
		if o.has(next) && next.Seq <= m.Seq {
			l = append(l, next)
		}
	}
	for _, d := range o.beyond() {
		if !k.has(d) {
			l = append(l, d)
		}
	}
	return l
}

// packed is by layer 5's words what numbers are packed as.
func packed(l ...uint64) []byte {
	var b []byte
	for _, n := range l {
		b = binary.AppendUvarint(b, n)
	}
	return b
}

// packedDots is what dots, or marks, are packed as: how many they are, and each.
func packedDots[D api.Dot | api.Mark](l ...D) []byte {
	b := packed(uint64(len(l)))
	for _, one := range l {
		d := api.Dot(one)
		b = append(b, packed(uint64(d.A.Dev), uint64(d.A.Inc), uint64(d.Seq))...)
	}
	return b
}

// packed is by the chapter's words what it is packed as.
func (k told) packed() []byte {
	return append(packedDots(k.base()...), packedDots(k.beyond()...)...)
}

// must is the set that is told of, read of its bytes, for a base may have more dots than could be added.
func must(t *testing.T, k told) *seen.Set {
	t.Helper()
	r := pack.Read(k.packed())
	s := seen.Get(r)
	if s == nil || r.End() != api.OK {
		t.Fatalf("no set of %v and %v: %v", k.base(), k.beyond(), r.End())
	}
	return s
}

// of is the set of dots, added one after the other.
func of(l ...api.Dot) *seen.Set {
	s := seen.New()
	for _, d := range l {
		s.Add(d)
	}
	return s
}

// hold holds what a set tells of itself against what is wanted.
func hold(t *testing.T, what string, s *seen.Set, want told) {
	t.Helper()
	if got := s.Base(); !slices.Equal(got, want.base()) {
		t.Fatalf("%s: the base is %v, not %v", what, got, want.base())
	}
	if got := s.Beyond(); !slices.Equal(got, want.beyond()) {
		t.Fatalf("%s: the exceptions are %v, not %v", what, got, want.beyond())
	}
	for _, v := range want {
		for _, s2 := range v.spans {
			for _, seq := range []int{1, s2.from - 1, s2.from, s2.from + 1, s2.to - 1, s2.to, s2.to + 1} {
				if d := (api.Dot{A: v.a, Seq: seq}); s.Has(d) != want.has(d) {
					t.Fatalf("%s: Has(%v): %v", what, d, s.Has(d))
				}
			}
		}
	}
}

// holdEmpty holds that a set has no dots.
func holdEmpty(t *testing.T, what string, s *seen.Set) {
	t.Helper()
	hold(t, what, s, told{})
	for _, d := range []api.Dot{at(0, 1, 1), at(0, 1, 2), at(lastDev, lastInc, lastSeq), {}, at(-1, -1, -1), at(0, 1, 0)} {
		if s.Has(d) {
			t.Fatalf("%s: it has %v", what, d)
		}
	}
}

// pick draws one of the list.
func pick[T any](r *rand.Rand, l []T) T {
	return l[r.Intn(len(l))]
}

// someActors are actors that may be, so few that drawn ones are often the same.
func someActors() []api.Actor {
	return []api.Actor{by(0, 1), by(0, 2), by(0, 10), by(1, 1), by(2, 1), by(10, 1), by(lastDev, lastInc)}
}

// drawnDots are dots that may be, of the actors, many of them next to one another, and some of them twice.
func drawnDots(r *rand.Rand, actors []api.Actor) []api.Dot {
	var l []api.Dot
	for range r.Intn(25) {
		l = append(l, api.Dot{A: pick(r, actors), Seq: 1 + r.Intn(7)})
	}
	return l
}

// drawn is what is told of drawn dots, and of bases that have more dots than could be added.
func drawn(r *rand.Rand) told {
	actors := someActors()[r.Intn(5):]
	k := tell(nil, drawnDots(r, actors)...)
	for range r.Intn(3) {
		a, to := pick(r, actors), pick(r, []int{1, 3, 4, 5, 100, lastSeq - 4, lastSeq - 1, lastSeq})
		k.lay(a, span{1, to})
		if seq := to + r.Intn(4); seq <= lastSeq {
			k.lay(a, span{seq, seq})
		}
	}
	return k
}

// each hands all orders of the list.
func each(l []api.Dot, with func(l []api.Dot)) {
	var from func(i int)
	from = func(i int) {
		if i == len(l) {
			with(l)
		}
		for j := i; j < len(l); j++ {
			l[i], l[j] = l[j], l[i]
			from(i + 1)
			l[i], l[j] = l[j], l[i]
		}
	}
	from(0)
}

func TestP18_1New(t *testing.T) {
	one, other := seen.New(), seen.New()
	if one == nil || other == nil {
		t.Fatal("none")
	}
	holdEmpty(t, "a new one", one)
	if !one.Add(at(0, 1, 1)) || !one.Add(at(0, 1, 3)) {
		t.Error("they were not added")
	}
	holdEmpty(t, "another new one", other)
}

func TestP18_1Add(t *testing.T) {
	s, want := seen.New(), told{}
	for i, c := range []struct {
		d   api.Dot
		did bool
	}{
		{at(0, 1, 2), true},
		{at(0, 1, 2), false},
		{at(0, 1, 1), true},
		{at(0, 1, 1), false},
		{at(0, 1, 2), false},
		{at(0, 1, 3), true},
		// With gaps, which are closed later.
		{at(0, 1, 7), true},
		{at(0, 1, 5), true},
		{at(0, 1, 7), false},
		{at(0, 1, 4), true},
		{at(0, 1, 5), false},
		{at(0, 1, 8), true},
		{at(0, 1, 10), true},
		{at(0, 1, 6), true},
		{at(0, 1, 9), true},
		// Of another life, or device.
		{at(0, 2, 1), true},
		{at(1, 1, 11), true},
		{at(0, 2, 11), true},
		{at(0, 1, 11), true},
		{at(1, 1, 1), true},
		// Those that may not be.
		{at(0, 1, 0), false},
		{at(0, 1, -1), false},
		{at(0, 3, 0), false},
		{at(0, 0, 1), false},
		{at(0, -1, 1), false},
		{at(-1, 1, 1), false},
		{at(64, 1, 1), false},
		{at(64, 1, 2), false},
		{at(0, 1048577, 1), false},
		{at(0, 1, 4294967297), false},
		{at(0, 1, math.MaxInt), false},
		{at(0, 1, math.MinInt), false},
		{api.Dot{}, false},
		{at(63, 1048576, 4294967296), true},
		{at(63, 1048576, 4294967297), false},
		{at(63, 1048576, 4294967296), false},
		{at(63, 1048576, 1), true},
		{at(63, 1048576, 4294967295), true},
	} {
		if did := s.Add(c.d); did != c.did {
			t.Errorf("%d: Add(%v): %v", i, c.d, did)
		}
		want.add(c.d)
		hold(t, fmt.Sprint("added ", i), s, want)
	}
	if b, x := s.Base(), s.Beyond(); !slices.Equal(b, []api.Mark{{A: by(0, 1), Seq: 11}, {A: by(0, 2), Seq: 1}, {A: by(1, 1), Seq: 1}, {A: by(63, 1048576), Seq: 1}}) ||
		!slices.Equal(x, []api.Dot{at(0, 2, 11), at(1, 1, 11), at(63, 1048576, 4294967295), at(63, 1048576, 4294967296)}) {
		t.Errorf("%v %v", b, x)
	}
}

func TestP18_1AddUpToTheLastOne(t *testing.T) {
	k := tell([]api.Mark{{A: by(5, 5), Seq: lastSeq - 3}}, at(5, 5, lastSeq))
	s := must(t, k)
	for _, c := range []struct {
		seq int
		did bool
	}{{lastSeq + 1, false}, {lastSeq - 1, true}, {lastSeq - 3, false}, {lastSeq - 2, true}, {lastSeq, false}, {lastSeq + 1, false}, {lastSeq + 2, false}} {
		if did := s.Add(at(5, 5, c.seq)); did != c.did {
			t.Errorf("Add of %d: %v", c.seq, did)
		}
		k.add(at(5, 5, c.seq))
		hold(t, fmt.Sprintf("added %d", c.seq), s, k)
	}
	if b, x := s.Base(), s.Beyond(); len(x) != 0 || !slices.Equal(b, []api.Mark{{A: by(5, 5), Seq: 4294967296}}) {
		t.Errorf("%v %v", b, x)
	}
}

// endsTold is what has dots at the ends of what may be, and gaps there.
func endsTold() told {
	return tell([]api.Mark{{A: by(0, 1), Seq: 1}, {A: by(0, 2), Seq: lastSeq}, {A: by(1, lastInc), Seq: lastSeq - 1}, {A: by(2, 2), Seq: 3}, {A: by(lastDev, lastInc), Seq: lastSeq - 2}},
		at(0, 1, 3), at(0, 1, lastSeq), at(2, 2, 5), at(2, 2, 6), at(lastDev, 1, lastSeq-1), at(lastDev, lastInc, lastSeq), at(lastDev, 2, 2))
}

func TestP18_1AddAndHasAtTheEnds(t *testing.T) {
	all := must(t, endsTold())
	had, added := 0, 0
	for _, d := range endDots() {
		want := endsTold()
		if has := all.Has(d); has != want.has(d) {
			t.Fatalf("Has(%v): %v", d, has)
		} else if has {
			had++
		}
		s := must(t, want)
		did := s.Add(d)
		if did != want.add(d) || s.Has(d) != mayBe(d) {
			t.Fatalf("Add(%v): %v", d, did)
		}
		hold(t, fmt.Sprintf("Add(%v)", d), s, want)
		if did {
			added++
		}
	}
	hold(t, "asked", all, endsTold())
	if had < 30 || added < 300 {
		t.Errorf("it had %d, and %d were added", had, added)
	}
}

func TestP18_1Has(t *testing.T) {
	s := of(at(0, 1, 1), at(0, 1, 2), at(0, 1, 4), at(0, 1, 6), at(3, 1, 7))
	for _, c := range []struct {
		d   api.Dot
		has bool
	}{
		{at(0, 1, 1), true}, {at(0, 1, 2), true}, {at(0, 1, 3), false}, {at(0, 1, 4), true}, {at(0, 1, 5), false}, {at(0, 1, 6), true}, {at(0, 1, 7), false},
		{at(3, 1, 1), false}, {at(3, 1, 6), false}, {at(3, 1, 7), true}, {at(3, 1, 8), false}, {at(0, 2, 1), false}, {at(1, 1, 1), false}, {at(1, 1, 4), false},
		{at(0, 1, 0), false}, {at(0, 1, -1), false}, {at(0, 1, math.MinInt), false}, {at(0, 0, 0), false}, {at(0, 5, 0), false}, {at(64, 1, 0), false}, {api.Dot{}, false},
	} {
		if has := s.Has(c.d); has != c.has {
			t.Errorf("Has(%v): %v", c.d, has)
		}
	}
}

func TestP18_1AddOfManyDots(t *testing.T) {
	const n = 200000
	s := seen.New()
	// The last one first: all are exceptions, till the first one closes the gap.
	for seq := n; seq > 1; seq-- {
		if !s.Add(at(1, 1, seq)) {
			t.Fatal(seq)
		}
	}
	if b, x := s.Base(), s.Beyond(); len(b) != 0 || len(x) != n-1 || x[0] != at(1, 1, 2) || x[n-2] != at(1, 1, n) {
		t.Fatalf("%v, %d exceptions", b, len(x))
	}
	if !s.Add(at(1, 1, 1)) || s.Add(at(1, 1, n)) {
		t.Error("the first one")
	}
	hold(t, "many dots", s, tell([]api.Mark{{A: by(1, 1), Seq: n}}))
	// More actors than could be got.
	s = seen.New()
	for i := range n {
		s.Add(at(lastDev-i%64, 1+i, 1+i%2))
	}
	b, x := s.Base(), s.Beyond()
	if len(b) != n/2 || len(x) != n/2 {
		t.Fatalf("%d marks, %d exceptions", len(b), len(x))
	}
	for i := range n/2 - 1 {
		if rank(b[i].A) >= rank(b[i+1].A) || rank(x[i].A) >= rank(x[i+1].A) {
			t.Fatalf("%v, %v at %d", b[i], x[i], i)
		}
	}
}

func TestP18_1DrawnSteps(t *testing.T) {
	r := rand.New(rand.NewSource(181))
	actors := append(someActors()[:3], by(64, 1), by(0, 0))
	did := 0
	for range 2000 {
		s, want := seen.New(), told{}
		for range 60 {
			d := api.Dot{A: pick(r, actors), Seq: r.Intn(12)}
			got, is := s.Add(d), want.add(d)
			if got != is {
				t.Fatalf("Add(%v): %v in %v and %v", d, got, want.base(), want.beyond())
			}
			if is {
				did++
			}
			if d = (api.Dot{A: pick(r, actors), Seq: r.Intn(13) - 1}); s.Has(d) != want.has(d) {
				t.Fatalf("Has(%v) in %v and %v", d, want.base(), want.beyond())
			}
		}
		hold(t, "behind drawn steps", s, want)
	}
	if did < 10000 {
		t.Errorf("%d did", did)
	}
}

func TestP18_1Join(t *testing.T) {
	to := func(dev, inc, seq int) []api.Mark { return []api.Mark{{A: by(dev, inc), Seq: seq}} }
	for what, c := range map[string]struct {
		a, b   told
		base   []api.Mark
		beyond []api.Dot
	}{
		"nothing":                    {tell(nil), tell(nil), nil, nil},
		"with nothing":               {tell(to(0, 1, 2), at(0, 1, 4)), tell(nil), to(0, 1, 2), []api.Dot{at(0, 1, 4)}},
		"nothing with it":            {tell(nil), tell(to(0, 1, 2), at(0, 1, 4)), to(0, 1, 2), []api.Dot{at(0, 1, 4)}},
		"a greater base":             {tell(to(0, 1, 2)), tell(to(0, 1, 5)), to(0, 1, 5), nil},
		"a lesser base":              {tell(to(0, 1, 5)), tell(to(0, 1, 2)), to(0, 1, 5), nil},
		"a base over exceptions":     {tell(nil, at(0, 1, 2), at(0, 1, 4), at(0, 1, 9)), tell(to(0, 1, 5)), to(0, 1, 5), []api.Dot{at(0, 1, 9)}},
		"exceptions below a base":    {tell(to(0, 1, 5)), tell(nil, at(0, 1, 2), at(0, 1, 4), at(0, 1, 9)), to(0, 1, 5), []api.Dot{at(0, 1, 9)}},
		"a base next to exceptions":  {tell(nil, at(0, 1, 4), at(0, 1, 6), at(0, 1, 7), at(0, 1, 9)), tell(to(0, 1, 5)), to(0, 1, 7), []api.Dot{at(0, 1, 9)}},
		"exceptions next to a base":  {tell(to(0, 1, 5)), tell(nil, at(0, 1, 4), at(0, 1, 6), at(0, 1, 7), at(0, 1, 9)), to(0, 1, 7), []api.Dot{at(0, 1, 9)}},
		"exceptions in gaps":         {tell(to(0, 1, 1), at(0, 1, 3), at(0, 1, 5)), tell(nil, at(0, 1, 2), at(0, 1, 4), at(0, 1, 7)), to(0, 1, 5), []api.Dot{at(0, 1, 7)}},
		"exceptions of both":         {tell(nil, at(0, 1, 3)), tell(nil, at(0, 1, 3), at(0, 1, 2)), nil, []api.Dot{at(0, 1, 2), at(0, 1, 3)}},
		"another actor's base":       {tell(nil, at(0, 1, 2)), tell(to(0, 2, 5)), to(0, 2, 5), []api.Dot{at(0, 1, 2)}},
		"another actor's exceptions": {tell(to(1, 1, 5)), tell(nil, at(0, 1, 6), at(1, 2, 6)), to(1, 1, 5), []api.Dot{at(0, 1, 6), at(1, 2, 6)}},
		"all that may be":            {tell(nil, at(63, lastInc, 1), at(63, lastInc, lastSeq)), tell(to(63, lastInc, lastSeq)), to(63, lastInc, lastSeq), nil},
		"all but one":                {tell(to(63, lastInc, lastSeq-2), at(63, lastInc, lastSeq)), tell(nil, at(63, lastInc, lastSeq-1)), to(63, lastInc, lastSeq), nil},
		"a base up to an exception":  {tell(nil, at(7, 7, lastSeq-1), at(7, 7, lastSeq)), tell(to(7, 7, lastSeq-2)), to(7, 7, lastSeq), nil},
		"not quite up to it":         {tell(nil, at(7, 7, lastSeq-1), at(7, 7, lastSeq)), tell(to(7, 7, lastSeq-3)), to(7, 7, lastSeq-3), []api.Dot{at(7, 7, lastSeq-1), at(7, 7, lastSeq)}},
	} {
		s, o := must(t, c.a), must(t, c.b)
		s.Join(o)
		if b, x := s.Base(), s.Beyond(); !slices.Equal(b, c.base) || !slices.Equal(x, c.beyond) {
			t.Errorf("%s: %v %v, not %v %v", what, b, x, c.base, c.beyond)
		}
		hold(t, what+": what was joined with", o, c.b)
	}
}

func TestP18_1JoinOfDrawnSets(t *testing.T) {
	r := rand.New(rand.NewSource(1811))
	for range 6000 {
		a, b := drawn(r), drawn(r)
		s, o, want := must(t, a), must(t, b), a.copied()
		s.Join(o)
		want.join(b)
		hold(t, "joined", s, want)
		hold(t, "what was joined with", o, b)
		// Each goes its own way.
		more := drawnDots(r, someActors())
		for _, d := range more {
			if s.Add(d) != want.add(d) {
				t.Fatalf("Add(%v) behind Join", d)
			}
		}
		hold(t, "joined, and added to", s, want)
		hold(t, "what was joined with", o, b)
		for _, d := range drawnDots(r, someActors()) {
			o.Add(d)
		}
		hold(t, "joined, and added to", s, want)
	}
}

func TestP18_1JoinWithItself(t *testing.T) {
	r := rand.New(rand.NewSource(1812))
	for range 1000 {
		k := drawn(r)
		s := must(t, k)
		s.Join(s)
		hold(t, "joined with itself", s, k)
	}
}

func TestP18_1JoinOfManyDots(t *testing.T) {
	const n = 100000
	even, odd := seen.New(), seen.New()
	for seq := n; seq > 0; seq-- {
		if seq%2 == 0 {
			even.Add(at(1, 1, seq))
		} else {
			odd.Add(at(1, 1, seq))
		}
	}
	even.Join(odd)
	hold(t, "all", even, tell([]api.Mark{{A: by(1, 1), Seq: n}}))
	odd.Join(must(t, tell([]api.Mark{{A: by(1, 1), Seq: lastSeq}})))
	hold(t, "all that may be", odd, tell([]api.Mark{{A: by(1, 1), Seq: lastSeq}}))
}

func TestP18_1BaseAndBeyondAreInOrder(t *testing.T) {
	want := tell([]api.Mark{{A: by(0, 1), Seq: 1}, {A: by(0, 2), Seq: 2}, {A: by(0, 10), Seq: 1}, {A: by(1, 1), Seq: 1}, {A: by(10, 1), Seq: 1}},
		at(0, 1, 9), at(0, 1, 10), at(0, 1, 100), at(0, 9, 7), at(0, 10, 5), at(1, 1, 4), at(1, 1, 6), at(2, 1, 3), at(10, 1, 3))
	r := rand.New(rand.NewSource(1813))
	l := append([]api.Dot{at(0, 1, 1), at(0, 2, 1), at(0, 2, 2), at(0, 10, 1), at(1, 1, 1), at(10, 1, 1)}, want.beyond()...)
	for range 500 {
		r.Shuffle(len(l), func(i, j int) { l[i], l[j] = l[j], l[i] })
		hold(t, "shuffled", of(l...), want)
	}
	// What was answered is of the one who asked.
	s := of(l...)
	for range 2 {
		b, x, m := s.Base(), s.Beyond(), seen.New().Missing(s)
		clear(b)
		clear(x)
		clear(m)
		_ = append(b[:1], api.Mark{A: by(9, 9), Seq: 9})
		_ = append(x[:1], at(9, 9, 9))
		hold(t, "asked", s, want)
	}
	b, x := s.Base(), s.Beyond()
	s.Add(at(0, 1, 2))
	s.Add(at(2, 1, 1))
	s.Add(at(2, 1, 2))
	if !slices.Equal(b, want.base()) || !slices.Equal(x, want.beyond()) {
		t.Errorf("%v %v", b, x)
	}
}

func TestP18_1OfNil(t *testing.T) {
	var none *seen.Set
	k := tell([]api.Mark{{A: by(0, 1), Seq: 2}}, at(0, 1, 4))
	s := must(t, k)
	for range 2 {
		holdEmpty(t, "nil", none)
		for _, d := range []api.Dot{at(0, 1, 1), at(0, 1, 2), {}, at(0, 1, 0), at(64, 1, 1), at(lastDev, lastInc, lastSeq), at(math.MinInt, math.MaxInt, math.MaxInt)} {
			// Nothing changes: the dot is not in it then.
			if none.Add(d) {
				t.Errorf("nil has %v", d)
			}
		}
		none.Join(s)
		none.Join(nil)
		none.Join(seen.New())
		s.Join(none)
		s.Join(nil)
		hold(t, "joined with nil", s, k)
	}
}

func TestP18_2Missing(t *testing.T) {
	to := func(dev, inc, seq int) api.Mark { return api.Mark{A: by(dev, inc), Seq: seq} }
	for what, c := range map[string]struct {
		s, o told
		want []api.Dot
	}{
		"nothing":                         {tell(nil), tell(nil), nil},
		"of nothing":                      {tell([]api.Mark{to(0, 1, 2)}, at(0, 1, 4)), tell(nil), nil},
		"nothing has it":                  {tell(nil), tell([]api.Mark{to(0, 1, 2)}, at(0, 1, 4)), []api.Dot{at(0, 1, 1), at(0, 1, 4)}},
		"the same":                        {tell([]api.Mark{to(0, 1, 2)}, at(0, 1, 4)), tell([]api.Mark{to(0, 1, 2)}, at(0, 1, 4)), nil},
		"the next one, no more":           {tell([]api.Mark{to(0, 1, 2)}), tell([]api.Mark{to(0, 1, 9)}), []api.Dot{at(0, 1, 3)}},
		"the last one of a base":          {tell([]api.Mark{to(0, 1, 8)}), tell([]api.Mark{to(0, 1, 9)}), []api.Dot{at(0, 1, 9)}},
		"a lesser base":                   {tell([]api.Mark{to(0, 1, 9)}), tell([]api.Mark{to(0, 1, 8)}), nil},
		"behind a gap":                    {tell([]api.Mark{to(0, 1, 1)}, at(0, 1, 3), at(0, 1, 5)), tell([]api.Mark{to(0, 1, 9)}), []api.Dot{at(0, 1, 2)}},
		"a gap at the base's end":         {tell([]api.Mark{to(0, 1, 1)}, at(0, 1, 3)), tell([]api.Mark{to(0, 1, 3)}), []api.Dot{at(0, 1, 2)}},
		"exceptions alone":                {tell(nil, at(0, 1, 3)), tell(nil, at(0, 1, 2), at(0, 1, 3), at(0, 1, 4)), []api.Dot{at(0, 1, 2), at(0, 1, 4)}},
		"exceptions that the base has":    {tell([]api.Mark{to(0, 1, 3)}), tell(nil, at(0, 1, 2), at(0, 1, 3), at(0, 1, 4)), []api.Dot{at(0, 1, 4)}},
		"the next one is o's exception":   {tell([]api.Mark{to(0, 1, 3)}), tell([]api.Mark{to(0, 1, 2)}, at(0, 1, 4)), []api.Dot{at(0, 1, 4)}},
		"bases ahead of exceptions":       {tell(nil), tell([]api.Mark{to(1, 1, 2), to(2, 1, 2)}, at(0, 1, 7), at(1, 1, 4), at(3, 1, 2)), []api.Dot{at(1, 1, 1), at(2, 1, 1), at(0, 1, 7), at(1, 1, 4), at(3, 1, 2)}},
		"in order":                        {tell([]api.Mark{to(0, 2, 5)}), tell([]api.Mark{to(0, 1, 2), to(0, 2, 6), to(0, 10, 1), to(1, 1, 3), to(10, 1, 3)}, at(0, 1, 9), at(0, 1, 10), at(0, 9, 2)), []api.Dot{at(0, 1, 1), at(0, 2, 6), at(0, 10, 1), at(1, 1, 1), at(10, 1, 1), at(0, 1, 9), at(0, 1, 10), at(0, 9, 2)}},
		"actors that o has not":           {tell([]api.Mark{to(0, 1, 2), to(3, 3, 3)}, at(4, 4, 4)), tell([]api.Mark{to(0, 2, 1)}), []api.Dot{at(0, 2, 1)}},
		"the last one that may be":        {tell([]api.Mark{to(63, lastInc, lastSeq-1)}), tell([]api.Mark{to(63, lastInc, lastSeq)}), []api.Dot{at(63, lastInc, lastSeq)}},
		"none behind the last one":        {tell([]api.Mark{to(63, lastInc, lastSeq)}), tell([]api.Mark{to(63, lastInc, lastSeq)}), nil},
		"the last one as an exception":    {tell([]api.Mark{to(63, lastInc, lastSeq-2)}), tell(nil, at(63, lastInc, lastSeq)), []api.Dot{at(63, lastInc, lastSeq)}},
		"exceptions of both, and a base":  {tell(nil, at(0, 1, 2), at(0, 1, 4)), tell([]api.Mark{to(0, 1, 2)}, at(0, 1, 4), at(0, 1, 5)), []api.Dot{at(0, 1, 1), at(0, 1, 5)}},
		"all exceptions within the base":  {tell(nil, at(0, 1, 2), at(0, 1, 3)), tell([]api.Mark{to(0, 1, 3)}), []api.Dot{at(0, 1, 1)}},
		"exceptions of a life beside one": {tell([]api.Mark{to(0, 1, 9)}), tell(nil, at(0, 2, 5), at(1, 1, 5)), []api.Dot{at(0, 2, 5), at(1, 1, 5)}},
	} {
		s, o := must(t, c.s), must(t, c.o)
		if got := s.Missing(o); !slices.Equal(got, c.want) {
			t.Errorf("%s: %v, not %v", what, got, c.want)
		}
		hold(t, what+": what was asked", s, c.s)
		hold(t, what+": what it was asked of", o, c.o)
	}
}

func TestP18_2MissingOfDrawnSets(t *testing.T) {
	r := rand.New(rand.NewSource(182))
	bases, beyond := 0, 0
	for range 10000 {
		a, b := drawn(r), drawn(r)
		s, o := must(t, a), must(t, b)
		got, want := s.Missing(o), a.missing(b)
		if !slices.Equal(got, want) {
			t.Fatalf("%v and %v of %v and %v: %v, not %v", a.base(), a.beyond(), b.base(), b.beyond(), got, want)
		}
		hold(t, "what was asked", s, a)
		hold(t, "what it was asked of", o, b)
		for _, d := range got {
			if s.Has(d) || !o.Has(d) {
				t.Fatalf("%v is missing", d)
			}
			if slices.Contains(b.beyond(), d) {
				beyond++
			} else {
				bases++
			}
		}
		if l := s.Missing(s); len(l) != 0 {
			t.Fatalf("%v of itself", l)
		}
		s.Join(o)
		if l := s.Missing(o); len(l) != 0 {
			t.Fatalf("%v of what was joined", l)
		}
	}
	if bases < 3000 || beyond < 3000 {
		t.Errorf("%d of bases, %d exceptions", bases, beyond)
	}
}

func TestP18_2WhatIsMissingIsAllThatIsMissing(t *testing.T) {
	r := rand.New(rand.NewSource(1821))
	for range 2000 {
		a, b := drawnDots(r, someActors()[:3]), drawnDots(r, someActors()[:3])
		s, o := of(a...), of(b...)
		for n := 0; len(s.Missing(o)) > 0; n++ {
			for _, d := range s.Missing(o) {
				if !s.Add(d) {
					t.Fatalf("%v was there", d)
				}
			}
			if n > 10 {
				t.Fatalf("%v of %v goes on", b, a)
			}
		}
		want := tell(nil, a...)
		want.join(tell(nil, b...))
		hold(t, "with all that was missing", s, want)
	}
}

func TestP18_2OfNil(t *testing.T) {
	var none *seen.Set
	k := tell([]api.Mark{{A: by(0, 1), Seq: 2}, {A: by(1, 1), Seq: 3}}, at(0, 1, 4))
	s := must(t, k)
	if l := none.Missing(s); !slices.Equal(l, []api.Dot{at(0, 1, 1), at(1, 1, 1), at(0, 1, 4)}) {
		t.Errorf("%v", l)
	}
	if l := s.Missing(none); len(l) != 0 {
		t.Errorf("%v", l)
	}
	if l := none.Missing(nil); len(l) != 0 {
		t.Errorf("%v", l)
	}
	if l := none.Missing(seen.New()); len(l) != 0 {
		t.Errorf("%v", l)
	}
	hold(t, "asked", s, k)
	holdEmpty(t, "nil", none)
}

// put is what a set packs.
func put(s *seen.Set) []byte {
	w := new(pack.Writer)
	s.Put(w)
	return w.Bytes()
}

func TestP18_3Put(t *testing.T) {
	var none *seen.Set
	for _, c := range []struct {
		s    *seen.Set
		want []byte
	}{
		{seen.New(), []byte{0, 0}},
		{none, []byte{0, 0}},
		{of(at(0, 1, 2), at(0, 1, 1)), []byte{1, 0, 1, 2, 0}},
		{of(at(0, 1, 2)), []byte{0, 1, 0, 1, 2}},
		{of(at(2, 1, 5), at(2, 1, 3), at(1, 7, 1), at(0, 9, 4), at(1, 2, 1), at(1, 2, 2)), []byte{2, 1, 2, 2, 1, 7, 1, 3, 0, 9, 4, 2, 1, 3, 2, 1, 5}},
		{of(at(63, lastInc, 1), at(63, lastInc, lastSeq), at(0, 300, 128)), []byte{1, 63, 128, 128, 64, 1, 2, 0, 172, 2, 128, 1, 63, 128, 128, 64, 128, 128, 128, 128, 16}},
	} {
		// What was packed ahead stays, and what is packed behind it goes on; the set stays too.
		for range 2 {
			if b := put(c.s); !bytes.Equal(b, c.want) {
				t.Errorf("%x, not %x", b, c.want)
			}
			w := new(pack.Writer).Num(300).Text("a")
			c.s.Put(w)
			w.Flags(true)
			if want := slices.Concat([]byte{172, 2, 1, 97}, c.want, []byte{1}); !bytes.Equal(w.Bytes(), want) {
				t.Errorf("between others %x, not %x", w.Bytes(), want)
			}
		}
		// Nothing becomes of a nil writer.
		c.s.Put(nil)
	}
	r := rand.New(rand.NewSource(183))
	for range 5000 {
		k := drawn(r)
		s := must(t, k)
		if b := put(s); !bytes.Equal(b, k.packed()) {
			t.Fatalf("%x, not %x", b, k.packed())
		}
		hold(t, "put", s, k)
	}
}

// marksFrom are n marks of actors behind one another, each of some dots.
func marksFrom(n int) []api.Mark {
	var l []api.Mark
	for i := range n {
		l = append(l, api.Mark{A: by(i*64/max(n, 1), 1+i), Seq: 1 + i%300})
	}
	return l
}

// dotsFrom are n dots behind one another, with gaps between, that none of those marks has, or is next to.
func dotsFrom(n int) []api.Dot {
	var l []api.Dot
	for i := range n {
		l = append(l, at(i*64/max(n, 1), 1+i/2, 1000+i))
	}
	return l
}

func TestP18_3OfMany(t *testing.T) {
	for _, c := range []struct {
		marks, dots int
		e           api.Errno
	}{
		{4096, 0, api.OK}, {0, 4096, api.OK}, {4096, 4096, api.OK}, {4095, 4095, api.OK},
		{0, 4097, api.ErrLong}, {4096, 4097, api.ErrLong}, {4097, 0, api.ErrLong}, {4097, 5, api.ErrLong}, {5000, 5000, api.ErrLong}, {10000, 1, api.ErrLong}, {0, 10000, api.ErrLong},
	} {
		k := tell(marksFrom(c.marks), dotsFrom(c.dots)...)
		s := of(dotsFrom(c.dots)...)
		for _, m := range marksFrom(c.marks) {
			for seq := m.Seq; seq > 0; seq-- {
				s.Add(api.Dot{A: m.A, Seq: seq})
			}
		}
		// All of it is packed, and where it is too long, it is told who reads it.
		if b := put(s); !bytes.Equal(b, k.packed()) {
			t.Fatalf("%d marks, %d dots: %d bytes, not %d", c.marks, c.dots, len(b), len(k.packed()))
		}
		r := pack.Read(append(put(s), 9))
		got := seen.Get(r)
		if r.Err() != c.e || (got == nil) != (c.e != api.OK) {
			t.Fatalf("%d marks, %d dots: %v", c.marks, c.dots, r.Err())
		}
		if got != nil {
			hold(t, "many", got, k)
		}
		hold(t, "packed", s, k)
	}
}

// holdGet reads a set, and holds it, and how the reader stands then, against what is wanted.
func holdGet(t *testing.T, what string, r *pack.Reader, want told, left int) {
	t.Helper()
	s := seen.Get(r)
	if s == nil || r.Err() != api.OK || r.Left() != left {
		t.Fatalf("%s: %v, %v, %d left, not %d", what, s, r.Err(), r.Left(), left)
	}
	hold(t, what, s, want)
}

// holdNone holds that no set is read, and how the reader stands then.
func holdNone(t *testing.T, what string, r *pack.Reader, left int, e api.Errno) {
	t.Helper()
	if s := seen.Get(r); s != nil || r.Err() != e || r.Left() != left {
		t.Fatalf("%s: %v, %v, %d left, not %v, %d left", what, s, r.Err(), r.Left(), e, left)
	}
}

// holdFails holds that of these bytes no set is got, and that the error stays.
func holdFails(t *testing.T, b []byte, left int, e api.Errno) {
	t.Helper()
	r := pack.Read(b)
	what := fmt.Sprintf("Get of %x", b[:min(len(b), 40)])
	holdNone(t, what, r, left, e)
	// What is read stays where it was.
	holdNone(t, what+" again", r, left, e)
	if n := r.Num(math.MaxUint64); n != 0 || r.End() != e || r.Left() != left {
		t.Errorf("%s: behind it %d, %v, %d left", what, n, r.End(), r.Left())
	}
}

// someTold are sets that may be.
func someTold() []told {
	to := func(dev, inc, seq int) api.Mark { return api.Mark{A: by(dev, inc), Seq: seq} }
	return []told{
		tell(nil),
		tell([]api.Mark{to(0, 1, 1)}),
		tell(nil, at(0, 1, 2)),
		tell([]api.Mark{to(0, 1, 1)}, at(0, 1, 3)),
		tell([]api.Mark{to(0, 1, 3)}, at(0, 1, 5), at(0, 1, 6), at(0, 1, 8), at(0, 2, 2), at(1, 1, 2)),
		tell([]api.Mark{to(0, 2, 3), to(1, 1, 1)}, at(0, 1, 2), at(0, 2, 5), at(0, 3, 2), at(1, 1, 3)),
		tell([]api.Mark{to(63, lastInc, lastSeq)}),
		tell([]api.Mark{to(63, lastInc, lastSeq-2)}, at(63, lastInc, lastSeq)),
		tell(nil, at(0, 1, lastSeq), at(63, 1, 2), at(63, lastInc, lastSeq-1), at(63, lastInc, lastSeq)),
		tell([]api.Mark{to(0, 300, 128)}, at(0, 300, 130), at(0, 300, 16384), at(0, 16384, 2)),
		endsTold(),
	}
}

func TestP18_3Get(t *testing.T) {
	for _, k := range someTold() {
		for _, behind := range [][]byte{nil, {0}, {128}, {255, 255}, {0, 0}} {
			b := append(k.packed(), behind...)
			holdGet(t, fmt.Sprintf("Get of %x", b), pack.Read(b), k, len(behind))
		}
	}
	// Behind something else, and ahead of it.
	r := pack.Read([]byte{172, 2, 1, 3, 1, 7, 1, 3, 1, 9, 1, 97, 0, 0, 0, 1, 5, 6, 7})
	if n := r.Num(300); n != 300 {
		t.Errorf("%d", n)
	}
	holdGet(t, "the first one", r, tell([]api.Mark{{A: by(3, 1), Seq: 7}}, at(3, 1, 9)), 9)
	if s := r.Text(1); s != "a" {
		t.Errorf("%q", s)
	}
	holdGet(t, "one without dots", r, tell(nil), 5)
	holdGet(t, "the last one", r, tell(nil, at(5, 6, 7)), 0)
	if e := r.End(); e != api.OK {
		t.Errorf("%v", e)
	}
	holdNone(t, "at the end", r, 0, api.ErrShort)
}

func TestP18_3GetOfWrongSets(t *testing.T) {
	for _, c := range []struct {
		b    []byte
		left int
		e    api.Errno
	}{
		// Layer 17's, of the base.
		{nil, 0, api.ErrShort},
		{[]byte{128}, 1, api.ErrShort},
		{[]byte{129, 0, 0, 1, 1, 0}, 6, api.ErrForm},
		{[]byte{1, 1, 1}, 0, api.ErrShort},
		{[]byte{1, 64, 1, 1, 0}, 4, api.ErrLong},
		{[]byte{1, 0, 0, 1, 0}, 1, api.ErrRange},
		{[]byte{1, 0, 1, 0, 0}, 1, api.ErrRange},
		{[]byte{2, 1, 1, 1, 0, 1, 1, 0}, 1, api.ErrOrder},
		{[]byte{2, 1, 1, 1, 1, 1, 2, 0}, 1, api.ErrOrder},
		{slices.Concat(packed(4097), []byte{0, 1, 1, 0}), 6, api.ErrLong},
		// It is ahead of all of the exceptions'.
		{[]byte{2, 1, 1, 1, 1, 1, 2, 2, 0, 1, 1, 0, 1, 1}, 7, api.ErrOrder},
		// How many exceptions there are.
		{[]byte{0}, 0, api.ErrShort},
		{[]byte{1, 3, 1, 7}, 0, api.ErrShort},
		{[]byte{0, 128}, 1, api.ErrShort},
		{[]byte{0, 128, 0}, 2, api.ErrForm},
		{slices.Concat([]byte{0}, packed(4097), []byte{0, 1, 2}), 5, api.ErrLong},
		{slices.Concat([]byte{0}, packed(math.MaxUint64), []byte{0, 1, 2}), 13, api.ErrLong},
		{slices.Concat([]byte{0}, packed(4096), []byte{0, 1, 2}), 0, api.ErrShort},
		// Layer 16's, of each exception.
		{[]byte{0, 1}, 0, api.ErrShort},
		{[]byte{0, 1, 0, 1}, 0, api.ErrShort},
		{[]byte{0, 2, 0, 1, 2}, 0, api.ErrShort},
		{[]byte{0, 2, 0, 1, 2, 129, 0, 1, 3}, 4, api.ErrForm},
		{[]byte{0, 1, 64, 1, 2}, 3, api.ErrLong},
		{slices.Concat([]byte{0, 1, 0}, packed(lastInc+1), []byte{2}), 4, api.ErrLong},
		{slices.Concat([]byte{0, 1, 0, 1}, packed(lastSeq+1), []byte{9}), 6, api.ErrLong},
		{[]byte{0, 1, 0, 0, 2, 9}, 1, api.ErrRange},
		{[]byte{0, 1, 0, 1, 0, 9}, 1, api.ErrRange},
		{[]byte{1, 0, 1, 5, 1, 0, 1, 0, 9}, 1, api.ErrRange},
		// Not in order, or twice.
		{[]byte{0, 2, 0, 1, 3, 0, 1, 2, 9}, 1, api.ErrOrder},
		{[]byte{0, 2, 0, 1, 3, 0, 1, 3, 9}, 1, api.ErrOrder},
		{[]byte{0, 2, 0, 2, 3, 0, 1, 4, 9}, 1, api.ErrOrder},
		{[]byte{0, 2, 1, 1, 3, 0, 2, 4, 9}, 1, api.ErrOrder},
		{[]byte{0, 3, 0, 1, 2, 0, 1, 4, 0, 1, 3, 9}, 1, api.ErrOrder},
		{[]byte{0, 3, 0, 1, 2, 1, 1, 4, 0, 1, 3, 9}, 1, api.ErrOrder},
		{[]byte{1, 0, 1, 5, 2, 0, 1, 8, 0, 1, 7, 9}, 1, api.ErrOrder},
		// The base has them.
		{[]byte{1, 0, 1, 5, 1, 0, 1, 5, 9}, 1, api.ErrOrder},
		{[]byte{1, 0, 1, 5, 1, 0, 1, 3, 9}, 1, api.ErrOrder},
		{[]byte{1, 0, 1, 5, 1, 0, 1, 1, 9}, 1, api.ErrOrder},
		{[]byte{2, 0, 1, 5, 1, 1, 7, 2, 0, 1, 7, 1, 1, 6, 9}, 1, api.ErrOrder},
		{slices.Concat(packedDots(at(63, lastInc, lastSeq)), packedDots(at(63, lastInc, lastSeq)), []byte{9}), 1, api.ErrOrder},
		// It would have with them.
		{[]byte{1, 0, 1, 5, 1, 0, 1, 6, 9}, 1, api.ErrOrder},
		{[]byte{1, 0, 1, 5, 2, 0, 1, 6, 0, 1, 8, 9}, 4, api.ErrOrder},
		{[]byte{0, 1, 0, 1, 1, 9}, 1, api.ErrOrder},
		{[]byte{1, 0, 1, 5, 1, 0, 2, 1, 9}, 1, api.ErrOrder},
		{[]byte{1, 0, 1, 5, 2, 0, 1, 7, 1, 1, 1, 9}, 1, api.ErrOrder},
		{slices.Concat(packedDots(at(63, lastInc, lastSeq-1)), packedDots(at(63, lastInc, lastSeq)), []byte{9}), 1, api.ErrOrder},
		// Of each, as soon as it is read, its order: ahead of the errors of those behind it, and behind its own.
		{[]byte{0, 3, 0, 1, 3, 0, 1, 2, 64}, 1, api.ErrOrder},
		{[]byte{0, 3, 0, 1, 3, 0, 1, 2}, 0, api.ErrOrder},
		{[]byte{0, 3, 0, 1, 3, 0, 1, 3, 0, 0, 1}, 3, api.ErrOrder},
		{[]byte{0, 2, 0, 1, 1, 0}, 1, api.ErrOrder},
		{[]byte{1, 0, 1, 5, 2, 0, 1, 6, 128}, 1, api.ErrOrder},
		{[]byte{1, 0, 1, 5, 2, 0, 1, 2, 128}, 1, api.ErrOrder},
		{[]byte{0, 2, 0, 1, 3, 0, 1, 0, 9}, 1, api.ErrRange},
		{[]byte{0, 2, 1, 1, 3, 0, 0, 3, 9}, 1, api.ErrRange},
		{[]byte{0, 2, 1, 1, 3, 0, 1}, 0, api.ErrShort},
		{[]byte{0, 2, 1, 1, 3, 0, 1, 128}, 1, api.ErrShort},
	} {
		holdFails(t, c.b, c.left, c.e)
	}
}

func TestP18_3GetOfBytesThatAreCutOff(t *testing.T) {
	for _, k := range append(someTold(), tell(marksFrom(200), dotsFrom(200)...)) {
		b := k.packed()
		for n := range b {
			// What stands in the room behind the end is none of it.
			holdNone(t, fmt.Sprintf("the first %d bytes of %x", n, b), pack.Read(b[:n]), leftOf(b[:n]), api.ErrShort)
		}
	}
}

// leftOf is how many bytes are left of those that were cut off: those of a number that goes on.
func leftOf(b []byte) int {
	n := 0
	for n < len(b) && b[len(b)-1-n] >= 128 {
		n++
	}
	return n
}

// read is by the words of layers 5, 16 and 17, and of the chapter, what is got of numbers that are packed: the set, how many numbers are left, and the error.
func read(l []uint64) (told, int, api.Errno) {
	next := func(most uint64) (uint64, api.Errno) {
		switch {
		case len(l) == 0:
			return 0, api.ErrShort
		case l[0] > most:
			return 0, api.ErrLong
		}
		n := l[0]
		l = l[1:]
		return n, api.OK
	}
	dots := func(check func(d api.Dot) api.Errno) ([]api.Dot, api.Errno) {
		count, e := next(mostHere)
		var got []api.Dot
		for range count {
			var of [3]uint64
			for i, most := range []uint64{lastDev, lastInc, lastSeq} {
				if of[i], e = next(most); e != api.OK {
					return nil, e
				}
			}
			d := at(int(of[0]), int(of[1]), int(of[2]))
			if !mayBe(d) {
				return nil, api.ErrRange
			}
			if e = check(d); e != api.OK {
				return nil, e
			}
			got = append(got, d)
		}
		return got, e
	}
	marks, e := dots(func(api.Dot) api.Errno { return api.OK })
	k := told{}
	for i, m := range marks {
		if i > 0 && rank(marks[i-1].A) >= rank(m.A) {
			e = api.ErrOrder
		}
		k.lay(m.A, span{1, m.Seq})
	}
	if e != api.OK {
		return nil, len(l), e
	}
	base, ahead := k.base(), ""
	_, e = dots(func(d api.Dot) api.Errno {
		here := rank(d.A) + fmt.Sprintf("%016x", d.Seq)
		if k.has(d) || here <= ahead {
			return api.ErrOrder
		}
		k.add(d)
		if !slices.Equal(k.base(), base) {
			return api.ErrOrder
		}
		ahead = here
		return api.OK
	})
	if e != api.OK {
		return nil, len(l), e
	}
	return k, len(l), api.OK
}

func TestP18_3GetOfDrawnNumbers(t *testing.T) {
	r := rand.New(rand.NewSource(1832))
	met := map[api.Errno]int{}
	beyond := 0
	for i := range 300000 {
		var numbers []uint64
		number := func(n int) {
			// All but a few of them may be.
			switch r.Intn(60) {
			case 0:
				n = 0
			case 1:
				n = 64
			}
			numbers = append(numbers, uint64(n))
		}
		for range 2 {
			n := r.Intn(4)
			numbers = append(numbers, uint64(n))
			for j := range n {
				number(j/2 + r.Intn(2))
				number(1 + r.Intn(2))
				number(1 + j + r.Intn(6))
			}
		}
		switch {
		case i%20 == 0:
			numbers[r.Intn(len(numbers))] = pick(r, []uint64{63, 64, 4096, 4097, lastInc, lastInc + 1, lastSeq, lastSeq + 1, 1<<63 + 1, math.MaxUint64})
		case i%5 == 0:
			numbers = numbers[:r.Intn(len(numbers)+1)]
		}
		want, left, e := read(numbers)
		bytesLeft := len(packed(numbers[len(numbers)-left:]...))
		if e == api.OK {
			holdGet(t, fmt.Sprint(numbers), pack.Read(packed(numbers...)), want, bytesLeft)
			beyond += len(want.beyond())
		} else {
			holdFails(t, packed(numbers...), bytesLeft, e)
		}
		met[e]++
	}
	for _, e := range []api.Errno{api.OK, api.ErrShort, api.ErrLong, api.ErrRange, api.ErrOrder} {
		if met[e] < 3000 {
			t.Errorf("%v was met %d times", e, met[e])
		}
	}
	if beyond < 30000 {
		t.Errorf("%d exceptions", beyond)
	}
}

func TestP18_3GetBehindAnError(t *testing.T) {
	good := tell([]api.Mark{{A: by(5, 1), Seq: 7}}, at(5, 1, 9))
	for _, e := range []api.Errno{api.ErrForm, api.ErrShort, api.ErrLong, api.ErrRange, api.ErrSum, api.ErrOrder, api.ErrNil, -1, 99} {
		for _, b := range [][]byte{nil, {0, 0}, good.packed(), {0, 1, 5, 1, 1}, {1, 64, 1, 1}, {1, 5, 1, 0}, {1, 5}} {
			r := pack.Read(b)
			r.Fail(e)
			holdNone(t, "behind an error", r, len(b), e)
			// Behind a set that was got, too.
			r = pack.Read(append(good.packed(), b...))
			holdGet(t, "ahead of an error", r, good, len(b))
			r.Fail(e)
			holdNone(t, "behind an error", r, len(b), e)
		}
	}
	// A set that is not in order keeps the next one from being got, and its error is the first.
	r := pack.Read([]byte{0, 1, 5, 1, 1, 0, 0})
	holdNone(t, "a first dot beyond", r, 2, api.ErrOrder)
	r.Fail(api.ErrSum)
	holdNone(t, "behind it", r, 2, api.ErrOrder)
	var none *pack.Reader
	holdNone(t, "of nil", none, 0, api.ErrNil)
}

func TestP18_3GetIsOfTheCallAlone(t *testing.T) {
	k := tell([]api.Mark{{A: by(3, 1), Seq: 7}}, at(3, 1, 9), at(63, lastInc, lastSeq))
	b := k.packed()
	was := bytes.Clone(b)
	first, second := seen.Get(pack.Read(b)), seen.Get(pack.Read(b))
	first.Add(at(3, 1, 8))
	first.Add(at(0, 1, 1))
	if !bytes.Equal(b, was) {
		t.Errorf("%x", b)
	}
	clear(b)
	hold(t, "another one", second, k)
	// What was got goes on.
	for _, d := range []api.Dot{at(3, 1, 8), at(0, 1, 1), at(0, 1, 3)} {
		if !second.Add(d) || !k.add(d) {
			t.Errorf("%v was not added", d)
		}
		hold(t, "what was got, and added to", second, k)
	}
}

func TestP18_4InWhateverOrder(t *testing.T) {
	for _, l := range [][]api.Dot{
		{at(0, 1, 1), at(0, 1, 2), at(0, 1, 3), at(0, 1, 4), at(0, 1, 5), at(0, 1, 6), at(0, 1, 7)},
		{at(0, 1, 1), at(0, 1, 2), at(0, 1, 4), at(0, 1, 5), at(0, 1, 6), at(0, 1, 9), at(0, 1, 10)},
		{at(0, 1, 2), at(0, 1, 3), at(0, 1, 5), at(0, 1, 6), at(0, 1, 8)},
		{at(0, 1, 1), at(0, 1, 2), at(0, 1, 3), at(0, 2, 1), at(0, 2, 3), at(1, 1, 2), at(1, 1, 1)},
		{at(0, 1, 1), at(0, 1, 3), at(0, 1, 1), at(0, 1, 2), at(0, 1, 3), at(0, 1, 2)},
	} {
		want := tell(nil, l...)
		each(l, func(l []api.Dot) {
			hold(t, fmt.Sprint(l), of(l...), want)
		})
	}
	r := rand.New(rand.NewSource(184))
	for range 5000 {
		l := drawnDots(r, someActors()[:4])
		want := tell(nil, l...)
		for range 3 {
			r.Shuffle(len(l), func(i, j int) { l[i], l[j] = l[j], l[i] })
			hold(t, fmt.Sprint(l), of(l...), want)
			// Some of them in another one that is joined.
			n := r.Intn(len(l) + 1)
			s, o := of(l[:n]...), of(l[n:]...)
			s.Join(o)
			hold(t, fmt.Sprint(l, " joined at ", n), s, want)
			if !bytes.Equal(put(s), want.packed()) {
				t.Fatalf("%x of %v", put(s), l)
			}
		}
	}
}

func TestP18_5WhatWasPutIsGot(t *testing.T) {
	r := rand.New(rand.NewSource(185))
	all := append(someTold(), tell(marksFrom(4096), dotsFrom(4096)...))
	for range 5000 {
		all = append(all, drawn(r))
	}
	w := new(pack.Writer)
	for i, k := range all {
		s := seen.New()
		s.Join(must(t, k))
		holdGet(t, "alone", pack.Read(put(s)), k, 0)
		s.Put(w)
		w.Int(int64(-i))
	}
	got := pack.Read(w.Bytes())
	for i, k := range all {
		hold(t, "what was got", seen.Get(got), k)
		if n := got.Int(math.MaxInt64); n != int64(-i) {
			t.Fatalf("%d behind %v", n, k.base())
		}
	}
	if e := got.End(); e != api.OK {
		t.Errorf("%v", e)
	}
}
