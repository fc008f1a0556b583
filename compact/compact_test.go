package compact_test

import (
	"fmt"
	"math"
	"math/rand"
	"slices"
	"testing"

	"biscotti/api"
	"biscotti/compact"
	"biscotti/event"
	"biscotti/ormap"
)

// The greatest numbers of what may be, by the document's words.
const (
	lastDev    = 63
	lastInc    = 1 << 20
	lastSeq    = 1 << 32
	lastTime   = 1 << 40
	mostEvents = 2048
	mostMarks  = 4096
	mostOver   = 64
)

// by is an actor, at is a dot, and mark is a mark.
func by(dev, inc int) api.Actor {
	return api.Actor{Dev: dev, Inc: inc}
}

func at(dev, inc, seq int) api.Dot {
	return api.Dot{A: by(dev, inc), Seq: seq}
}

func mark(dev, inc, seq int) api.Mark {
	return api.Mark{A: by(dev, inc), Seq: seq}
}

// aKey is the key of cookies of that name.
func aKey(name string) api.Key {
	return api.Key{Name: name, Domain: "shop.test", Path: "/"}
}

// aPut is a Put over dots, and aRemove is a Remove.
func aPut(d api.Dot, over ...api.Dot) api.Event {
	return api.Event{
		Dot:    d,
		Stamp:  api.Stamp{Wall: 5, Dev: d.A.Dev},
		Kind:   1,
		Key:    aKey("sid"),
		Cookie: api.Cookie{Value: fmt.Sprint(d), Expiry: lastTime},
		Over:   over,
	}
}

func aRemove(d api.Dot, over ...api.Dot) api.Event {
	return api.Event{Dot: d, Stamp: api.Stamp{Wall: 5, Dev: d.A.Dev}, Kind: 2, Over: over}
}

// cloned are the same events, in memory of their own.
func cloned(l []api.Event) []api.Event {
	var c []api.Event
	for _, e := range l {
		e.Over = slices.Clone(e.Over)
		c = append(c, e)
	}
	return c
}

// bare are the same events, over nothing.
func bare(l ...api.Event) []api.Event {
	var c []api.Event
	for _, e := range l {
		e.Over = nil
		c = append(c, e)
	}
	return c
}

// within tells whether n is one of the numbers from one to another one.
func within(n, from, to int) bool {
	return min(max(n, from), to) == n
}

// byDots compares by layer 16's words, and byEvents events by their dots.
func byDots(a, b api.Dot) int {
	return slices.Compare([]int{a.A.Dev, a.A.Inc, a.Seq}, []int{b.A.Dev, b.A.Inc, b.Seq})
}

func byEvents(a, b api.Event) int {
	return byDots(a.Dot, b.Dot)
}

// sorted is the list in order.
func sorted[T any](l []T, compare func(a, b T) int) []T {
	l = slices.Clone(l)
	slices.SortFunc(l, compare)
	return l
}

// told is what a map is by layer 21's words, as far as this layer asks for it, told another way.
type told struct {
	had  []api.Dot // each dot that it ever had
	kept []api.Event
	dead []api.Dot
}

func tell(l ...api.Event) *told {
	k := &told{}
	for _, e := range l {
		k.apply(e)
	}
	return k
}

func (k *told) has(d api.Dot) bool {
	return slices.Contains(k.had, d)
}

func (k *told) isDead(d api.Dot) bool {
	return slices.Contains(k.dead, d)
}

func (k *told) keeps(d api.Dot) bool {
	return slices.ContainsFunc(k.kept, func(e api.Event) bool { return e.Dot == d })
}

// number is how far an actor was heard.
func (k *told) number(a api.Actor) int {
	n := 0
	for k.has(api.Dot{A: a, Seq: n + 1}) {
		n++
	}
	return n
}

// apply takes in an event that is the next one of its actor.
func (k *told) apply(e api.Event) {
	k.had = append(k.had, e.Dot)
	k.kept = append(k.kept, cloned([]api.Event{e})...)
	for _, d := range e.Over {
		if !k.isDead(d) {
			k.dead = append(k.dead, d)
		}
	}
}

// marks are those of the context.
func (k *told) marks() []api.Mark {
	var l []api.Mark
	for _, d := range k.had {
		if d.Seq == k.number(d.A) {
			l = append(l, api.Mark(d))
		}
	}
	return inOrder(l)
}

// inOrder are marks by their actors.
func inOrder(l []api.Mark) []api.Mark {
	return sorted(l, func(x, y api.Mark) int { return byDots(api.Dot(x), api.Dot(y)) })
}

// alive are the alive Puts.
func (k *told) alive() []api.Event {
	var l []api.Event
	for _, e := range k.kept {
		if e.Kind == 1 && !k.isDead(e.Dot) {
			l = append(l, e)
		}
	}
	return sorted(l, byEvents)
}

// waste is how many of the kept events are anything but alive Puts over nothing.
func (k *told) waste() int {
	n := 0
	for _, e := range k.kept {
		if e.Kind != 1 || k.isDead(e.Dot) || len(e.Over) > 0 {
			n++
		}
	}
	return n
}

// have tells whether marks have all these dots.
func have(l []api.Mark, dots ...api.Dot) bool {
	for _, d := range dots {
		had := slices.ContainsFunc(l, func(m api.Mark) bool { return m.A == d.A && within(d.Seq, 1, m.Seq) })
		if !had {
			return false
		}
	}
	return true
}

// settled tells by the chapter's words whether an event is.
func settled(e api.Event, l []api.Mark) bool {
	return have(l, e.Dot) && have(l, e.Over...)
}

// compacted is by the chapter's words what a map is compacted to, and how many events fewer that keeps.
func (k *told) compacted(l []api.Mark) (*told, int) {
	c := &told{had: k.had}
	for _, e := range cloned(k.kept) {
		switch dead := k.isDead(e.Dot); {
		case e.Kind == 1 && dead && have(l, e.Dot):
		case e.Kind == 2 && settled(e, l):
		case e.Kind == 1 && !dead && settled(e, l):
			c.kept = append(c.kept, bare(e)...)
		default:
			c.kept = append(c.kept, e)
		}
	}
	for _, d := range k.dead {
		if !have(l, d) || !k.has(d) || c.keeps(d) {
			c.dead = append(c.dead, d)
		}
	}
	return c, len(k.kept) - len(c.kept)
}

// alike tells whether two lists have the same events.
func alike(a, b []api.Event) bool {
	return slices.EqualFunc(a, b, event.Same)
}

// is tells whether a map is as it is told.
func (k *told) is(m *ormap.Map) bool {
	return slices.Equal(m.Context(), k.marks()) && alike(m.Events(), sorted(k.kept, byEvents)) &&
		slices.Equal(m.Deads(), sorted(k.dead, byDots)) && alike(m.Alive(), k.alive()) && m.Len() == len(k.kept)
}

// must is the map of events, each of which is applied.
func must(t *testing.T, l ...api.Event) *ormap.Map {
	t.Helper()
	m := ormap.New()
	for _, e := range l {
		apply(t, m, e)
	}
	return m
}

func apply(t *testing.T, m *ormap.Map, e api.Event) {
	t.Helper()
	if is, wrong := m.Apply(e); !is || wrong != api.OK {
		t.Fatalf("%v was not applied: %v, %v", e, is, wrong)
	}
}

// mustLoad is the map that is loaded.
func mustLoad(t *testing.T, l []api.Mark, kept []api.Event, dead []api.Dot) *ormap.Map {
	t.Helper()
	m, wrong := ormap.Load(l, kept, dead)
	if m == nil || wrong != api.OK {
		t.Fatalf("nothing was loaded of %v: %v", l, wrong)
	}
	return m
}

// same tells whether two maps tell the same of themselves.
func same(a, b *ormap.Map) bool {
	return slices.Equal(a.Deads(), b.Deads()) && alike(a.Events(), b.Events()) && shows(a, b) && alike(a.Alive(), b.Alive()) && a.Len() == b.Len()
}

// shows tells whether two maps have one context, and the same alive Puts, but for what these are over.
func shows(a, b *ormap.Map) bool {
	return slices.Equal(a.Context(), b.Context()) && alike(bare(a.Alive()...), bare(b.Alive()...)) && alike(bare(a.Winners()...), bare(b.Winners()...))
}

// holdDo compacts, and holds the answer, and what the map is then, against what is wanted.
func holdDo(t *testing.T, m *ormap.Map, l []api.Mark, n int, kept []api.Event, dead ...api.Dot) {
	t.Helper()
	was := m.Context()
	if got, wrong := compact.Do(m, l); got != n || wrong != api.OK {
		t.Fatalf("Do by %v: %d, %v, not %d", l, got, wrong, n)
	}
	if got := m.Events(); !alike(got, kept) || m.Len() != len(kept) {
		t.Fatalf("by %v kept are %v, not %v", l, got, kept)
	}
	if got := m.Deads(); !slices.Equal(got, dead) {
		t.Fatalf("by %v dead are %v, not %v", l, got, dead)
	}
	if got := m.Context(); !slices.Equal(got, was) {
		t.Fatalf("by %v the context is %v, not %v", l, got, was)
	}
}

// holdRefused compacts, and holds that the error is told, and nothing changed.
func holdRefused(t *testing.T, m *ormap.Map, l []api.Mark, wanted api.Errno) {
	t.Helper()
	was := m.Copy()
	if got, wrong := compact.Do(m, l); got != 0 || wrong != wanted {
		t.Fatalf("Do by %v: %d, %v, not %v", l[:min(len(l), 4)], got, wrong, wanted)
	}
	if !same(m, was) {
		t.Fatalf("what was refused changed the map to %v, %v", m.Events(), m.Deads())
	}
}

// pick is one of a list.
func pick[T any](r *rand.Rand, l []T) T {
	return l[r.Intn(len(l))]
}

// ends are the ends of what numbers may be, and of an int, with what lies on either side.
func ends() []int {
	l := []int{math.MinInt, math.MinInt + 1, math.MinInt32, -lastSeq, math.MaxInt32, math.MaxInt - 1, math.MaxInt}
	for _, near := range []int{0, lastDev, lastInc, lastSeq} {
		for by := -1; by <= 1; by++ {
			l = append(l, near+by)
		}
	}
	slices.Sort(l)
	return slices.Compact(l)
}

// someActors are actors that stand in another order as texts than as numbers.
func someActors() []api.Actor {
	return []api.Actor{by(0, 1), by(2, 1), by(2, 10), by(2, 9), by(10, 1), by(lastDev, lastInc)}
}

// someEvents are some of each sort, in an order in which they can be applied: by their own context all go but 2.9.2, which is over a dot that never came, and two alive Puts.
func someEvents() []api.Event {
	return []api.Event{
		aPut(at(10, 1, 1)),
		aPut(at(2, 10, 1), at(10, 1, 1)),
		aPut(at(2, 9, 1)),
		aPut(at(2, 10, 2)),
		aRemove(at(2, 9, 2), at(2, 10, 1), at(40, 1, 1)),
		aPut(at(0, 1, 1), at(2, 9, 2)),
		aRemove(at(0, 1, 2), at(2, 10, 2)),
	}
}

// manyMarks are n marks that may be.
func manyMarks(n int) []api.Mark {
	var l []api.Mark
	for i := range n {
		l = append(l, mark(i%64, 1+i/64, 1))
	}
	return inOrder(l)
}

// wrongMarks are marks that may not be, with what layer 17's Check answers of them.
func wrongMarks() map[api.Errno][][]api.Mark {
	one := mark(1, 1, 1)
	l := map[api.Errno][][]api.Mark{
		api.ErrOrder: {{one, one}, {one, mark(1, 1, 2)}, {one, mark(0, 9, 9)}, {mark(1, 2, 1), one}, {one, mark(0, 1, 1), mark(0, 0, 0)}},
		api.ErrLong:  {make([]api.Mark, mostMarks+1), manyMarks(mostMarks + 1), append(manyMarks(mostMarks), api.Mark{})},
	}
	for _, dev := range ends() {
		for _, inc := range ends() {
			for _, seq := range ends() {
				if within(dev, 0, lastDev) && within(inc, 1, lastInc) && within(seq, 1, lastSeq) {
					continue
				}
				w := mark(dev, inc, seq)
				l[api.ErrRange] = append(l[api.ErrRange], []api.Mark{w}, []api.Mark{one, w}, []api.Mark{w, one}, []api.Mark{one, mark(1, 1, 0), w, one})
			}
		}
	}
	return l
}

// Example 1 of the chapter.
func TestP23_1Example(t *testing.T) {
	for _, l := range [][]api.Event{
		{aPut(at(1, 1, 1)), aRemove(at(1, 1, 2), at(1, 1, 1))},
		{aPut(at(1, 1, 1)), aRemove(at(0, 3, 1), at(1, 1, 1))},
		{aRemove(at(0, 3, 1), at(1, 1, 1)), aPut(at(1, 1, 1))},
		{aRemove(at(2, 3, 1), at(1, 1, 1)), aPut(at(1, 1, 1))},
	} {
		m := must(t, l...)
		if n := compact.Waste(m); n != 2 {
			t.Errorf("of %v waste is %d", l, n)
		}
		holdDo(t, m, m.Context(), 2, nil)
		if n := compact.Waste(m); n != 0 || len(m.Alive()) != 0 {
			t.Errorf("of %v waste is %d, alive are %v", l, n, m.Alive())
		}
		holdDo(t, m, m.Context(), 0, nil)
	}
}

// What each sort of event comes to by marks that have less and more of it.
func TestP23_1Do(t *testing.T) {
	p1, r1, p2 := at(1, 1, 1), at(1, 1, 2), at(2, 1, 1)
	lone, over, ahead := aPut(p1), aPut(p2, p1), aPut(p2, p1, at(3, 1, 1))
	one, two, both := mark(1, 1, 1), mark(1, 1, 2), []api.Mark{mark(1, 1, 1), mark(2, 1, 1)}
	for _, c := range []struct {
		what string
		l    []api.Event
		by   []api.Mark
		n    int
		kept []api.Event
		dead []api.Dot
	}{
		{"nothing", nil, nil, 0, nil, nil},
		{"an alive Put, no marks", []api.Event{lone}, nil, 0, []api.Event{lone}, nil},
		{"an alive Put", []api.Event{lone}, []api.Mark{one}, 0, []api.Event{lone}, nil},
		{"a Put and one over it, no marks", []api.Event{lone, over}, nil, 0, []api.Event{lone, over}, []api.Dot{p1}},
		{"a Put and one over it, the first known", []api.Event{lone, over}, []api.Mark{one}, 1, []api.Event{over}, nil},
		{"a Put and one over it, the second known", []api.Event{lone, over}, both[1:], 0, []api.Event{lone, over}, []api.Dot{p1}},
		{"a Put and one over it", []api.Event{lone, over}, both, 1, bare(over), nil},
		{"a Put over what never came", []api.Event{over}, both[1:], 0, []api.Event{over}, []api.Dot{p1}},
		{"a Put over more than came", []api.Event{lone, ahead}, both, 1, []api.Event{ahead}, []api.Dot{at(3, 1, 1)}},
		{"a dead Put over what never came", []api.Event{over, aRemove(p1, p2)}, both, 2, nil, nil},
		{"a dead Put over what never came, known alone", []api.Event{ahead, aRemove(p1, p2)}, both[1:], 1, []api.Event{aRemove(p1, p2)}, []api.Dot{p1, at(3, 1, 1)}},
		{"a dead Put that is not known", []api.Event{lone, aPut(r1, p1), aPut(at(1, 1, 3), r1)}, []api.Mark{one}, 1, []api.Event{aPut(r1, p1), aPut(at(1, 1, 3), r1)}, []api.Dot{r1}},
		{"a Remove and its Put, no marks", []api.Event{lone, aRemove(r1, p1)}, nil, 0, []api.Event{lone, aRemove(r1, p1)}, []api.Dot{p1}},
		{"a Remove and its Put, the Put known", []api.Event{lone, aRemove(r1, p1)}, []api.Mark{one}, 1, []api.Event{aRemove(r1, p1)}, nil},
		{"a Remove and its Put", []api.Event{lone, aRemove(r1, p1)}, []api.Mark{two}, 2, nil, nil},
		{"a Remove, its Put not known", []api.Event{lone, aRemove(p2, p1)}, both[1:], 0, []api.Event{lone, aRemove(p2, p1)}, []api.Dot{p1}},
		{"a Remove of what never came", []api.Event{aRemove(p2, p1)}, both[1:], 0, []api.Event{aRemove(p2, p1)}, []api.Dot{p1}},
		{"a Remove of more than came", []api.Event{lone, aRemove(p2, p1, at(3, 1, 1))}, both, 1, []api.Event{aRemove(p2, p1, at(3, 1, 1))}, []api.Dot{at(3, 1, 1)}},
		{"a Remove of more than came, at first", []api.Event{lone, aRemove(p2, at(0, 1, 1), p1)}, both, 1, []api.Event{aRemove(p2, at(0, 1, 1), p1)}, []api.Dot{at(0, 1, 1)}},
		{"a dead Remove", []api.Event{lone, aRemove(r1, p1), aPut(p2, r1)}, []api.Mark{two, mark(2, 1, 1)}, 2, bare(over), nil},
		{"a dead Remove that is not settled", []api.Event{aRemove(p1, at(3, 1, 1)), aPut(p2, p1)}, both, 0, append([]api.Event{aRemove(p1, at(3, 1, 1))}, bare(over)...), []api.Dot{p1, at(3, 1, 1)}},
		{"a dead Remove that is not known", []api.Event{lone, aRemove(r1, p1), aPut(p2, r1)}, both, 1, []api.Event{aRemove(r1, p1), aPut(p2, r1)}, []api.Dot{r1}},
		{"a Remove over a Remove", []api.Event{lone, aRemove(r1, p1), aRemove(p2, r1)}, []api.Mark{two, mark(2, 1, 1)}, 3, nil, nil},
		{"two that are over each other", []api.Event{aPut(p1, p2), aPut(p2, p1)}, both, 2, nil, nil},
		{"two that are over each other, one known", []api.Event{aPut(p1, p2), aPut(p2, p1)}, both[:1], 1, []api.Event{aPut(p2, p1)}, []api.Dot{p2}},
	} {
		m, k := must(t, c.l...), tell(c.l...)
		holdDo(t, m, c.by, c.n, c.kept, c.dead...)
		if told, n := k.compacted(c.by); n != c.n || !told.is(m) {
			t.Errorf("%s: told is %d, %v", c.what, n, told)
		}
		holdDo(t, m, c.by, 0, c.kept, c.dead...)
	}
}

func TestP23_1DoOfSome(t *testing.T) {
	l := someEvents()
	all := sorted(l, byEvents)
	m := must(t, l...)
	if n := compact.Waste(m); n != 6 {
		t.Errorf("waste is %d", n)
	}
	holdDo(t, m, nil, 0, all, at(2, 9, 2), at(2, 10, 1), at(2, 10, 2), at(10, 1, 1), at(40, 1, 1))
	// Of device 2's three events one is dead, one is over what never came, and one is over what the marks have not.
	holdDo(t, m, []api.Mark{mark(2, 9, 2), mark(2, 10, 1)}, 1, slices.Concat(all[:4], all[5:]), at(2, 9, 2), at(2, 10, 2), at(10, 1, 1), at(40, 1, 1))
	left := []api.Event{bare(all[0])[0], all[2], all[3]}
	holdDo(t, m, m.Context(), 3, left, at(2, 9, 2), at(40, 1, 1))
	if n := compact.Waste(m); n != 1 {
		t.Errorf("waste is %d", n)
	}
	apply(t, m, aPut(at(40, 1, 1)))
	if n := compact.Waste(m); n != 2 {
		t.Errorf("waste is %d", n)
	}
	holdDo(t, m, m.Context(), 2, []api.Event{left[0], all[2]})
	if n := compact.Waste(m); n != 0 {
		t.Errorf("waste is %d", n)
	}
}

// The errors come in their order: nil, what is wrong with the marks, a dot that the context has not.
func TestP23_1DoOfWrongMarks(t *testing.T) {
	for _, m := range []*ormap.Map{must(t, someEvents()...), must(t, aPut(at(1, 1, 1)), aPut(at(1, 1, 2), at(1, 1, 1))), ormap.New(), new(ormap.Map)} {
		for want, lists := range wrongMarks() {
			for _, l := range lists {
				holdRefused(t, m, l, want)
			}
		}
	}
}

func TestP23_1DoOfNil(t *testing.T) {
	lists := [][]api.Mark{nil, {}, {mark(1, 1, 1)}, {{}}}
	for _, l := range wrongMarks() {
		lists = append(lists, l...)
	}
	for _, l := range lists {
		if got, wrong := compact.Do(nil, l); got != 0 || wrong != api.ErrNil {
			t.Fatalf("Do(nil, %v): %d, %v", l[:min(len(l), 4)], got, wrong)
		}
	}
}

func TestP23_1DoBeyondTheContext(t *testing.T) {
	m := must(t, aPut(at(1, 1, 1)), aPut(at(1, 1, 2), at(1, 1, 1)), aRemove(at(2, 7, 1), at(1, 1, 2)), aRemove(at(2, 7, 2), at(5, 1, 1)))
	for _, l := range [][]api.Mark{
		{mark(1, 1, 3)},
		{mark(1, 1, lastSeq)},
		{mark(2, 7, 3)},
		{mark(1, 1, 2), mark(2, 7, 3)},
		{mark(1, 1, 3), mark(2, 7, 2)},
		{mark(0, 1, 1), mark(1, 1, 2), mark(2, 7, 2)},
		{mark(1, 1, 2), mark(1, 2, 1), mark(2, 7, 2)},
		{mark(1, 1, 2), mark(2, 6, 1), mark(2, 7, 2)},
		{mark(1, 1, 2), mark(2, 7, 2), mark(2, 8, 1)},
		// What is dead, and never came, the context has not.
		{mark(1, 1, 2), mark(2, 7, 2), mark(5, 1, 1)},
		{mark(5, 1, 1)},
		{mark(lastDev, lastInc, lastSeq)},
	} {
		holdRefused(t, m, l, api.ErrRange)
	}
	for _, l := range [][]api.Mark{{mark(0, 1, 1)}, {mark(1, 1, 1)}, manyMarks(mostMarks)} {
		holdRefused(t, ormap.New(), l, api.ErrRange)
		holdRefused(t, new(ormap.Map), l, api.ErrRange)
	}
	// What is wrong with the marks is told ahead of what the context has not.
	holdRefused(t, m, []api.Mark{mark(1, 1, 3), mark(1, 1, 2)}, api.ErrOrder)
	holdRefused(t, m, manyMarks(mostMarks+1), api.ErrLong)
}

func TestP23_1DoAtTheEnds(t *testing.T) {
	for _, a := range []api.Actor{by(0, 1), by(0, lastInc), by(lastDev, 1), by(lastDev, lastInc)} {
		last := api.Dot{A: a, Seq: lastSeq}
		ahead := api.Dot{A: a, Seq: lastSeq - 1}
		kept := []api.Event{aPut(ahead), aPut(last, ahead)}
		load := func() *ormap.Map { return mustLoad(t, []api.Mark{api.Mark(last)}, kept, []api.Dot{ahead}) }
		holdDo(t, load(), []api.Mark{api.Mark(last)}, 1, bare(kept[1]))
		holdDo(t, load(), []api.Mark{api.Mark(ahead)}, 1, kept[1:])
		holdDo(t, load(), []api.Mark{{A: a, Seq: 1}}, 0, kept, ahead)
		holdRefused(t, mustLoad(t, []api.Mark{api.Mark(ahead)}, kept[:1], []api.Dot{ahead}), []api.Mark{api.Mark(last)}, api.ErrRange)
	}
}

// A map that was loaded may have dead dots that no event is over, and alive Puts that one is over.
func TestP23_1DoOfWhatWasLoaded(t *testing.T) {
	p, q := at(1, 1, 1), at(1, 1, 2)
	context := []api.Mark{mark(1, 1, 9)}
	m := mustLoad(t, context, []api.Event{aPut(p), aPut(q, p)}, nil)
	holdDo(t, m, []api.Mark{mark(1, 1, 1)}, 0, []api.Event{aPut(p), aPut(q, p)})
	holdDo(t, m, context, 0, bare(aPut(p), aPut(q)))
	m = mustLoad(t, context, nil, []api.Dot{at(0, 1, 1), p, q, at(1, 1, 9), at(1, 1, 10), at(1, 2, 1)})
	holdDo(t, m, []api.Mark{mark(1, 1, 1)}, 0, nil, at(0, 1, 1), q, at(1, 1, 9), at(1, 1, 10), at(1, 2, 1))
	holdDo(t, m, []api.Mark{mark(1, 1, 8)}, 0, nil, at(0, 1, 1), at(1, 1, 9), at(1, 1, 10), at(1, 2, 1))
	holdDo(t, m, context, 0, nil, at(0, 1, 1), at(1, 1, 10), at(1, 2, 1))
	m = mustLoad(t, context, []api.Event{aPut(p, at(0, 1, 1)), aRemove(q, at(0, 1, 1))}, []api.Dot{p, q})
	holdDo(t, m, context, 1, []api.Event{aRemove(q, at(0, 1, 1))}, q)
}

// A full map has room again for as many as it keeps fewer.
func TestP23_1DoOfAFullMap(t *testing.T) {
	a := by(3, 1)
	var l []api.Event
	for seq := 1; seq <= mostEvents; seq++ {
		e := aPut(api.Dot{A: a, Seq: seq})
		if seq > 1 {
			e.Over = []api.Dot{{A: a, Seq: seq - 1}}
		}
		l = append(l, e)
	}
	full := must(t, l...)
	if n := compact.Waste(full); n != mostEvents {
		t.Errorf("waste is %d", n)
	}
	for _, seq := range []int{1, 2, 255, 256, mostEvents - 2, mostEvents - 1} {
		m := full.Copy()
		var dead []api.Dot
		for _, e := range l[seq : mostEvents-1] {
			dead = append(dead, e.Dot)
		}
		holdDo(t, m, []api.Mark{{A: a, Seq: seq}}, seq, l[seq:], dead...)
		if !m.Room(seq) || m.Room(seq+1) {
			t.Errorf("by %d there is another room than that", seq)
		}
	}
	holdDo(t, full, full.Context(), mostEvents-1, bare(l[mostEvents-1]))
	apply(t, full, aPut(api.Dot{A: a, Seq: mostEvents + 1}, api.Dot{A: a, Seq: mostEvents}))
	holdDo(t, full, full.Context(), 1, bare(aPut(api.Dot{A: a, Seq: mostEvents + 1})))
	// Where all are alive, and over nothing, none goes.
	var all []api.Event
	for _, e := range l {
		all = append(all, aPut(e.Dot))
	}
	m := must(t, all...)
	holdDo(t, m, m.Context(), 0, all)
	if n := compact.Waste(m); n != 0 {
		t.Errorf("waste is %d", n)
	}
}

func TestP23_1DoOverAsManyAsMayBe(t *testing.T) {
	var l []api.Event
	var over []api.Dot
	for seq := 1; seq <= mostOver; seq++ {
		over = append(over, at(3, 1, seq))
		l = append(l, aPut(at(3, 1, seq)))
	}
	for _, e := range []api.Event{aPut(at(4, 1, 1), over...), aRemove(at(4, 1, 1), over...)} {
		m := must(t, append(l, e)...)
		holdDo(t, m, []api.Mark{mark(3, 1, mostOver-1), mark(4, 1, 1)}, mostOver-1, []api.Event{l[mostOver-1], e}, over[mostOver-1])
		gone, left := 1, bare(e)
		if e.Kind == 2 {
			gone, left = 2, nil
		}
		holdDo(t, m, []api.Mark{mark(3, 1, mostOver), mark(4, 1, 1)}, gone, left)
	}
}

// A context may have more actors than marks may be: by fewer it is compacted, by all of them it is not.
func TestP23_1DoOfMoreActorsThanMarksMayBe(t *testing.T) {
	m := ormap.New()
	never := at(0, lastInc, 1)
	all := manyMarks(mostMarks + 2)
	for _, x := range all[2:] {
		apply(t, m, aRemove(api.Dot(x), never))
		if !m.Forget(api.Dot(x)) {
			t.Fatalf("%v is not forgotten", x)
		}
	}
	r := aRemove(api.Dot(all[1]), api.Dot(all[0]), never)
	apply(t, m, aPut(api.Dot(all[0])))
	apply(t, m, r)
	holdRefused(t, m, m.Context(), api.ErrLong)
	holdRefused(t, m, all, api.ErrLong)
	holdRefused(t, m, append(slices.Clone(all[:mostMarks-1]), mark(lastDev, lastInc, 1)), api.ErrRange)
	holdDo(t, m, all[2:], 0, []api.Event{aPut(api.Dot(all[0])), r}, sorted([]api.Dot{api.Dot(all[0]), never}, byDots)...)
	holdDo(t, m, all[:mostMarks], 1, []api.Event{r}, never)
}

// A map may have more dead dots than may be loaded: what never came stays dead.
func TestP23_1DoOfManyDeadDots(t *testing.T) {
	m := ormap.New()
	for i := range mostEvents {
		var over []api.Dot
		for seq := 1; seq <= mostOver; seq++ {
			over = append(over, at(5, 1, i*mostOver+seq))
		}
		apply(t, m, aRemove(at(4, 1, i+1), over...))
	}
	was := m.Copy()
	if n, wrong := compact.Do(m, m.Context()); n != 0 || wrong != api.OK || !same(m, was) || len(m.Deads()) != mostOver*mostEvents {
		t.Errorf("%d, %v, dead are %d", n, wrong, len(m.Deads()))
	}
	if n := compact.Waste(m); n != mostEvents {
		t.Errorf("waste is %d", n)
	}
}

func TestP23_1Settled(t *testing.T) {
	l := []api.Mark{mark(1, 1, 3), mark(2, 7, 1), mark(2, 8, lastSeq)}
	for _, c := range []struct {
		what string
		e    api.Event
		want bool
	}{
		{"a first Put", aPut(at(1, 1, 1)), true},
		{"a last Put", aPut(at(1, 1, 3)), true},
		{"a Put beyond", aPut(at(1, 1, 4)), false},
		{"a Put of another life", aPut(at(1, 2, 1)), false},
		{"a Put of another device", aPut(at(0, 1, 1)), false},
		{"a Put over its own", aPut(at(1, 1, 3), at(1, 1, 1), at(1, 1, 2)), true},
		{"a Put over another one", aPut(at(2, 7, 1), at(1, 1, 3)), true},
		{"a Put over one beyond", aPut(at(2, 7, 1), at(1, 1, 4)), false},
		{"a Put over one beyond at first", aPut(at(2, 7, 1), at(0, 1, 1), at(1, 1, 3), at(2, 8, 1)), false},
		{"a Put over one beyond between", aPut(at(2, 7, 1), at(1, 1, 3), at(1, 2, 1), at(2, 8, 1)), false},
		{"a Put over one beyond at last", aPut(at(2, 7, 1), at(1, 1, 3), at(2, 8, 1), at(3, 1, 1)), false},
		{"a Put beyond over one that is known", aPut(at(2, 7, 2), at(1, 1, 3)), false},
		{"a Remove", aRemove(at(2, 7, 1), at(1, 1, 1)), true},
		{"a Remove over one beyond", aRemove(at(2, 7, 1), at(1, 1, 3), at(2, 6, 1)), false},
		{"a Remove beyond", aRemove(at(2, 7, 2), at(1, 1, 3)), false},
		{"a Put at the last number", aPut(at(2, 8, lastSeq), at(2, 8, lastSeq-1)), true},
		{"a Put over the last number", aPut(at(1, 1, 1), at(2, 8, lastSeq)), true},
	} {
		if got := compact.Settled(c.e, l); got != c.want {
			t.Errorf("%s: %v", c.what, got)
		}
		if compact.Settled(c.e, nil) || compact.Settled(c.e, []api.Mark{}) {
			t.Errorf("%s: settled by no marks", c.what)
		}
	}
}

// Whether an event may be is not asked: its dots are.
func TestP23_1SettledOfWhatMayNotBe(t *testing.T) {
	l := []api.Mark{mark(1, 1, 100), mark(2, 1, 2)}
	long := aRemove(at(2, 1, 1))
	for seq := 1; seq <= 100; seq++ {
		long.Over = append(long.Over, at(1, 1, seq))
	}
	kind, stamp := aPut(at(1, 1, 1)), aPut(at(1, 1, 1))
	kind.Kind, stamp.Stamp.Wall = -7, math.MinInt
	for _, e := range []api.Event{
		kind, stamp, long, aRemove(at(1, 1, 1)), aPut(at(1, 1, 1), at(1, 1, 1)), aPut(at(1, 1, 1), at(1, 1, 2)),
		aPut(at(1, 1, 1), at(2, 1, 1), at(2, 1, 1)), aPut(at(1, 1, 1), at(2, 1, 2), at(2, 1, 1)), {Dot: at(1, 1, 1)},
	} {
		if !compact.Settled(e, l) {
			t.Errorf("%v is not settled", e)
		}
		if e.Over = append(e.Over, at(1, 1, 101)); compact.Settled(e, l) {
			t.Errorf("%v is settled", e)
		}
	}
	if compact.Settled(api.Event{}, l) || compact.Settled(api.Event{}, nil) {
		t.Error("the zero event is settled")
	}
}

func TestP23_1SettledAtTheEnds(t *testing.T) {
	l := []api.Mark{mark(0, 1, lastSeq), mark(0, lastInc, lastSeq), mark(lastDev, 1, lastSeq), mark(lastDev, lastInc, lastSeq)}
	for _, dev := range ends() {
		for _, inc := range ends() {
			for _, seq := range ends() {
				d := at(dev, inc, seq)
				want := (dev == 0 || dev == lastDev) && (inc == 1 || inc == lastInc) && within(seq, 1, lastSeq)
				if compact.Settled(aPut(d), l) != want || compact.Settled(aPut(at(0, 1, lastSeq), d), l) != want || compact.Settled(aRemove(at(0, 1, lastSeq), at(0, 1, 1), d), l) != want {
					t.Fatalf("%v: not %v", d, want)
				}
				if api.Mark(d) == l[0] {
					continue
				}
				if compact.Settled(aPut(d), []api.Mark{mark(0, 1, 1)}) != (d == at(0, 1, 1)) {
					t.Fatalf("%v by one mark", d)
				}
			}
		}
	}
}

func TestP23_1SettledByWrongMarks(t *testing.T) {
	one := aPut(at(1, 1, 1))
	if !compact.Settled(one, []api.Mark{mark(1, 1, 1)}) {
		t.Fatal("not settled")
	}
	for _, lists := range wrongMarks() {
		for _, l := range lists {
			if compact.Settled(one, l) || compact.Settled(api.Event{}, l) || len(l) > 0 && compact.Settled(aPut(api.Dot(l[0])), l) {
				t.Fatalf("settled by %v", l[:min(len(l), 4)])
			}
		}
	}
	l := manyMarks(mostMarks)
	for _, m := range []api.Mark{l[0], l[1], l[mostMarks/2], l[mostMarks-1]} {
		if !compact.Settled(aPut(api.Dot(m), api.Dot(l[7])), l) {
			t.Errorf("%v is not settled", m)
		}
	}
}

func TestP23_1Waste(t *testing.T) {
	p1, p2 := at(1, 1, 1), at(1, 1, 2)
	for _, c := range []struct {
		what string
		l    []api.Event
		want int
	}{
		{"nothing", nil, 0},
		{"an alive Put", []api.Event{aPut(p1)}, 0},
		{"two alive Puts", []api.Event{aPut(p1), aPut(p2)}, 0},
		{"an alive Put over a dead one", []api.Event{aPut(p1), aPut(p2, p1)}, 2},
		{"an alive Put over what never came", []api.Event{aPut(p1, at(0, 1, 1))}, 1},
		{"an alive Put over much that never came", []api.Event{aPut(p1, at(0, 1, 1), at(0, 1, 2), at(0, 1, 3))}, 1},
		{"a dead Put and its Remove", []api.Event{aPut(p1), aRemove(p2, p1)}, 2},
		{"a dead Put over something", []api.Event{aPut(p1, at(0, 1, 1)), aRemove(p2, p1)}, 2},
		{"a Remove alone", []api.Event{aRemove(p1, at(0, 1, 1))}, 1},
		{"a dead Remove", []api.Event{aRemove(p1, at(0, 1, 1)), aPut(p2, p1)}, 2},
		{"two Removes over one Put", []api.Event{aPut(p1), aRemove(p2, p1), aRemove(at(2, 1, 1), p1), aPut(at(2, 1, 2))}, 3},
		{"some", someEvents(), 6},
	} {
		m := must(t, c.l...)
		if got := compact.Waste(m); got != c.want || tell(c.l...).waste() != c.want {
			t.Errorf("%s: %d, told %d", c.what, got, tell(c.l...).waste())
		}
		if !same(m, must(t, c.l...)) {
			t.Errorf("%s: changed", c.what)
		}
	}
	if n := compact.Waste(nil); n != 0 {
		t.Errorf("of nil: %d", n)
	}
	if n := compact.Waste(new(ormap.Map)); n != 0 {
		t.Errorf("of the zero map: %d", n)
	}
}

// What is kept no more, and what is dead, is no waste; what was bared is none, either.
func TestP23_1WasteOfWhatIsKept(t *testing.T) {
	m := must(t, aPut(at(1, 1, 1)), aPut(at(1, 1, 2), at(1, 1, 1)), aRemove(at(1, 1, 3), at(9, 1, 1)))
	for i, change := range []func() bool{
		func() bool { return m.Forget(at(1, 1, 1)) },
		func() bool { return m.Bare(at(1, 1, 2)) },
		func() bool { return m.Forget(at(1, 1, 3)) },
	} {
		if n := compact.Waste(m); n != 3-i {
			t.Errorf("waste is %d, not %d", n, 3-i)
		}
		if !change() {
			t.Fatalf("change %d was none", i)
		}
	}
	if n := compact.Waste(m); n != 0 || len(m.Deads()) != 2 {
		t.Errorf("waste is %d, dead are %v", n, m.Deads())
	}
	if n := compact.Waste(mustLoad(t, nil, nil, []api.Dot{at(1, 1, 1), at(1, 1, 2)})); n != 0 {
		t.Errorf("waste of dead dots is %d", n)
	}
}

// Neither marks nor events, nor what lies in the room behind them, are changed or kept.
func TestP23_1WhatIsHandedInIsNotChanged(t *testing.T) {
	room := []api.Mark{mark(0, 1, 1), mark(2, 9, 1), mark(2, 9, 2), mark(50, 1, 1)}
	dots := []api.Dot{at(0, 1, 1), at(2, 9, 1), at(3, 1, 1)}
	wantRoom, wantDots := slices.Clone(room), slices.Clone(dots)
	for n := range len(room) + 1 {
		m := must(t, someEvents()...)
		compact.Do(m, room[:n])
		for k := range len(dots) + 1 {
			compact.Settled(aRemove(at(2, 9, 1), dots[:k]...), room[:n])
		}
		if !slices.Equal(room, wantRoom) || !slices.Equal(dots, wantDots) {
			t.Fatalf("changed: %v, %v", room, dots)
		}
	}
	m := must(t, someEvents()...)
	l := m.Context()
	compact.Do(m, l)
	was := m.Copy()
	for i := range l {
		l[i] = mark(60, 60, 60)
	}
	if !same(m, was) {
		t.Errorf("behind a change of the marks: %v", m.Events())
	}
}

// A copy goes its own way.
func TestP23_1DoOfACopy(t *testing.T) {
	m := must(t, someEvents()...)
	c := m.Copy()
	if n, wrong := compact.Do(c, c.Context()); n != 4 || wrong != api.OK {
		t.Fatalf("%d, %v", n, wrong)
	}
	if !same(m, must(t, someEvents()...)) {
		t.Errorf("changed: %v", m.Events())
	}
}

// subsets are all parts of a list, in its order.
func subsets(l []api.Dot) [][]api.Dot {
	all := [][]api.Dot{nil}
	for _, d := range l {
		for _, s := range all {
			all = append(all, append(slices.Clone(s), d))
		}
	}
	return all
}

// eachSort are all Puts and Removes of a dot, over all parts of a list.
func eachSort(d api.Dot, over ...api.Dot) []api.Event {
	var all []api.Event
	for _, s := range subsets(over) {
		all = append(all, aPut(d, s...))
		if len(s) > 0 {
			all = append(all, aRemove(d, s...))
		}
	}
	return all
}

// All maps of three events, over what came and what did not, by all marks.
func TestP23_1AllShortHistories(t *testing.T) {
	a, b, c, d := at(1, 1, 1), at(1, 1, 2), at(2, 1, 1), at(2, 1, 2)
	for _, first := range eachSort(a, c, d) {
		for _, second := range eachSort(b, a, c, d) {
			for _, third := range eachSort(c, a, b) {
				l := []api.Event{first, second, third}
				whole, k := must(t, l...), tell(l...)
				for _, marks := range [][]api.Mark{
					nil, {api.Mark(a)}, {api.Mark(b)}, {api.Mark(c)}, {api.Mark(a), api.Mark(c)}, {api.Mark(b), api.Mark(c)},
				} {
					holdTold(t, whole.Copy(), k, marks)
				}
			}
		}
	}
}

// holdTold compacts a map, and holds all that can be asked against what is told; it answers what is told then.
func holdTold(t *testing.T, m *ormap.Map, k *told, l []api.Mark) *told {
	t.Helper()
	was := m.Copy()
	if got := compact.Waste(m); got != k.waste() {
		t.Fatalf("of %v, %v waste is %d, not %d", m.Events(), m.Deads(), got, k.waste())
	}
	for _, e := range k.kept {
		if got := compact.Settled(e, l); got != settled(e, l) {
			t.Fatalf("%v by %v is settled: %v", e, l, got)
		}
	}
	c, want := k.compacted(l)
	if got, wrong := compact.Do(m, l); got != want || wrong != api.OK {
		t.Fatalf("Do of %v by %v: %d, %v, not %d", was.Events(), l, got, wrong, want)
	}
	if !c.is(m) || compact.Waste(m) != c.waste() {
		t.Fatalf("of %v, %v by %v came %v, %v, not %v", was.Events(), was.Deads(), l, m.Events(), m.Deads(), c)
	}
	if !shows(m, was) {
		t.Fatalf("by %v alive are %v, not %v", l, m.Alive(), was.Alive())
	}
	return c
}

// drawnOver are dots in order that an event may be over: of all, or of those alone that came.
func drawnOver(r *rand.Rand, k *told, own api.Dot, beyond int) []api.Dot {
	var l []api.Dot
	for range r.Intn(4) {
		d := api.Dot{A: pick(r, someActors())}
		n := k.number(d.A) + beyond
		if n == 0 {
			continue
		}
		d.Seq = 1 + r.Intn(n)
		if d.A != own.A || d.Seq < own.Seq {
			l = append(l, d)
		}
	}
	return slices.Compact(sorted(l, byDots))
}

// drawnNext is an event of an actor that can be applied.
func drawnNext(r *rand.Rand, k *told, a api.Actor, beyond int) api.Event {
	d := api.Dot{A: a, Seq: k.number(a) + 1}
	e := aPut(d, drawnOver(r, k, d, beyond)...)
	e.Key = aKey(pick(r, []string{"a", "b", "ab"}))
	e.Stamp.Wall = r.Intn(3)
	if len(e.Over) > 0 && r.Intn(3) == 0 {
		e.Kind, e.Key, e.Cookie = 2, api.Key{}, api.Cookie{}
	}
	return e
}

// drawnHistory are events that can be applied, one after the other, over what came, and over some numbers beyond that.
func drawnHistory(r *rand.Rand, n, beyond int) []api.Event {
	k := tell()
	for range n {
		k.apply(drawnNext(r, k, pick(r, someActors()), beyond))
	}
	return k.kept
}

// drawnMarks are marks in order, of what a context has.
func drawnMarks(r *rand.Rand, context []api.Mark) []api.Mark {
	var l []api.Mark
	whole := r.Intn(4) == 0
	for _, m := range context {
		if !whole {
			m.Seq = min(m.Seq, r.Intn(m.Seq+3))
		}
		if m.Seq > 0 {
			l = append(l, m)
		}
	}
	return l
}

func TestP23_1DrawnMaps(t *testing.T) {
	r := rand.New(rand.NewSource(23))
	gone, bared, cleared := 0, 0, 0
	for range 3000 {
		l := drawnHistory(r, r.Intn(25), 2)
		m, k := must(t, l...), tell(l...)
		for range 4 {
			c := holdTold(t, m, k, drawnMarks(r, m.Context()))
			gone += len(k.kept) - len(c.kept)
			bared += k.waste() - c.waste() - len(k.kept) + len(c.kept)
			cleared += len(k.dead) - len(c.dead)
			k = c
			for range r.Intn(3) {
				e := drawnNext(r, k, pick(r, someActors()), 2)
				apply(t, m, e)
				k.apply(e)
			}
		}
	}
	if gone < 1000 || bared < 1000 || cleared < 1000 {
		t.Errorf("forgotten %d, bared %d, cleared %d", gone, bared, cleared)
	}
}

// Marks that go beyond the context are refused, wherever they do.
func TestP23_1DrawnMarksBeyond(t *testing.T) {
	r := rand.New(rand.NewSource(24))
	for range 2000 {
		m := must(t, drawnHistory(r, 1+r.Intn(20), 2)...)
		context := m.Context()
		l := drawnMarks(r, context)
		beyond := api.Mark{A: pick(r, append(someActors(), by(2, 2), by(11, 1))), Seq: 1}
		i := slices.IndexFunc(context, func(x api.Mark) bool { return x.A == beyond.A })
		if i >= 0 {
			beyond.Seq = context[i].Seq + 1 + r.Intn(2)
		}
		l = slices.DeleteFunc(l, func(x api.Mark) bool { return x.A == beyond.A })
		holdRefused(t, m, inOrder(append(l, beyond)), api.ErrRange)
	}
}

// By the same marks once more nothing changes; by more of them it comes to the same, whatever it was compacted by ahead.
func TestP23_1StepByStep(t *testing.T) {
	r := rand.New(rand.NewSource(25))
	for range 1500 {
		m := must(t, drawnHistory(r, r.Intn(30), 2)...)
		less, more := drawnMarks(r, m.Context()), drawnMarks(r, m.Context())
		a, b, c := m.Copy(), m.Copy(), m.Copy()
		first, _ := compact.Do(a, less)
		second, _ := compact.Do(a, more)
		once := a.Copy()
		for _, l := range [][]api.Mark{less, more} {
			if n, wrong := compact.Do(a, l); n != 0 || wrong != api.OK || !same(a, once) {
				t.Fatalf("once more: %d, %v", n, wrong)
			}
		}
		third, _ := compact.Do(b, more)
		fourth, _ := compact.Do(b, less)
		if !same(a, b) || first+second != third+fourth {
			t.Fatalf("by %v and %v: %v, %v; %v, %v", less, more, a.Events(), a.Deads(), b.Events(), b.Deads())
		}
		compact.Do(a, m.Context())
		compact.Do(c, m.Context())
		if !same(a, c) {
			t.Fatalf("at last: %v, %v; %v, %v", a.Events(), a.Deads(), c.Events(), c.Deads())
		}
	}
}

func TestP23_2ContextAndAliveStay(t *testing.T) {
	r := rand.New(rand.NewSource(26))
	for range 2000 {
		m := must(t, drawnHistory(r, r.Intn(40), 2)...)
		was := m.Copy()
		for range 3 {
			l := drawnMarks(r, m.Context())
			if _, wrong := compact.Do(m, l); wrong != api.OK || !shows(m, was) {
				t.Fatalf("by %v: %v; %v, not %v", l, wrong, m.Alive(), was.Alive())
			}
			holdAlive(t, m, was, l)
		}
	}
}

// holdAlive holds of each alive Put that it is over nothing, if it is settled by marks, or over the same.
func holdAlive(t *testing.T, m, was *ormap.Map, l []api.Mark) {
	t.Helper()
	before := was.Alive()
	for i, e := range m.Alive() {
		over := before[i].Over
		if settled(before[i], l) && len(e.Over) > 0 || len(e.Over) > 0 && !slices.Equal(e.Over, over) {
			t.Fatalf("by %v %v is over %v, and was over %v", l, e.Dot, e.Over, over)
		}
	}
	for _, k := range []api.Key{aKey("a"), aKey("b"), aKey("ab"), {}} {
		x, one := m.Winner(k)
		y, two := was.Winner(k)
		if one != two || x.Dot != y.Dot || x.Cookie != y.Cookie || !alike(bare(m.Key(k)...), bare(was.Key(k)...)) {
			t.Fatalf("by %v of %v %v is shown, and was %v", l, k, x, y)
		}
	}
}

// Whatever comes later, and whenever it was compacted, comes to the same as in a map that never was.
func TestP23_3LaterEvents(t *testing.T) {
	r := rand.New(rand.NewSource(27))
	for range 1500 {
		whole := drawnHistory(r, 1+r.Intn(45), 3)
		never, once, often := ormap.New(), ormap.New(), ormap.New()
		when := r.Intn(len(whole))
		for i, e := range whole {
			// Those that came, and those that can't come yet, come again and again.
			for _, again := range []api.Event{e, pick(r, whole), e} {
				is, wrong := never.Apply(again)
				for _, m := range []*ormap.Map{once, often} {
					if got, e := m.Apply(again); got != is || e != wrong {
						t.Fatalf("%v: %v, %v, not %v, %v", again, got, e, is, wrong)
					}
				}
			}
			if i == when {
				compact.Do(once, drawnMarks(r, once.Context()))
			}
			compact.Do(often, drawnMarks(r, often.Context()))
			if !shows(once, never) || !shows(often, never) {
				t.Fatalf("behind %v: %v, %v, not %v", e, once.Alive(), often.Alive(), never.Alive())
			}
		}
		holdAlive(t, often, never, nil)
		end := never.Copy()
		for _, m := range []*ormap.Map{once, often, end} {
			compact.Do(m, never.Context())
		}
		if !same(once, end) || !same(often, end) {
			t.Fatalf("at last: %v, %v, not %v", once.Events(), often.Events(), end.Events())
		}
	}
}

// A Put that comes behind what is over it is never alive, though what is over it was dead, and is kept no more.
func TestP23_3WhatIsDeadAheadOfItsComing(t *testing.T) {
	late := at(3, 1, 1)
	for _, l := range [][]api.Event{
		{aRemove(at(1, 1, 1), late)},
		{aPut(at(1, 1, 1), late)},
		{aPut(at(1, 1, 1), late), aPut(at(1, 1, 2), at(1, 1, 1))},
		{aPut(at(1, 1, 1), late), aRemove(at(2, 1, 1), at(1, 1, 1))},
		{aRemove(at(1, 1, 1), late), aRemove(at(2, 1, 1), at(1, 1, 1))},
	} {
		m := must(t, l...)
		if _, wrong := compact.Do(m, m.Context()); wrong != api.OK || !m.Dead(late) {
			t.Fatalf("of %v: %v, dead are %v", l, wrong, m.Deads())
		}
		apply(t, m, aPut(late))
		if slices.ContainsFunc(m.Alive(), func(e api.Event) bool { return e.Dot == late }) {
			t.Fatalf("of %v alive are %v", l, m.Alive())
		}
		if _, wrong := compact.Do(m, m.Context()); wrong != api.OK || m.Len() != len(m.Alive()) || len(m.Deads()) != 0 {
			t.Fatalf("of %v: %v, kept are %v, dead are %v", l, wrong, m.Events(), m.Deads())
		}
		// Its own dot is dead no more, and it does not come again.
		if is, wrong := m.Apply(aPut(late)); is || wrong != api.OK || slices.ContainsFunc(m.Alive(), func(e api.Event) bool { return e.Dot == late }) {
			t.Fatalf("of %v alive are %v", l, m.Alive())
		}
	}
}

func TestP23_4ByItsOwnContext(t *testing.T) {
	r := rand.New(rand.NewSource(28))
	for range 2000 {
		m := must(t, drawnHistory(r, r.Intn(45), 0)...)
		alive, n := m.Alive(), m.Len()
		for range r.Intn(3) {
			compact.Do(m, drawnMarks(r, m.Context()))
		}
		n = m.Len()
		got, wrong := compact.Do(m, m.Context())
		if wrong != api.OK || got != n-len(alive) || !alike(m.Events(), bare(alive...)) || len(m.Deads()) != 0 {
			t.Fatalf("%d, %v: kept are %v, alive were %v", got, wrong, m.Events(), alive)
		}
		if compact.Waste(m) != 0 {
			t.Fatalf("of %v waste is %d", m.Events(), compact.Waste(m))
		}
	}
}

// Where some are over what never came, these alone stay as they are, but for dead Puts.
func TestP23_4OverWhatNeverCame(t *testing.T) {
	r := rand.New(rand.NewSource(29))
	stayed := 0
	for range 2000 {
		m := must(t, drawnHistory(r, r.Intn(45), 2)...)
		was, context := m.Copy(), m.Context()
		compact.Do(m, context)
		for _, e := range m.Events() {
			isAlive := slices.ContainsFunc(was.Alive(), func(a api.Event) bool { return a.Dot == e.Dot })
			if len(e.Over) == 0 && !isAlive || len(e.Over) > 0 && (settled(e, context) || e.Kind == 1 && !isAlive) {
				t.Fatalf("by %v %v is kept", context, e)
			}
		}
		for _, d := range m.Deads() {
			kept := slices.ContainsFunc(m.Events(), func(e api.Event) bool { return e.Dot == d && e.Kind == 2 })
			if have(context, d) && !kept {
				t.Fatalf("by %v %v is dead", context, d)
			}
		}
		if compact.Waste(m) > 0 {
			stayed++
		}
	}
	if stayed < 100 {
		t.Errorf("of %d maps only something stayed", stayed)
	}
}
