package delta_test

import (
	"fmt"
	"math"
	"math/rand"
	"slices"
	"testing"

	"biscotti/api"
	"biscotti/delta"
	"biscotti/event"
	"biscotti/ormap"
)

// The greatest numbers of what may be, by the document's words.
const (
	lastDev    = 63
	lastInc    = 1 << 20
	lastSeq    = 1 << 32
	lastTime   = 1 << 40
	mostEvents = 2048
	mostMarks  = 4096
)

// by is an actor, at is a dot, and mark is a mark.
func by(dev, inc int) api.Actor {
	return api.Actor{Dev: dev, Inc: inc}
}

func at(dev, inc, seq int) api.Dot {
	return api.Dot{A: by(dev, inc), Seq: seq}
}

func mark(dev, inc, seq int) api.Mark {
	return api.Mark{A: by(dev, inc), Seq: seq}
}

// aKey is the key of cookies of that name.
func aKey(name string) api.Key {
	return api.Key{Name: name, Domain: "shop.test", Path: "/"}
}

// aPut is a Put over dots, and aRemove is a Remove.
func aPut(d api.Dot, over ...api.Dot) api.Event {
	return api.Event{
		Dot:    d,
		Stamp:  api.Stamp{Wall: 5, Dev: d.A.Dev},
		Kind:   1,
		Key:    aKey("sid"),
		Cookie: api.Cookie{Value: fmt.Sprint(d), Expiry: lastTime},
		Over:   over,
	}
}

func aRemove(d api.Dot, over ...api.Dot) api.Event {
	return api.Event{Dot: d, Stamp: api.Stamp{Wall: 5, Dev: d.A.Dev}, Kind: 2, Over: over}
}

// run are n Puts of one actor, in order.
func run(a api.Actor, n int) []api.Event {
	var l []api.Event
	for seq := 1; seq <= n; seq++ {
		l = append(l, aPut(api.Dot{A: a, Seq: seq}))
	}
	return l
}

// cloned are the same events, in memory of their own.
func cloned(l []api.Event) []api.Event {
	var c []api.Event
	for _, e := range l {
		e.Over = slices.Clone(e.Over)
		c = append(c, e)
	}
	return c
}

// within tells whether n is one of the numbers from one to another one.
func within(n, from, to int) bool {
	return min(max(n, from), to) == n
}

// byDots compares by layer 16's words.
func byDots(a, b api.Dot) int {
	return slices.Compare([]int{a.A.Dev, a.A.Inc, a.Seq}, []int{b.A.Dev, b.A.Inc, b.Seq})
}

// told is what a map is by layer 21's words, as far as this layer asks for it, told another way.
type told struct {
	had  []api.Dot // each dot that it ever had
	kept []api.Event
}

func tell(l ...api.Event) *told {
	k := &told{}
	for _, e := range l {
		k.apply(e)
	}
	return k
}

func (k *told) has(d api.Dot) bool {
	return slices.Contains(k.had, d)
}

// number is how far an actor was heard.
func (k *told) number(a api.Actor) int {
	n := 0
	for k.has(api.Dot{A: a, Seq: n + 1}) {
		n++
	}
	return n
}

func (k *told) apply(e api.Event) (bool, api.Errno) {
	switch {
	case !event.Right(e):
		return false, api.ErrForm
	case k.has(e.Dot):
		return false, api.OK
	case e.Dot.Seq > 1 && !k.has(api.Dot{A: e.Dot.A, Seq: e.Dot.Seq - 1}):
		return false, api.ErrOrder
	case len(k.kept) >= mostEvents:
		return false, api.ErrFull
	}
	k.had = append(k.had, e.Dot)
	k.kept = append(k.kept, cloned([]api.Event{e})...)
	return true, api.OK
}

// marks are those of the context.
func (k *told) marks() []api.Mark {
	var l []api.Mark
	for _, d := range k.had {
		if d.Seq == k.number(d.A) {
			l = append(l, api.Mark(d))
		}
	}
	slices.SortFunc(l, func(x, y api.Mark) int { return byDots(api.Dot(x), api.Dot(y)) })
	return l
}

// have tells whether marks have a dot.
func have(l []api.Mark, d api.Dot) bool {
	for _, m := range l {
		if m.A == d.A && d.Seq <= m.Seq {
			return true
		}
	}
	return false
}

// beyond is what is kept beyond marks, by the dots.
func (k *told) beyond(l []api.Mark) []api.Event {
	var all []api.Event
	for _, e := range k.kept {
		if !have(l, e.Dot) {
			all = append(all, e)
		}
	}
	slices.SortFunc(all, func(a, b api.Event) int { return byDots(a.Dot, b.Dot) })
	return all
}

// first are the first most ones.
func first(l []api.Event, most int) []api.Event {
	if most < 0 || most > len(l) {
		return l
	}
	return l[:most]
}

// needs tells whether there is a dot that marks have not, and behind whether they have one that is none of these.
func (k *told) needs(l []api.Mark) bool {
	return slices.ContainsFunc(k.had, func(d api.Dot) bool { return !have(l, d) })
}

func (k *told) behind(l []api.Mark) bool {
	for _, m := range l {
		for seq := 1; seq <= m.Seq; seq++ {
			if !k.has(api.Dot{A: m.A, Seq: seq}) {
				return true
			}
		}
	}
	return false
}

// merge is by the chapter's words what Merge does, and answers.
func (k *told) merge(l []api.Event) (int, api.Errno) {
	var errs []api.Errno
	n := 0
	for _, e := range l {
		is, wrong := k.apply(e)
		if is {
			n++
		} else if wrong != api.OK {
			errs = append(errs, wrong)
		}
	}
	return n, append(errs, api.OK)[0]
}

// alike tells whether two lists have the same events.
func alike(a, b []api.Event) bool {
	return slices.EqualFunc(a, b, event.Same)
}

// must is the map of events, each of which is applied.
func must(t *testing.T, l ...api.Event) *ormap.Map {
	t.Helper()
	m := ormap.New()
	for _, e := range l {
		if is, wrong := m.Apply(e); !is || wrong != api.OK {
			t.Fatalf("%v was not applied: %v, %v", e, is, wrong)
		}
	}
	return m
}

// mustLoad is the map that is loaded.
func mustLoad(t *testing.T, l []api.Mark, kept []api.Event, dead []api.Dot) *ormap.Map {
	t.Helper()
	m, wrong := ormap.Load(l, kept, dead)
	if m == nil || wrong != api.OK {
		t.Fatalf("nothing was loaded of %v: %v", l, wrong)
	}
	return m
}

// same tells whether two maps tell the same of themselves.
func same(a, b *ormap.Map) bool {
	return slices.Equal(a.Context(), b.Context()) && alike(a.Events(), b.Events()) && slices.Equal(a.Deads(), b.Deads()) &&
		alike(a.Alive(), b.Alive()) && alike(a.Winners(), b.Winners()) && a.Len() == b.Len()
}

// holdOf holds what Of answers against what is wanted.
func holdOf(t *testing.T, m *ormap.Map, l []api.Mark, most int, want []api.Event, wanted api.Errno) {
	t.Helper()
	got, wrong := delta.Of(m, l, most)
	if wrong != wanted || !alike(got, want) {
		t.Fatalf("Of(%v, %d): %v, %v, not %v, %v", l, most, got, wrong, want, wanted)
	}
}

// holdAsked holds what Needs and Behind answer against what is wanted.
func holdAsked(t *testing.T, m *ormap.Map, l []api.Mark, needs, behind bool) {
	t.Helper()
	if got := delta.Needs(m, l); got != needs {
		t.Fatalf("Needs(%v, %v): %v", m.Context(), l, got)
	}
	if got := delta.Behind(m, l); got != behind {
		t.Fatalf("Behind(%v, %v): %v", m.Context(), l, got)
	}
}

// holdMerge merges, and holds the answer, and what the map is then, against what is wanted.
func holdMerge(t *testing.T, m *ormap.Map, l []api.Event, n int, wanted api.Errno, kept ...api.Event) {
	t.Helper()
	if got, wrong := delta.Merge(m, l); got != n || wrong != wanted {
		t.Fatalf("Merge(%v): %d, %v, not %d, %v", l, got, wrong, n, wanted)
	}
	slices.SortFunc(kept, func(a, b api.Event) int { return byDots(a.Dot, b.Dot) })
	if got := m.Events(); !alike(got, kept) {
		t.Fatalf("behind Merge(%v) kept are %v, not %v", l, got, kept)
	}
}

// pick is one of a list.
func pick[T any](r *rand.Rand, l []T) T {
	return l[r.Intn(len(l))]
}

// ends are the ends of what numbers may be, and of an int, with what lies on either side.
func ends() []int {
	l := []int{math.MinInt, math.MinInt + 1, math.MinInt32, -lastSeq, math.MaxInt32, math.MaxInt - 1, math.MaxInt}
	for _, near := range []int{0, lastDev, lastInc, lastSeq} {
		for by := -1; by <= 1; by++ {
			l = append(l, near+by)
		}
	}
	slices.Sort(l)
	return slices.Compact(l)
}

// someActors are actors that stand in another order as texts than as numbers.
func someActors() []api.Actor {
	return []api.Actor{by(0, 1), by(2, 1), by(2, 10), by(2, 9), by(10, 1), by(lastDev, lastInc)}
}

// someEvents has Puts and Removes of some actors, each of which can be applied; two Puts and a Remove are dead.
func someEvents() []api.Event {
	return []api.Event{
		aPut(at(10, 1, 1)),
		aPut(at(2, 10, 1), at(10, 1, 1)),
		aPut(at(2, 9, 1)),
		aPut(at(2, 10, 2)),
		aRemove(at(2, 9, 2), at(2, 10, 1), at(40, 1, 1)),
		aPut(at(0, 1, 1), at(2, 9, 2)),
		aPut(at(2, 9, 3)),
	}
}

// inOrder are those events by their dots.
func inOrder() []api.Event {
	l := someEvents()
	return []api.Event{l[5], l[2], l[4], l[6], l[1], l[3], l[0]}
}

// Example 1 of the chapter.
func TestP22_1Example(t *testing.T) {
	e := aPut(at(1, 1, 1), at(0, 1, 1))
	m := must(t, e)
	for _, l := range [][]api.Mark{nil, {}} {
		for _, most := range []int{-1, 1, 2} {
			holdOf(t, m, l, most, []api.Event{e}, api.OK)
		}
		holdOf(t, m, l, 0, nil, api.OK)
		holdAsked(t, m, l, true, false)
	}
}

func TestP22_1Of(t *testing.T) {
	all := inOrder()
	m := must(t, someEvents()...)
	for _, c := range []struct {
		what string
		l    []api.Mark
		want []api.Event
	}{
		{"no marks", nil, all},
		{"one of the first actor", []api.Mark{mark(0, 1, 1)}, all[1:]},
		{"some of one actor", []api.Mark{mark(2, 9, 2)}, slices.Concat(all[:1], all[3:])},
		{"all of one actor", []api.Mark{mark(2, 9, 3)}, slices.Concat(all[:1], all[4:])},
		{"more than one actor has", []api.Mark{mark(2, 9, lastSeq)}, slices.Concat(all[:1], all[4:])},
		{"some of two actors", []api.Mark{mark(2, 9, 1), mark(2, 10, 1)}, []api.Event{all[0], all[2], all[3], all[5], all[6]}},
		{"other lives, and other devices", []api.Mark{mark(0, 2, 9), mark(1, 1, 9), mark(2, 1, 9), mark(2, 8, 9), mark(9, 1, 9), mark(40, 1, 1)}, all},
		{"just what is had", []api.Mark{mark(0, 1, 1), mark(2, 9, 3), mark(2, 10, 2), mark(10, 1, 1)}, nil},
		{"all but one", []api.Mark{mark(0, 1, 9), mark(2, 9, 9), mark(2, 10, 1), mark(10, 1, 9)}, all[5:6]},
	} {
		for most := -2; most <= len(all)+1; most++ {
			got, wrong := delta.Of(m, c.l, most)
			if wrong != api.OK || !alike(got, first(c.want, most)) {
				t.Errorf("%s, %d: %v, %v", c.what, most, got, wrong)
			}
		}
	}
}

func TestP22_1OfTheFirstMost(t *testing.T) {
	few, many := run(by(3, 1), 3), run(by(3, 1), mostEvents)
	m, full := must(t, few...), must(t, many...)
	for _, most := range append(ends(), 2, 3, 4, 256, mostEvents-1, mostEvents, mostEvents+1) {
		holdOf(t, m, nil, most, first(few, most), api.OK)
		holdOf(t, full, nil, most, first(many, most), api.OK)
		holdOf(t, full, []api.Mark{mark(3, 1, 1000)}, most, first(many[1000:], most), api.OK)
		holdOf(t, full, []api.Mark{mark(3, 1, mostEvents)}, most, nil, api.OK)
		holdOf(t, ormap.New(), nil, most, nil, api.OK)
	}
}

// What is asked for part by part is all, once each.
func TestP22_1OfPartByPart(t *testing.T) {
	r := rand.New(rand.NewSource(22))
	for range 200 {
		l := drawnHistory(r, 1+r.Intn(30))
		m, o := must(t, l...), ormap.New()
		for delta.Needs(m, o.Context()) {
			most := 1 + r.Intn(4)
			part, wrong := delta.Of(m, o.Context(), most)
			if n, e := delta.Merge(o, part); wrong != api.OK || e != api.OK || n != len(part) || n > most || n == 0 {
				t.Fatalf("%v: %v; %d, %v", part, wrong, n, e)
			}
		}
		if !same(m, o) {
			t.Fatalf("of %v came %v", l, o.Events())
		}
	}
}

// What is kept no more is not told of; what is bare is told so; what is dead is told of as all else.
func TestP22_1OfWhatIsKept(t *testing.T) {
	all := inOrder()
	m := must(t, someEvents()...)
	for _, d := range []api.Dot{at(10, 1, 1), at(2, 9, 2)} {
		if !m.Forget(d) {
			t.Fatalf("%v is not forgotten", d)
		}
	}
	if !m.Bare(at(2, 10, 1)) {
		t.Fatal("not bare")
	}
	bare := cloned(all[4:5])[0]
	bare.Over = nil
	want := []api.Event{all[0], all[1], all[3], bare, all[5]}
	for most := -1; most <= 6; most++ {
		holdOf(t, m, nil, most, first(want, most), api.OK)
		holdOf(t, m, []api.Mark{mark(0, 1, 1), mark(2, 9, 1)}, most, first(want[2:], most), api.OK)
	}
	// The context has it still.
	holdAsked(t, m, []api.Mark{mark(0, 1, 1), mark(2, 9, 3), mark(2, 10, 2)}, true, false)
	holdAsked(t, m, []api.Mark{mark(0, 1, 1), mark(2, 9, 3), mark(2, 10, 2), mark(10, 1, 1)}, false, false)
	none := mustLoad(t, []api.Mark{mark(1, 1, 7)}, nil, []api.Dot{at(1, 1, 3)})
	holdOf(t, none, nil, -1, nil, api.OK)
	holdAsked(t, none, nil, true, false)
	holdAsked(t, none, []api.Mark{mark(1, 1, 6)}, true, false)
	holdAsked(t, none, []api.Mark{mark(1, 1, 8)}, false, true)
	holdAsked(t, none, []api.Mark{mark(1, 1, 7), mark(1, 2, 1)}, false, true)
}

func TestP22_1NeedsAndBehind(t *testing.T) {
	m := must(t, append(run(by(1, 1), 3), run(by(2, 7), 2)...)...)
	for _, c := range []struct {
		what          string
		l             []api.Mark
		needs, behind bool
	}{
		{"no marks", nil, true, false},
		{"the same", []api.Mark{mark(1, 1, 3), mark(2, 7, 2)}, false, false},
		{"one less", []api.Mark{mark(1, 1, 2), mark(2, 7, 2)}, true, false},
		{"one less of the last", []api.Mark{mark(1, 1, 3), mark(2, 7, 1)}, true, false},
		{"one more", []api.Mark{mark(1, 1, 4), mark(2, 7, 2)}, false, true},
		{"one more of the last", []api.Mark{mark(1, 1, 3), mark(2, 7, 3)}, false, true},
		{"one more, one less", []api.Mark{mark(1, 1, 4), mark(2, 7, 1)}, true, true},
		{"one less, one more", []api.Mark{mark(1, 1, 1), mark(2, 7, 9)}, true, true},
		{"the first one only", []api.Mark{mark(1, 1, 3)}, true, false},
		{"the last one only", []api.Mark{mark(2, 7, 2)}, true, false},
		{"one actor ahead", []api.Mark{mark(0, 1, 1), mark(1, 1, 3), mark(2, 7, 2)}, false, true},
		{"one actor between", []api.Mark{mark(1, 1, 3), mark(1, 2, 1), mark(2, 7, 2)}, false, true},
		{"one actor behind", []api.Mark{mark(1, 1, 3), mark(2, 7, 2), mark(2, 8, 1)}, false, true},
		{"others", []api.Mark{mark(0, 1, 1), mark(2, 6, 9)}, true, true},
		{"as far as may be", []api.Mark{mark(1, 1, lastSeq), mark(2, 7, lastSeq)}, false, true},
	} {
		if needs, behind := delta.Needs(m, c.l), delta.Behind(m, c.l); needs != c.needs || behind != c.behind {
			t.Errorf("%s: %v, %v", c.what, needs, behind)
		}
	}
	holdAsked(t, ormap.New(), nil, false, false)
	holdAsked(t, ormap.New(), []api.Mark{mark(0, 1, 1)}, false, true)
	holdAsked(t, new(ormap.Map), []api.Mark{mark(lastDev, lastInc, lastSeq)}, false, true)
}

func TestP22_1AtTheEnds(t *testing.T) {
	for _, a := range []api.Actor{by(0, 1), by(0, lastInc), by(lastDev, 1), by(lastDev, lastInc)} {
		last := api.Mark{A: a, Seq: lastSeq}
		ahead := api.Mark{A: a, Seq: lastSeq - 1}
		kept := []api.Event{aPut(api.Dot(ahead)), aPut(api.Dot(last))}
		m := mustLoad(t, []api.Mark{last}, kept, nil)
		holdOf(t, m, nil, -1, kept, api.OK)
		holdOf(t, m, []api.Mark{ahead}, -1, kept[1:], api.OK)
		holdOf(t, m, []api.Mark{last}, -1, nil, api.OK)
		holdAsked(t, m, nil, true, false)
		holdAsked(t, m, []api.Mark{ahead}, true, false)
		holdAsked(t, m, []api.Mark{last}, false, false)
		holdAsked(t, mustLoad(t, []api.Mark{ahead}, nil, nil), []api.Mark{last}, false, true)
		n := mustLoad(t, []api.Mark{ahead}, nil, nil)
		holdMerge(t, n, kept, 1, api.OK, kept[1])
	}
}

// wrongMarks are marks that may not be, with what layer 17's Check answers of them.
func wrongMarks() map[api.Errno][][]api.Mark {
	one := mark(1, 1, 1)
	l := map[api.Errno][][]api.Mark{
		api.ErrOrder: {{one, one}, {one, mark(1, 1, 2)}, {one, mark(0, 9, 9)}, {mark(1, 2, 1), one}, {one, mark(0, 1, 1), mark(0, 0, 0)}},
		api.ErrLong:  {make([]api.Mark, mostMarks+1), manyMarks(mostMarks + 1), append(manyMarks(mostMarks), api.Mark{})},
	}
	for _, dev := range ends() {
		for _, inc := range ends() {
			for _, seq := range ends() {
				if within(dev, 0, lastDev) && within(inc, 1, lastInc) && within(seq, 1, lastSeq) {
					continue
				}
				w := mark(dev, inc, seq)
				l[api.ErrRange] = append(l[api.ErrRange], []api.Mark{w}, []api.Mark{one, w}, []api.Mark{w, one}, []api.Mark{one, mark(1, 1, 0), w, one})
			}
		}
	}
	return l
}

// manyMarks are n marks that may be.
func manyMarks(n int) []api.Mark {
	var l []api.Mark
	for i := range n {
		l = append(l, mark(i%64, 1+i/64, 1))
	}
	slices.SortFunc(l, func(x, y api.Mark) int { return byDots(api.Dot(x), api.Dot(y)) })
	return l
}

func TestP22_1OfWrongMarks(t *testing.T) {
	for _, m := range []*ormap.Map{must(t, someEvents()...), must(t, aPut(at(1, 1, 1))), ormap.New()} {
		for want, lists := range wrongMarks() {
			for _, l := range lists {
				for _, most := range []int{-1, 0, 1} {
					if got, wrong := delta.Of(m, l, most); got != nil || wrong != want {
						t.Fatalf("Of(%v, %d): %v, %v, not %v", l[:min(len(l), 4)], most, got, wrong, want)
					}
				}
				holdAsked(t, m, l, false, false)
			}
		}
	}
}

// Nil is told ahead of what is wrong with the marks.
func TestP22_1OfNil(t *testing.T) {
	lists := [][]api.Mark{nil, {}, {mark(1, 1, 1)}, {{}}}
	for _, l := range wrongMarks() {
		lists = append(lists, l...)
	}
	for _, l := range lists {
		for _, most := range []int{math.MinInt, -1, 0, 1, math.MaxInt} {
			if got, wrong := delta.Of(nil, l, most); got != nil || wrong != api.ErrNil {
				t.Fatalf("Of(nil, %v, %d): %v, %v", l[:min(len(l), 4)], most, got, wrong)
			}
		}
		holdAsked(t, nil, l, false, false)
	}
}

func TestP22_1AsManyMarksAsMayBe(t *testing.T) {
	l := manyMarks(mostMarks)
	e := aPut(at(lastDev, lastInc, 1))
	m := must(t, e)
	holdOf(t, m, l, -1, []api.Event{e}, api.OK)
	holdAsked(t, m, l, true, true)
	holdAsked(t, mustLoad(t, l, nil, nil), l, false, false)
	holdAsked(t, mustLoad(t, l[1:], nil, nil), l, false, true)
	holdAsked(t, mustLoad(t, l[:mostMarks-1], nil, nil), l, false, true)
	holdAsked(t, mustLoad(t, l, nil, nil), l[1:], true, false)
	holdAsked(t, mustLoad(t, l, nil, nil), l[:mostMarks-1], true, false)
}

// A context may have more actors than a list of marks.
func TestP22_1MoreActorsThanMarksMayBe(t *testing.T) {
	m := ormap.New()
	all := manyMarks(mostMarks + 2)
	for _, x := range all {
		if is, wrong := m.Apply(aRemove(api.Dot(x), at(0, lastInc, 1))); !is || wrong != api.OK || !m.Forget(api.Dot(x)) {
			t.Fatalf("%v: %v, %v", x, is, wrong)
		}
	}
	e := aPut(at(7, 1000, 1))
	m.Apply(e)
	holdOf(t, m, all[:mostMarks], -1, []api.Event{e}, api.OK)
	holdOf(t, m, m.Context(), -1, nil, api.ErrLong)
	holdAsked(t, m, all[:mostMarks], true, false)
	holdAsked(t, m, all[2:], true, false)
	holdAsked(t, m, m.Context(), false, false)
	holdAsked(t, m, []api.Mark{mark(lastDev, lastInc, 1)}, true, true)
}

// spoilEvents changes all of events that can be changed in place.
func spoilEvents(l []api.Event) {
	for i := range l {
		for j := range l[i].Over {
			l[i].Over[j] = at(60, 60, 60)
		}
		_ = append(l[i].Over, at(61, 61, 61))
		l[i] = api.Event{Kind: 9}
	}
}

func TestP22_1WhatIsAnsweredIsNew(t *testing.T) {
	m := must(t, someEvents()...)
	want := inOrder()
	for range 2 {
		for _, most := range []int{-1, 4, 7, 9} {
			got, _ := delta.Of(m, nil, most)
			other, _ := delta.Of(m, nil, most)
			for i := range got {
				spoilEvents(got[i : i+1])
				if !alike(got[i+1:], first(want, most)[i+1:]) || !alike(other, first(want, most)) {
					t.Fatalf("changed: %v, %v", got, other)
				}
			}
			_ = append(got[:0], api.Event{Kind: 9})
			if !same(m, must(t, someEvents()...)) {
				t.Fatalf("the map is changed: %v", m.Events())
			}
		}
	}
}

// Neither the marks, nor what lies in the room behind them, nor the map is changed by what is asked.
func TestP22_1AskingChangesNothing(t *testing.T) {
	m := must(t, someEvents()...)
	room := []api.Mark{mark(0, 1, 1), mark(2, 9, 1), mark(2, 9, 2), mark(50, 1, 1)}
	want := slices.Clone(room)
	for range 3 {
		for n := range len(room) + 1 {
			for most := -1; most < 9; most++ {
				delta.Of(m, room[:n], most)
			}
			delta.Needs(m, room[:n])
			delta.Behind(m, room[:n])
		}
		if !slices.Equal(room, want) || !same(m, must(t, someEvents()...)) {
			t.Fatalf("changed: %v, %v", room, m.Events())
		}
	}
}

func TestP22_2Merge(t *testing.T) {
	l := someEvents()
	m := ormap.New()
	holdMerge(t, m, l[:3], 3, api.OK, l[:3]...)
	holdMerge(t, m, l, 4, api.OK, l...)
	holdMerge(t, m, l, 0, api.OK, l...)
	holdMerge(t, m, nil, 0, api.OK, l...)
	holdMerge(t, m, []api.Event{}, 0, api.OK, l...)
	if !same(m, must(t, l...)) {
		t.Errorf("merged are %v", m.Events())
	}
	// By the dots, too: what comes ahead of what it is over is none the less applied.
	n := ormap.New()
	holdMerge(t, n, inOrder(), len(l), api.OK, l...)
	if !same(m, n) {
		t.Errorf("merged are %v", n.Events())
	}
}

// Behind the first error all others that can be are still applied, whoever's they are.
func TestP22_2MergeBehindAnError(t *testing.T) {
	one, two, three := aPut(at(1, 1, 1)), aPut(at(1, 1, 2)), aPut(at(1, 1, 3))
	other, wrong := aPut(at(2, 1, 1)), aPut(at(3, 1, 0))
	for _, c := range []struct {
		what string
		l    []api.Event
		want api.Errno
		kept []api.Event
	}{
		{"a gap at first", []api.Event{two, one}, api.ErrOrder, []api.Event{one}},
		{"a gap that is filled behind it", []api.Event{one, three, two}, api.ErrOrder, []api.Event{one, two}},
		{"a gap that is filled, and once more", []api.Event{one, three, two, three}, api.ErrOrder, []api.Event{one, two, three}},
		{"a gap, and another actor", []api.Event{two, other}, api.ErrOrder, []api.Event{other}},
		{"a gap, and the same actor", []api.Event{one, three, one, two}, api.ErrOrder, []api.Event{one, two}},
		{"one that may not be at first", []api.Event{wrong, one, two}, api.ErrForm, []api.Event{one, two}},
		{"one that may not be at last", []api.Event{one, two, wrong}, api.ErrForm, []api.Event{one, two}},
		{"one that may not be, and then a gap", []api.Event{wrong, two, other}, api.ErrForm, []api.Event{other}},
		{"a gap, and then one that may not be", []api.Event{two, wrong, other}, api.ErrOrder, []api.Event{other}},
		{"errors alone", []api.Event{three, wrong, two}, api.ErrOrder, nil},
		{"the zero event", []api.Event{{}}, api.ErrForm, nil},
		{"twice", []api.Event{one, one, two, two, one}, api.OK, []api.Event{one, two}},
		{"twice, and a gap", []api.Event{one, one, three}, api.ErrOrder, []api.Event{one}},
		{"a gap, and the same once more", []api.Event{three, one, three}, api.ErrOrder, []api.Event{one}},
	} {
		m := ormap.New()
		if n, e := delta.Merge(m, c.l); n != len(c.kept) || e != c.want {
			t.Errorf("%s: %d, %v", c.what, n, e)
		}
		if !alike(m.Events(), c.kept) {
			t.Errorf("%s: kept are %v", c.what, m.Events())
		}
	}
}

// Of one dot the first event counts; what else is said of it is old.
func TestP22_2MergeOfWhatIsOld(t *testing.T) {
	one, same := aPut(at(1, 1, 1)), aRemove(at(1, 1, 1), at(2, 1, 1))
	m := ormap.New()
	holdMerge(t, m, []api.Event{one, same}, 1, api.OK, one)
	holdMerge(t, m, []api.Event{same, one}, 0, api.OK, one)
	if len(m.Deads()) != 0 {
		t.Errorf("dead are %v", m.Deads())
	}
	m.Apply(aRemove(at(2, 1, 1), at(1, 1, 1)))
	m.Forget(at(1, 1, 1))
	holdMerge(t, m, []api.Event{one}, 0, api.OK, aRemove(at(2, 1, 1), at(1, 1, 1)))
	// What may not be is told, though its dot is an old one.
	spoilt := one
	spoilt.Kind = 3
	holdMerge(t, m, []api.Event{spoilt}, 0, api.ErrForm, aRemove(at(2, 1, 1), at(1, 1, 1)))
}

func TestP22_2MergeOfAsManyAsMayBe(t *testing.T) {
	l := run(by(3, 1), mostEvents+2)
	m := ormap.New()
	holdMerge(t, m, l[:mostEvents], mostEvents, api.OK, slices.Clone(l[:mostEvents])...)
	holdMerge(t, m, l[:mostEvents], 0, api.OK, slices.Clone(l[:mostEvents])...)
	holdMerge(t, m, l, 0, api.ErrFull, slices.Clone(l[:mostEvents])...)
	holdMerge(t, m, []api.Event{aPut(at(4, 1, 2)), l[mostEvents], aPut(at(4, 1, 0))}, 0, api.ErrOrder, slices.Clone(l[:mostEvents])...)
	n := ormap.New()
	holdMerge(t, n, l, mostEvents, api.ErrFull, slices.Clone(l[:mostEvents])...)
	// Where there is room again, one is applied, and the next one is not.
	over := aRemove(at(4, 1, 1), at(3, 1, 1))
	o := ormap.New()
	holdMerge(t, o, append([]api.Event{over}, l[:mostEvents-1]...), mostEvents, api.OK, append([]api.Event{over}, l[:mostEvents-1]...)...)
	if !o.Forget(at(3, 1, 1)) {
		t.Fatal("not forgotten")
	}
	holdMerge(t, o, l, 1, api.ErrFull, append([]api.Event{over}, l[1:mostEvents]...)...)
	// A list is as long as it likes.
	p := ormap.New()
	long := slices.Repeat([]api.Event{l[0], l[1]}, 5000)
	holdMerge(t, p, long, 2, api.OK, l[0], l[1])
}

func TestP22_2MergeIntoNil(t *testing.T) {
	for _, l := range [][]api.Event{nil, {}, {aPut(at(1, 1, 1))}, {aPut(at(1, 1, 2))}, {{}}} {
		if n, wrong := delta.Merge(nil, l); n != 0 || wrong != api.ErrNil {
			t.Errorf("Merge(nil, %v): %d, %v", l, n, wrong)
		}
	}
}

func TestP22_2WhatIsHandedInIsNotKept(t *testing.T) {
	l := append(someEvents(), aPut(at(9, 1, 2), at(1, 1, 1)), aRemove(at(9, 1, 1)), someEvents()[1])
	behind := at(62, 62, 62)
	var overs [][]api.Dot
	for i, e := range l {
		over := append(slices.Clone(e.Over), behind)
		overs = append(overs, over)
		l[i].Over = over[:len(e.Over)]
	}
	room := append(l, aPut(at(30, 1, 1)))
	want := cloned(room)
	m := ormap.New()
	if n, wrong := delta.Merge(m, room[:len(l)]); n != len(someEvents()) || wrong != api.ErrOrder {
		t.Fatalf("%d, %v", n, wrong)
	}
	if !alike(room, want) {
		t.Fatalf("changed: %v", room)
	}
	for _, over := range overs {
		if over[len(over)-1] != behind {
			t.Fatalf("changed behind the end: %v", over)
		}
	}
	spoilEvents(room)
	if !same(m, must(t, someEvents()...)) {
		t.Errorf("behind changes of what was handed in: %v", m.Events())
	}
}

// drawnOver are dots in order, of which some may not have come, that an event may be over.
func drawnOver(r *rand.Rand, k *told, own api.Dot) []api.Dot {
	var l []api.Dot
	for range r.Intn(4) {
		d := api.Dot{A: pick(r, someActors())}
		d.Seq = 1 + r.Intn(k.number(d.A)+3)
		if d.A != own.A || d.Seq < own.Seq {
			l = append(l, d)
		}
	}
	slices.SortFunc(l, byDots)
	return slices.Compact(l)
}

// drawnNext is an event of an actor that can be applied.
func drawnNext(r *rand.Rand, k *told, a api.Actor) api.Event {
	d := api.Dot{A: a, Seq: k.number(a) + 1}
	e := aPut(d, drawnOver(r, k, d)...)
	e.Key = aKey(pick(r, []string{"a", "b", "ab"}))
	e.Stamp.Wall = r.Intn(3)
	if len(e.Over) > 0 && r.Intn(3) == 0 {
		e.Kind, e.Key, e.Cookie = 2, api.Key{}, api.Cookie{}
	}
	return e
}

// drawnHistory are events that can be applied, one after the other.
func drawnHistory(r *rand.Rand, n int) []api.Event {
	k := tell()
	for range n {
		k.apply(drawnNext(r, k, pick(r, someActors())))
	}
	return k.kept
}

// drawnMarks are marks in order, as far as a map's context goes and beyond it.
func drawnMarks(r *rand.Rand, k *told) []api.Mark {
	var l []api.Mark
	for _, a := range append(someActors(), by(2, 2)) {
		if n := r.Intn(k.number(a) + 3); n > 0 {
			l = append(l, api.Mark{A: a, Seq: n})
		}
	}
	slices.SortFunc(l, func(x, y api.Mark) int { return byDots(api.Dot(x), api.Dot(y)) })
	if r.Intn(4) == 0 {
		return k.marks()
	}
	return l
}

func TestP22_1OfDrawnMaps(t *testing.T) {
	r := rand.New(rand.NewSource(23))
	for range 3000 {
		l := drawnHistory(r, r.Intn(25))
		m, k := must(t, l...), tell(l...)
		for range 5 {
			marks, most := drawnMarks(r, k), r.Intn(len(l)+3)-1
			holdOf(t, m, marks, most, first(k.beyond(marks), most), api.OK)
			holdAsked(t, m, marks, k.needs(marks), k.behind(marks))
			d := api.Dot{A: pick(r, someActors())}
			d.Seq = 1 + r.Intn(k.number(d.A)+1)
			if m.Forget(d) {
				k.kept = slices.DeleteFunc(k.kept, func(e api.Event) bool { return e.Dot == d })
			}
		}
	}
}

func TestP22_2MergeOfDrawnLists(t *testing.T) {
	r := rand.New(rand.NewSource(24))
	met := map[api.Errno]int{}
	for range 3000 {
		whole := drawnHistory(r, 1+r.Intn(25))
		m, k := ormap.New(), tell()
		for range 4 {
			var l []api.Event
			for range r.Intn(30) {
				e := pick(r, whole)
				if r.Intn(40) == 0 {
					e.Stamp.Count = -1
				}
				l = append(l, e)
			}
			if r.Intn(2) == 0 {
				slices.SortFunc(l, func(a, b api.Event) int { return byDots(a.Dot, b.Dot) })
			}
			n, wanted := k.merge(l)
			met[wanted]++
			holdMerge(t, m, l, n, wanted, cloned(k.kept)...)
			if !slices.Equal(m.Context(), k.marks()) {
				t.Fatalf("behind %v the context is %v", l, m.Context())
			}
		}
	}
	for _, e := range []api.Errno{api.OK, api.ErrForm, api.ErrOrder} {
		if met[e] < 50 {
			t.Errorf("%v was met %d times", e, met[e])
		}
	}
}

// drawnTwo are two maps that met some of one history, each actor's events in their order, and went on.
func drawnTwo(t *testing.T, r *rand.Rand) (*ormap.Map, *ormap.Map) {
	whole := drawnHistory(r, r.Intn(40))
	var maps [2]*ormap.Map
	for i := range maps {
		m := ormap.New()
		far := map[api.Actor]int{}
		for _, a := range someActors() {
			far[a] = r.Intn(12)
		}
		for _, e := range whole {
			if e.Dot.Seq > far[e.Dot.A] {
				continue
			}
			if is, wrong := m.Apply(e); !is || wrong != api.OK {
				t.Fatalf("%v: %v, %v", e, is, wrong)
			}
		}
		maps[i] = m
	}
	return maps[0], maps[1]
}

// covers tells whether marks have all that others have.
func covers(l, others []api.Mark) bool {
	for _, m := range others {
		if !have(l, api.Dot(m)) {
			return false
		}
	}
	return true
}

// into merges what one map has beyond another one's context into that, and holds what comes of it against P22.3.
func into(t *testing.T, from, to *ormap.Map) {
	t.Helper()
	was, ahead := to.Context(), from.Copy()
	needs := delta.Needs(from, was)
	l, wrong := delta.Of(from, was, -1)
	if wrong != api.OK || needs != (len(l) > 0) {
		t.Fatalf("beyond %v: %v, %v", was, l, wrong)
	}
	if n, wrong := delta.Merge(to, l); n != len(l) || wrong != api.OK {
		t.Fatalf("Merge(%v): %d of %d, %v", l, n, len(l), wrong)
	}
	if !covers(to.Context(), from.Context()) || !covers(to.Context(), was) {
		t.Fatalf("%v does not cover %v and %v", to.Context(), from.Context(), was)
	}
	if delta.Needs(from, to.Context()) || delta.Behind(to, from.Context()) || !same(from, ahead) {
		t.Fatalf("of %v there is more for %v", from.Context(), to.Context())
	}
}

func TestP22_3CoveredBehindAMerge(t *testing.T) {
	r := rand.New(rand.NewSource(26))
	for range 1500 {
		a, b := drawnTwo(t, r)
		needs, behind := delta.Needs(a, b.Context()), delta.Behind(a, b.Context())
		if needs != delta.Behind(b, a.Context()) || behind != delta.Needs(b, a.Context()) {
			t.Fatalf("%v, %v: needs, behind", a.Context(), b.Context())
		}
		into(t, a, b)
		into(t, a, b)
		into(t, b, b)
		into(t, ormap.New(), b)
	}
}

func TestP22_4BothMergedAreTheSame(t *testing.T) {
	r := rand.New(rand.NewSource(27))
	for range 1500 {
		a, b := drawnTwo(t, r)
		c, d := a.Copy(), b.Copy()
		into(t, a, b)
		into(t, b, a)
		if !same(a, b) || delta.Needs(a, b.Context()) || delta.Behind(a, b.Context()) {
			t.Fatalf("not the same: %v, %v", a.Events(), b.Events())
		}
		// At one time, too: each is handed what the other one had.
		forC, _ := delta.Of(d, c.Context(), -1)
		forD, _ := delta.Of(c, d.Context(), -1)
		delta.Merge(c, forC)
		delta.Merge(d, forD)
		if !same(c, d) || !same(a, c) {
			t.Fatalf("not the same: %v, %v", c.Events(), d.Events())
		}
	}
}

// A map that is merged into itself is the same.
func TestP22_4MergedIntoItself(t *testing.T) {
	m := must(t, someEvents()...)
	holdOf(t, m, m.Context(), -1, nil, api.OK)
	holdAsked(t, m, m.Context(), false, false)
	holdMerge(t, m, m.Events(), 0, api.OK, someEvents()...)
	if !same(m, must(t, someEvents()...)) {
		t.Errorf("changed: %v", m.Events())
	}
}
