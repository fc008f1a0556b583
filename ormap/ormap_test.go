package ormap_test

import (
	"cmp"
	"fmt"
	"math"
	"math/rand"
	"slices"
	"strings"
	"testing"

	"biscotti/api"
	"biscotti/event"
	"biscotti/ormap"
)

// The greatest numbers of what may be, by the document's words.
const (
	lastDev    = 63
	lastInc    = 1 << 20
	lastSeq    = 1 << 32
	lastWall   = 1 << 42
	lastCount  = 65535
	lastTime   = 1 << 40
	mostOver   = 64
	mostEvents = 2048
	mostMarks  = 4096
	mostDead   = 65536
)

// by is an actor, at is a dot, and mark is a mark.
func by(dev, inc int) api.Actor {
	return api.Actor{Dev: dev, Inc: inc}
}

func at(dev, inc, seq int) api.Dot {
	return api.Dot{A: by(dev, inc), Seq: seq}
}

func mark(dev, inc, seq int) api.Mark {
	return api.Mark{A: by(dev, inc), Seq: seq}
}

// aKey is the key of cookies of that name, and site that of which all others differ in one part.
func aKey(name string) api.Key {
	return api.Key{Name: name, Domain: "shop.test", Path: "/"}
}

var site = aKey("sid")

// putAt is a Put at a time, over dots.
func putAt(d api.Dot, k api.Key, wall int, over ...api.Dot) api.Event {
	return api.Event{
		Dot:    d,
		Stamp:  api.Stamp{Wall: wall, Dev: d.A.Dev},
		Kind:   1,
		Key:    k,
		Cookie: api.Cookie{Value: fmt.Sprint(d), Expiry: lastTime, Creation: d.Seq % lastTime},
		Over:   over,
	}
}

// aPut is a Put of the site's key, and aRemove is a Remove.
func aPut(d api.Dot, over ...api.Dot) api.Event {
	return putAt(d, site, 5, over...)
}

func aRemove(d api.Dot, over ...api.Dot) api.Event {
	return api.Event{Dot: d, Stamp: api.Stamp{Wall: 5, Dev: d.A.Dev}, Kind: 2, Over: over}
}

// but is the event with something else in it.
func but(e api.Event, change func(*api.Event)) api.Event {
	e.Over = slices.Clone(e.Over)
	change(&e)
	return e
}

// within tells whether n is one of the numbers from one to another one.
func within(n, from, to int) bool {
	return min(max(n, from), to) == n
}

// dotMayBe tells it by layer 16's words.
func dotMayBe(d api.Dot) bool {
	return within(d.A.Dev, 0, lastDev) && within(d.A.Inc, 1, lastInc) && within(d.Seq, 1, lastSeq)
}

// byDots, byStamps and byKeys compare by the words of layers 16, 19 and 15.
func byDots(a, b api.Dot) int {
	return slices.Compare([]int{a.A.Dev, a.A.Inc, a.Seq}, []int{b.A.Dev, b.A.Inc, b.Seq})
}

func byStamps(a, b api.Stamp) int {
	return slices.Compare([]int{a.Wall, a.Count, a.Dev}, []int{b.Wall, b.Count, b.Dev})
}

func byKeys(a, b api.Key) int {
	return slices.Compare([]string{a.Name, a.Domain, a.Path}, []string{b.Name, b.Domain, b.Path})
}

// told is what a map is by the chapter's words, told another way: lists in the order in which all came.
type told struct {
	marks []api.Mark
	kept  []api.Event
	dead  []api.Dot
}

// tell is what is told of events, each of which can be applied.
func tell(l ...api.Event) *told {
	k := &told{}
	for _, e := range l {
		k.apply(e)
	}
	return k
}

// number is how far an actor was heard.
func (k *told) number(a api.Actor) int {
	n := 0
	for _, m := range k.marks {
		if m.A == a {
			n = m.Seq
		}
	}
	return n
}

func (k *told) has(d api.Dot) bool {
	return dotMayBe(d) && !(k.number(d.A) < d.Seq)
}

func (k *told) isDead(d api.Dot) bool {
	return slices.Contains(k.dead, d)
}

// place is where the event of a dot is kept, or below 0.
func (k *told) place(d api.Dot) int {
	return slices.IndexFunc(k.kept, func(e api.Event) bool { return e.Dot == d })
}

// apply is by the chapter's words what Apply does, and answers.
func (k *told) apply(e api.Event) (bool, api.Errno) {
	n := k.number(e.Dot.A)
	if !event.Right(e) {
		return false, api.ErrForm
	}
	if e.Dot.Seq <= n {
		return false, api.OK
	}
	if e.Dot.Seq-n > 1 {
		return false, api.ErrOrder
	}
	if len(k.kept) >= mostEvents {
		return false, api.ErrFull
	}
	k.marks = slices.DeleteFunc(k.marks, func(m api.Mark) bool { return m.A == e.Dot.A })
	k.marks = append(k.marks, api.Mark(e.Dot))
	slices.SortFunc(k.marks, func(x, y api.Mark) int { return byDots(api.Dot(x), api.Dot(y)) })
	k.kept = append(k.kept, but(e, func(*api.Event) {}))
	for _, d := range e.Over {
		if !k.isDead(d) {
			k.dead = append(k.dead, d)
		}
	}
	return true, api.OK
}

// filter are the kept events that are asked for, by their dots.
func (k *told) filter(asked func(e api.Event) bool) []api.Event {
	var l []api.Event
	for _, e := range k.kept {
		if asked(e) {
			l = append(l, e)
		}
	}
	slices.SortFunc(l, func(a, b api.Event) int { return byDots(a.Dot, b.Dot) })
	return l
}

func (k *told) isAlive(e api.Event) bool {
	return e.Kind == 1 && !k.isDead(e.Dot)
}

func (k *told) events() []api.Event {
	return k.filter(func(api.Event) bool { return true })
}

func (k *told) key(x api.Key) []api.Event {
	return k.filter(func(e api.Event) bool { return k.isAlive(e) && e.Key == x })
}

// winner is the last one of a key's, by stamps, and by dots of one stamp.
func (k *told) winner(x api.Key) (api.Event, bool) {
	l := k.key(x)
	if len(l) == 0 {
		return api.Event{}, false
	}
	slices.SortFunc(l, func(a, b api.Event) int { return cmp.Or(byStamps(a.Stamp, b.Stamp), byDots(a.Dot, b.Dot)) })
	return l[len(l)-1], true
}

// keys are the keys of what is alive, in order.
func (k *told) keys() []api.Key {
	var l []api.Key
	for _, e := range k.filter(k.isAlive) {
		l = append(l, e.Key)
	}
	slices.SortFunc(l, byKeys)
	return slices.Compact(l)
}

func (k *told) winners() []api.Event {
	var l []api.Event
	for _, x := range k.keys() {
		e, _ := k.winner(x)
		l = append(l, e)
	}
	return l
}

func (k *told) deads() []api.Dot {
	l := slices.Clone(k.dead)
	slices.SortFunc(l, byDots)
	return l
}

// forget, bare and clear are by the chapter's words what those calls do, and answer.
func (k *told) forget(d api.Dot) bool {
	i := k.place(d)
	if i < 0 || k.isAlive(k.kept[i]) {
		return false
	}
	k.kept = slices.Delete(k.kept, i, i+1)
	return true
}

func (k *told) bare(d api.Dot) bool {
	i := k.place(d)
	if i < 0 || k.kept[i].Kind == 2 || len(k.kept[i].Over) == 0 {
		return false
	}
	k.kept[i].Over = []api.Dot{}
	return true
}

func (k *told) clear(d api.Dot) bool {
	i := slices.Index(k.dead, d)
	if i < 0 || k.place(d) >= 0 || !k.has(d) {
		return false
	}
	k.dead = slices.Delete(k.dead, i, i+1)
	return true
}

// copied is the same, going its own way.
func (k *told) copied() *told {
	c := &told{marks: slices.Clone(k.marks), dead: slices.Clone(k.dead)}
	for _, e := range k.kept {
		c.kept = append(c.kept, but(e, func(*api.Event) {}))
	}
	return c
}

// loaded is by the chapter's words what Load answers.
func loaded(l []api.Mark, kept []api.Event, dead []api.Dot) (*told, api.Errno) {
	if len(l) > mostMarks {
		return nil, api.ErrLong
	}
	for i, m := range l {
		if !dotMayBe(api.Dot(m)) {
			return nil, api.ErrRange
		}
		if i > 0 && byDots(api.Dot{A: l[i-1].A}, api.Dot{A: m.A}) >= 0 {
			return nil, api.ErrOrder
		}
	}
	if len(kept) > mostEvents || len(dead) > mostDead {
		return nil, api.ErrLong
	}
	k := &told{marks: l}
	for i, e := range kept {
		if !event.Right(e) {
			return nil, api.ErrForm
		}
		if i > 0 && byDots(kept[i-1].Dot, e.Dot) >= 0 {
			return nil, api.ErrOrder
		}
		if !k.has(e.Dot) {
			return nil, api.ErrRange
		}
	}
	for i, d := range dead {
		if !dotMayBe(d) {
			return nil, api.ErrRange
		}
		if i > 0 && byDots(dead[i-1], d) >= 0 {
			return nil, api.ErrOrder
		}
	}
	k.kept, k.dead = kept, dead
	return k.copied(), api.OK
}

// alike tells whether two lists have the same events.
func alike(a, b []api.Event) bool {
	return slices.EqualFunc(a, b, event.Same)
}

// difference tells where a map is not what is told of it, or "".
func difference(m *ormap.Map, k *told) string {
	for what, l := range map[string][2][]api.Event{
		"Events":  {m.Events(), k.events()},
		"Alive":   {m.Alive(), k.filter(k.isAlive)},
		"Winners": {m.Winners(), k.winners()},
	} {
		if !alike(l[0], l[1]) {
			return fmt.Sprintf("%s are %v, not %v", what, l[0], l[1])
		}
	}
	if l := m.Context(); !slices.Equal(l, k.marks) {
		return fmt.Sprintf("the context is %v, not %v", l, k.marks)
	}
	if l := m.Deads(); !slices.Equal(l, k.deads()) {
		return fmt.Sprintf("dead are %v, not %v", l, k.deads())
	}
	if n := m.Len(); n != len(k.kept) {
		return fmt.Sprintf("%d are kept, not %d", n, len(k.kept))
	}
	for _, x := range append(k.keys(), aKey("nobody"), api.Key{}) {
		if l := m.Key(x); !alike(l, k.key(x)) {
			return fmt.Sprintf("of %v there are %v, not %v", x, l, k.key(x))
		}
		want, is := k.winner(x)
		if e, got := m.Winner(x); got != is || !event.Same(e, want) {
			return fmt.Sprintf("the winner of %v is %v (%v), not %v (%v)", x, e, got, want, is)
		}
	}
	return differenceAtDots(m, k)
}

// differenceAtDots asks of each dot of an event, and of those about it.
func differenceAtDots(m *ormap.Map, k *told) string {
	l := k.deads()
	for _, x := range k.marks {
		l = append(l, api.Dot(x))
	}
	for _, e := range k.kept {
		l = append(l, e.Dot)
		l = append(l, e.Over...)
	}
	slices.SortFunc(l, byDots)
	for _, d := range slices.Compact(l) {
		for by := -1; by <= 1; by++ {
			d := api.Dot{A: d.A, Seq: d.Seq + by}
			if m.Has(d) != k.has(d) {
				return fmt.Sprintf("has %v: %v", d, m.Has(d))
			}
			if m.Dead(d) != k.isDead(d) {
				return fmt.Sprintf("%v is dead: %v", d, m.Dead(d))
			}
		}
	}
	return ""
}

// hold holds all that a map tells of itself against what is wanted.
func hold(t *testing.T, what string, m *ormap.Map, want *told) {
	t.Helper()
	if d := difference(m, want); d != "" {
		t.Fatalf("%s: %s", what, d)
	}
}

// must is the map of events, each of which is applied.
func must(t *testing.T, l ...api.Event) *ormap.Map {
	t.Helper()
	m := ormap.New()
	for _, e := range l {
		if is, wrong := m.Apply(e); !is || wrong != api.OK {
			t.Fatalf("%v was not applied: %v, %v", e, is, wrong)
		}
	}
	return m
}

// mustLoad is the map that is loaded.
func mustLoad(t *testing.T, l []api.Mark, kept []api.Event, dead []api.Dot) *ormap.Map {
	t.Helper()
	m, wrong := ormap.Load(l, kept, dead)
	if m == nil || wrong != api.OK {
		t.Fatalf("nothing was loaded of %v: %v", l, wrong)
	}
	return m
}

// holdApply applies an event, and holds the answer, and what the map is then, against what is wanted.
func holdApply(t *testing.T, m *ormap.Map, k *told, e api.Event) (bool, api.Errno) {
	t.Helper()
	want, wanted := k.apply(e)
	is, wrong := m.Apply(e)
	if is != want || wrong != wanted {
		t.Fatalf("Apply(%v): %v, %v, not %v, %v", e, is, wrong, want, wanted)
	}
	hold(t, fmt.Sprintf("behind %v", e), m, k)
	return is, wrong
}

// pick is one of a list.
func pick[T any](r *rand.Rand, l []T) T {
	return l[r.Intn(len(l))]
}

// ends are the ends of what numbers may be, and of an int, with what lies on either side.
func ends() []int {
	l := []int{math.MinInt, math.MinInt + 1, math.MinInt32, -lastSeq, math.MaxInt32, math.MaxInt - 1, math.MaxInt}
	for _, near := range []int{0, lastDev, lastInc, lastSeq} {
		for by := -1; by <= 1; by++ {
			l = append(l, near+by)
		}
	}
	slices.Sort(l)
	return slices.Compact(l)
}

// endDots are dots of all those numbers.
func endDots() []api.Dot {
	var l []api.Dot
	for _, dev := range ends() {
		for _, inc := range ends() {
			for _, seq := range ends() {
				l = append(l, at(dev, inc, seq))
			}
		}
	}
	return l
}

// someKeys are keys that stand in another order by each of their parts.
func someKeys() []api.Key {
	return []api.Key{
		{Name: "a", Domain: "z.test", Path: "/b"},
		{Name: "a", Domain: "z.test", Path: "/"},
		{Name: "a", Domain: "b.test", Path: "/c"},
		{Name: "b", Domain: "a.test", Path: "/a"},
		{Name: "ab", Domain: "a.test", Path: "/"},
		{Name: "B", Domain: "shop.test", Path: "/z"},
	}
}

// someActors are actors that stand in another order as texts than as numbers.
func someActors() []api.Actor {
	return []api.Actor{by(0, 1), by(2, 1), by(2, 10), by(2, 9), by(10, 1), by(lastDev, lastInc)}
}

// drawnOver are dots in order, of which some may not have come, that an event may be over.
func drawnOver(r *rand.Rand, k *told, own api.Dot, most int) []api.Dot {
	var l []api.Dot
	for range r.Intn(most + 1) {
		d := api.Dot{A: pick(r, someActors())}
		d.Seq = 1 + r.Intn(k.number(d.A)+3)
		if d.A != own.A || d.Seq < own.Seq {
			l = append(l, d)
		}
	}
	slices.SortFunc(l, byDots)
	return slices.Compact(l)
}

// drawnEvent is mostly the next one of an actor, else an old one, one behind a gap, or one that may not be.
func drawnEvent(r *rand.Rand, k *told) api.Event {
	a := pick(r, someActors())
	d := api.Dot{A: a, Seq: k.number(a) + 1}
	switch r.Intn(12) {
	case 0:
		d.Seq = max(1, d.Seq-1-r.Intn(3))
	case 1:
		d.Seq += 1 + r.Intn(3)
	}
	e := putAt(d, pick(r, someKeys()), r.Intn(3), drawnOver(r, k, d, 3)...)
	e.Stamp.Count = r.Intn(2)
	if len(e.Over) > 0 && r.Intn(3) == 0 {
		e.Kind, e.Key, e.Cookie = 2, api.Key{}, api.Cookie{}
	}
	if r.Intn(15) == 0 {
		return pick(r, spoils())(e)
	}
	return e
}

// spoils are ways to make of an event one that may not be.
func spoils() []func(api.Event) api.Event {
	var l []func(api.Event) api.Event
	for _, change := range []func(e *api.Event){
		func(e *api.Event) { e.Dot.A.Dev = -1 },
		func(e *api.Event) { e.Dot.A.Dev = lastDev + 1 },
		func(e *api.Event) { e.Dot.A.Inc = 0 },
		func(e *api.Event) { e.Dot.A.Inc = lastInc + 1 },
		func(e *api.Event) { e.Dot.Seq = 0 },
		func(e *api.Event) { e.Dot.Seq = lastSeq + 1 },
		func(e *api.Event) { e.Dot.Seq = math.MaxInt },
		func(e *api.Event) { e.Dot.Seq = math.MinInt },
		func(e *api.Event) { e.Stamp.Dev = (e.Dot.A.Dev + 1) % 64 },
		func(e *api.Event) { e.Stamp.Wall = -1 },
		func(e *api.Event) { e.Stamp.Wall = lastWall + 1 },
		func(e *api.Event) { e.Stamp.Count = lastCount + 1 },
		func(e *api.Event) { e.Kind = 0 },
		func(e *api.Event) { e.Kind = 3 },
		func(e *api.Event) { e.Kind = 3 - e.Kind },
		func(e *api.Event) { e.Over = []api.Dot{e.Dot} },
		func(e *api.Event) { e.Over = []api.Dot{{A: e.Dot.A, Seq: e.Dot.Seq + 1}} },
		func(e *api.Event) { e.Over = []api.Dot{{}} },
		func(e *api.Event) { e.Over = []api.Dot{at(7, 1, 1), at(7, 1, 1)} },
		func(e *api.Event) { e.Over = []api.Dot{at(7, 1, 2), at(7, 1, 1)} },
		func(e *api.Event) { e.Over = dotsOf(by(8, 7), mostOver+1) },
		func(e *api.Event) { e.Cookie.Expiry = lastTime + 1 },
		func(e *api.Event) { e.Key.Name = "" },
	} {
		l = append(l, func(e api.Event) api.Event {
			w := but(e, change)
			// A Remove's name is empty already.
			if event.Right(w) {
				w.Kind = 7
			}
			return w
		})
	}
	return l
}

// dotsOf are n dots of one actor, in order.
func dotsOf(a api.Actor, n int) []api.Dot {
	l := make([]api.Dot, n)
	for i := range l {
		l[i] = api.Dot{A: a, Seq: i + 1}
	}
	return l
}

// putsOf are n Puts of one actor, in order.
func putsOf(a api.Actor, n int) []api.Event {
	var l []api.Event
	for _, d := range dotsOf(a, n) {
		l = append(l, putAt(d, aKey(fmt.Sprint("n", d.Seq)), 1))
	}
	return l
}

// full is a map that keeps as many events as may be, and what is told of it.
func full(t *testing.T) (*ormap.Map, *told) {
	t.Helper()
	l := putsOf(by(3, 1), mostEvents-1)
	l = append(l, aRemove(at(4, 1, 1), at(3, 1, 7), at(9, 1, 1)))
	m := must(t, l...)
	k, wrong := loaded([]api.Mark{mark(3, 1, mostEvents-1), mark(4, 1, 1)}, l, []api.Dot{at(3, 1, 7), at(9, 1, 1)})
	if wrong != api.OK {
		t.Fatal(wrong)
	}
	return m, k
}

func TestP21_1New(t *testing.T) {
	m, o := ormap.New(), ormap.New()
	if m == nil || o == nil || m == o {
		t.Fatalf("New: %p, %p", m, o)
	}
	hold(t, "a new map", m, tell())
	for what, n := range map[string]int{
		"Context": len(m.Context()), "Events": len(m.Events()), "Alive": len(m.Alive()), "Winners": len(m.Winners()), "Deads": len(m.Deads()), "Len": m.Len(),
	} {
		if n != 0 {
			t.Errorf("a new map has %d of %s", n, what)
		}
	}
	m.Apply(aPut(at(0, 1, 1)))
	hold(t, "another new map", o, tell())
}

func TestP21_1Apply(t *testing.T) {
	m, k := ormap.New(), tell()
	for i, step := range []struct {
		e  api.Event
		is bool
		wr api.Errno
	}{
		{aPut(at(1, 1, 2)), false, api.ErrOrder},
		{aPut(at(1, 1, 1)), true, api.OK},
		{aPut(at(1, 1, 1)), false, api.OK},
		{aPut(at(1, 1, 3)), false, api.ErrOrder},
		{aPut(at(1, 2, 2)), false, api.ErrOrder},
		{aPut(at(2, 1, 2)), false, api.ErrOrder},
		{aPut(at(1, 1, 2)), true, api.OK},
		{aPut(at(1, 1, 1)), false, api.OK},
		{aPut(at(1, 2, 1), at(1, 1, 2)), true, api.OK},
		{aRemove(at(0, 1, 1), at(1, 1, 1), at(1, 2, 1), at(5, 5, 5)), true, api.OK},
		{aRemove(at(0, 1, 1), at(1, 1, 1), at(1, 2, 1), at(5, 5, 5)), false, api.OK},
		{aRemove(at(0, 1, 2)), false, api.ErrForm},
		{aPut(at(0, 1, lastSeq)), false, api.ErrOrder},
		{aPut(at(0, 1, 2), at(0, 1, 1)), true, api.OK},
	} {
		if is, wrong := holdApply(t, m, k, step.e); is != step.is || wrong != step.wr {
			t.Errorf("step %d: %v, %v", i, is, wrong)
		}
	}
	if m.Len() != 5 || len(m.Alive()) != 1 {
		t.Errorf("%d are kept, alive are %v", m.Len(), m.Alive())
	}
}

// Example 1 of the chapter, and 5 of the document.
func TestP21_1Example(t *testing.T) {
	one, over := aPut(at(0, 1, 1)), aRemove(at(1, 1, 1), at(0, 1, 1))
	for _, l := range [][]api.Event{{one, over}, {over, one}} {
		m := ormap.New()
		for _, e := range l {
			m.Apply(e)
			_, is := m.Winner(site)
			if shown := m.Len() == 1 && m.Has(one.Dot); is != shown {
				t.Errorf("behind %v the Put is shown: %v", e.Dot, is)
			}
		}
		if len(m.Alive()) != 0 || len(m.Key(site)) != 0 || len(m.Winners()) != 0 || m.Len() != 2 || !m.Dead(one.Dot) || m.Dead(over.Dot) {
			t.Errorf("alive are %v", m.Alive())
		}
	}
}

func TestP21_1ApplyOfWrongEvents(t *testing.T) {
	l := []api.Event{aPut(at(0, 1, 1)), aPut(at(0, 1, 2)), aPut(at(7, 1, 1)), aRemove(at(1, 1, 1), at(0, 1, 1))}
	m, k := must(t, l...), tell(l...)
	for i, spoil := range spoils() {
		for _, e := range []api.Event{
			aPut(at(0, 1, 3)), aPut(at(0, 1, 1)), aPut(at(0, 1, 9)), aRemove(at(1, 1, 2), at(0, 1, 2)), aRemove(at(1, 1, 1), at(0, 1, 1)),
		} {
			if is, wrong := holdApply(t, m, k, spoil(e)); is || wrong != api.ErrForm {
				t.Errorf("spoilt in way %d: %v, %v", i, is, wrong)
			}
		}
	}
	holdApply(t, m, k, api.Event{})
}

// Of the errors that apply, the answer is the one that the promise names first; what is old is no error.
func TestP21_1ApplyWhichErrorIsFirst(t *testing.T) {
	m, k := full(t)
	for _, c := range []struct {
		what string
		e    api.Event
		want api.Errno
	}{
		{"wrong, though old", but(aPut(at(3, 1, 1)), func(e *api.Event) { e.Kind = 9 }), api.ErrForm},
		{"wrong, behind a gap, and full", but(aPut(at(3, 1, 5000)), func(e *api.Event) { e.Stamp.Dev = 4 }), api.ErrForm},
		{"wrong, and full", but(aPut(at(3, 1, mostEvents)), func(e *api.Event) { e.Key.Path = "" }), api.ErrForm},
		{"behind a gap, and full", aPut(at(3, 1, mostEvents+1)), api.ErrOrder},
		{"of a new actor, behind a gap, and full", aPut(at(5, 1, 2)), api.ErrOrder},
		{"full", aPut(at(3, 1, mostEvents)), api.ErrFull},
		{"a Remove, and full", aRemove(at(4, 1, 2), at(3, 1, 1)), api.ErrFull},
		{"of a new actor, and full", aPut(at(5, 1, 1)), api.ErrFull},
		{"old, and full", aPut(at(3, 1, 9)), api.OK},
		{"old, dead, and full", aPut(at(3, 1, 7)), api.OK},
		{"the last one of its actor, and full", aPut(at(3, 1, mostEvents-1)), api.OK},
	} {
		if is, wrong := m.Apply(c.e); is || wrong != c.want {
			t.Errorf("%s: %v, %v, not %v", c.what, is, wrong, c.want)
		}
	}
	hold(t, "a full map", m, k)
	var none *ormap.Map
	for _, e := range []api.Event{{}, aPut(at(0, 1, 1)), aPut(at(0, 1, 2))} {
		if is, wrong := none.Apply(e); is || wrong != api.ErrNil {
			t.Errorf("of nil: %v, %v", is, wrong)
		}
	}
}

// An event that is old changes nothing, whatever else it says now.
func TestP21_1OldIsOldWhateverItSays(t *testing.T) {
	l := []api.Event{aPut(at(0, 1, 1)), aPut(at(1, 1, 1)), aRemove(at(0, 1, 2), at(1, 1, 1))}
	m, k := must(t, l...), tell(l...)
	for _, e := range []api.Event{
		putAt(at(0, 1, 1), aKey("other"), 9, at(1, 1, 1)),
		aRemove(at(0, 1, 1), at(1, 1, 1), at(2, 1, 1)),
		aPut(at(0, 1, 2)),
		aRemove(at(0, 1, 2), at(0, 1, 1)),
	} {
		if is, wrong := holdApply(t, m, k, e); is || wrong != api.OK {
			t.Errorf("%v: %v, %v", e, is, wrong)
		}
	}
	if !m.Forget(at(0, 1, 2)) || !k.forget(at(0, 1, 2)) {
		t.Fatal("not forgotten")
	}
	if is, wrong := holdApply(t, m, k, l[2]); is || wrong != api.OK {
		t.Errorf("what was forgotten is old: %v, %v", is, wrong)
	}
}

func TestP21_1ApplyAtTheEnds(t *testing.T) {
	for _, a := range []api.Actor{by(0, 1), by(0, lastInc), by(lastDev, 1), by(lastDev, lastInc)} {
		marks := []api.Mark{{A: a, Seq: lastSeq - 2}}
		m, k := mustLoad(t, marks, nil, nil), &told{marks: slices.Clone(marks)}
		for _, step := range []struct {
			seq int
			is  bool
			wr  api.Errno
		}{
			{lastSeq, false, api.ErrOrder},
			{lastSeq - 1, true, api.OK},
			{lastSeq, true, api.OK},
			{lastSeq, false, api.OK},
			{lastSeq + 1, false, api.ErrForm},
			{math.MaxInt, false, api.ErrForm},
			{1, false, api.OK},
			{0, false, api.ErrForm},
			{-1, false, api.ErrForm},
		} {
			if is, wrong := holdApply(t, m, k, aPut(api.Dot{A: a, Seq: step.seq})); is != step.is || wrong != step.wr {
				t.Errorf("%v, %d: %v, %v", a, step.seq, is, wrong)
			}
		}
	}
}

// Each dot that may be, and is the first one of its actor, is applied to a new map; no other one.
func TestP21_1ApplyOfEachDot(t *testing.T) {
	for _, d := range endDots() {
		want, wanted := d.Seq == 1, api.OK
		switch {
		case !dotMayBe(d):
			want, wanted = false, api.ErrForm
		case d.Seq != 1:
			wanted = api.ErrOrder
		}
		m := ormap.New()
		if is, wrong := m.Apply(aPut(d)); is != want || wrong != wanted || m.Has(d) != want {
			t.Fatalf("%v: %v, %v", d, is, wrong)
		}
	}
}

func TestP21_1ApplyUpToTheMost(t *testing.T) {
	m := ormap.New()
	for i, e := range putsOf(by(3, 1), mostEvents) {
		if !m.Room(1) || m.Len() != i {
			t.Fatalf("no room behind %d", i)
		}
		if is, wrong := m.Apply(e); !is || wrong != api.OK {
			t.Fatalf("%v: %v, %v", e.Dot, is, wrong)
		}
	}
	k := tell()
	k.marks, k.kept = []api.Mark{mark(3, 1, mostEvents)}, putsOf(by(3, 1), mostEvents)
	hold(t, "a full map", m, k)
	more := aRemove(at(3, 1, mostEvents+1), at(3, 1, 1), at(3, 1, mostEvents))
	if is, wrong := holdApply(t, m, k, more); is || wrong != api.ErrFull || m.Room(1) {
		t.Fatalf("one more: %v, %v", is, wrong)
	}
	// Dead are kept, too: only what is forgotten makes room.
	n, _ := full(t)
	if _, wrong := n.Apply(aPut(at(3, 1, mostEvents))); wrong != api.ErrFull {
		t.Errorf("beside a dead one: %v", wrong)
	}
	if !n.Forget(at(3, 1, 7)) || !n.Room(1) || n.Room(2) {
		t.Error("no room behind what was forgotten")
	}
	if is, wrong := n.Apply(aPut(at(3, 1, mostEvents))); !is || wrong != api.OK || n.Room(1) || n.Len() != mostEvents {
		t.Errorf("%v, %v", is, wrong)
	}
}

func TestP21_1HasAndDeadAtTheEnds(t *testing.T) {
	marks := []api.Mark{mark(0, 1, 1), mark(0, lastInc, lastInc), mark(lastDev, 1, lastSeq-1), mark(lastDev, lastInc, lastSeq)}
	dead := []api.Dot{at(0, 1, 1), at(0, 1, lastSeq), at(1, 1, 1), at(lastDev, lastInc, 1), at(lastDev, lastInc, lastSeq)}
	m, k := mustLoad(t, marks, nil, dead), &told{marks: marks, dead: dead}
	for _, d := range endDots() {
		if m.Has(d) != k.has(d) || m.Dead(d) != k.isDead(d) {
			t.Errorf("%v: %v, %v", d, m.Has(d), m.Dead(d))
		}
	}
}

func TestP21_1Room(t *testing.T) {
	for _, kept := range []int{0, 1, 5, mostEvents - 1, mostEvents} {
		m := must(t, putsOf(by(3, 1), kept)...)
		for _, n := range append(ends(), 2, 3, mostEvents-6, mostEvents-5, mostEvents-4, mostEvents-2, mostEvents-1, mostEvents, mostEvents+1) {
			want := n <= mostEvents && n+kept <= mostEvents
			if m.Room(n) != want {
				t.Errorf("room for %d beside %d: %v", n, kept, m.Room(n))
			}
		}
		if m.Len() != kept {
			t.Errorf("%d are kept, not %d", m.Len(), kept)
		}
	}
}

// What an event is over is dead, whether it came, comes later, is a Remove or never comes.
func TestP21_1Dead(t *testing.T) {
	l := []api.Event{
		aPut(at(1, 1, 1)),
		aPut(at(1, 1, 2), at(1, 1, 1), at(2, 1, 1), at(9, 9, 9)),
		aPut(at(2, 1, 1)),
		aRemove(at(2, 1, 2), at(1, 1, 2)),
		aRemove(at(2, 1, 3), at(2, 1, 2)),
		aPut(at(3, 1, 1), at(2, 1, 3), at(3, 2, 1)),
	}
	m, k := ormap.New(), tell()
	for _, e := range l {
		holdApply(t, m, k, e)
	}
	if got := m.Deads(); !slices.Equal(got, []api.Dot{at(1, 1, 1), at(1, 1, 2), at(2, 1, 1), at(2, 1, 2), at(2, 1, 3), at(3, 2, 1), at(9, 9, 9)}) {
		t.Errorf("dead are %v", got)
	}
	// What a dead event is over stays dead: nothing comes back.
	if got := m.Alive(); len(got) != 1 || got[0].Dot != at(3, 1, 1) {
		t.Errorf("alive are %v", got)
	}
	for _, d := range []api.Dot{{}, at(3, 1, 1), at(9, 9, 8), at(9, 9, 10), at(9, 8, 9), at(8, 9, 9), at(-1, 9, 9)} {
		if m.Dead(d) {
			t.Errorf("%v is dead", d)
		}
	}
}

func TestP21_1OverAsManyAsMayBe(t *testing.T) {
	l := putsOf(by(1, 1), mostOver)
	l = append(l, putAt(at(2, 1, 1), site, 1))
	l = append(l, aRemove(at(3, 1, 1), dotsOf(by(1, 1), mostOver)...))
	m, k := must(t, l...), tell(l...)
	hold(t, "a Remove over as many as may be", m, k)
	if len(m.Deads()) != mostOver || len(m.Alive()) != 1 {
		t.Errorf("alive are %v", m.Alive())
	}
}

func TestP21_1ContextAndEventsAreInOrder(t *testing.T) {
	r := rand.New(rand.NewSource(21))
	for range 20 {
		var l []api.Event
		var marks []api.Mark
		for dev := range 12 {
			for inc := 1; inc < 12; inc++ {
				l = append(l, aPut(at(dev, inc, 1)))
				marks = append(marks, mark(dev, inc, 1))
			}
		}
		want := slices.Clone(l)
		r.Shuffle(len(l), func(i, j int) { l[i], l[j] = l[j], l[i] })
		m := must(t, l...)
		if !slices.Equal(m.Context(), marks) || !alike(m.Events(), want) || !alike(m.Alive(), want) || !alike(m.Key(site), want) {
			t.Fatalf("out of order: %v", m.Context())
		}
	}
	m := must(t, putsOf(by(0, 1), 120)...)
	if !alike(m.Events(), putsOf(by(0, 1), 120)) || !alike(m.Alive(), putsOf(by(0, 1), 120)) || !slices.Equal(m.Context(), []api.Mark{mark(0, 1, 120)}) {
		t.Errorf("out of order: %v", m.Events())
	}
}

// A context may have more actors than a list of marks: to apply an event asks for no marks.
func TestP21_1MoreActorsThanMarksMayBe(t *testing.T) {
	m := ormap.New()
	for n := range mostMarks + 4 {
		a := by(n%64, 1+n/64)
		if is, wrong := m.Apply(aRemove(api.Dot{A: a, Seq: 1}, at(0, lastInc, 1))); !is || wrong != api.OK {
			t.Fatalf("%v: %v, %v", a, is, wrong)
		}
		m.Forget(api.Dot{A: a, Seq: 1})
	}
	if l := m.Context(); len(l) != mostMarks+4 || m.Len() != 0 || len(m.Deads()) != 1 {
		t.Errorf("%d marks, %d kept", len(l), m.Len())
	}
}

func TestP21_1OfNil(t *testing.T) {
	var m *ormap.Map
	for what, is := range map[string]bool{
		"Context": m.Context() != nil, "Events": m.Events() != nil, "Alive": m.Alive() != nil, "Key": m.Key(site) != nil, "Key of nothing": m.Key(api.Key{}) != nil,
		"Winners": m.Winners() != nil, "Deads": m.Deads() != nil, "Copy": m.Copy() != nil, "Len": m.Len() != 0,
		"Has": m.Has(at(0, 1, 1)), "Dead": m.Dead(at(0, 1, 1)), "Forget": m.Forget(at(0, 1, 1)), "Bare": m.Bare(at(0, 1, 1)), "Clear": m.Clear(at(0, 1, 1)),
		"Has of none": m.Has(api.Dot{}), "Dead of none": m.Dead(api.Dot{}), "Forget of none": m.Forget(api.Dot{}), "Bare of none": m.Bare(api.Dot{}), "Clear of none": m.Clear(api.Dot{}),
	} {
		if is {
			t.Errorf("%s of nil answers something", what)
		}
	}
	for _, n := range append(ends(), mostEvents) {
		if m.Room(n) {
			t.Errorf("nil has room for %d", n)
		}
	}
	for _, k := range []api.Key{{}, site} {
		if e, is := m.Winner(k); is || !event.Same(e, api.Event{}) {
			t.Errorf("nil has the winner %v", e)
		}
	}
}

// spoilEvents changes all of events that can be changed in place.
func spoilEvents(l []api.Event) {
	for i := range l {
		for j := range l[i].Over {
			l[i].Over[j] = at(60, 60, 60)
		}
		_ = append(l[i].Over, at(61, 61, 61))
		l[i] = api.Event{Kind: 9}
	}
}

// someMap is a map that has something of each kind.
func someMap() []api.Event {
	return []api.Event{
		putAt(at(0, 1, 1), site, 3),
		putAt(at(0, 1, 2), site, 4, at(0, 1, 1), at(5, 1, 1)),
		putAt(at(1, 1, 1), site, 9, at(0, 1, 1), at(5, 1, 2)),
		putAt(at(1, 1, 2), aKey("other"), 2, at(5, 1, 3)),
		aRemove(at(2, 1, 1), at(5, 1, 1), at(5, 1, 9)),
		putAt(at(5, 1, 1), site, 50, at(0, 1, 1)),
	}
}

func TestP21_1WhatIsHandedInIsNotKept(t *testing.T) {
	l := someMap()
	m, k := ormap.New(), tell(l...)
	for _, e := range l {
		over := slices.Clone(e.Over)
		room := append(slices.Clone(e.Over), at(62, 62, 62), at(63, 63, 63))
		e.Over = room[:len(e.Over)]
		if is, wrong := m.Apply(e); !is || wrong != api.OK {
			t.Fatalf("%v: %v, %v", e, is, wrong)
		}
		if !slices.Equal(room, append(over, at(62, 62, 62), at(63, 63, 63))) {
			t.Fatalf("changed: %v", room)
		}
		for i := range room {
			room[i] = at(40, 40, 40)
		}
	}
	hold(t, "behind changes of what was handed in", m, k)
	// Nor does an old event, or one with an error, change anything.
	for _, e := range append(someMap(), aPut(at(9, 9, 9), at(1, 1, 1)), aRemove(at(9, 9, 1), at(9, 9, 9))) {
		want := but(e, func(*api.Event) {})
		m.Apply(e)
		if !event.Same(e, want) {
			t.Errorf("changed: %v", e)
		}
	}
}

func TestP21_1WhatIsAnsweredIsNew(t *testing.T) {
	l := someMap()
	m, k := must(t, l...), tell(l...)
	for range 2 {
		spoilEvents(m.Events())
		spoilEvents(m.Alive())
		spoilEvents(m.Key(site))
		spoilEvents(m.Winners())
		e, _ := m.Winner(site)
		spoilEvents([]api.Event{e})
		marks, deads := m.Context(), m.Deads()
		for i := range marks {
			marks[i] = mark(60, 60, 60)
		}
		for i := range deads {
			deads[i] = at(60, 60, 60)
		}
		_, _ = append(marks, mark(61, 61, 61)), append(deads, at(61, 61, 61))
		hold(t, "behind changes of what was answered", m, k)
	}
	// No two lists of one answer share anything, nor do those of two answers.
	for _, ask := range []func() []api.Event{m.Events, m.Alive, m.Winners, func() []api.Event { return m.Key(site) }} {
		want, other := ask(), ask()
		got := ask()
		for i := range got {
			spoilEvents(got[i : i+1])
			if !alike(got[i+1:], want[i+1:]) || !alike(other, want) {
				t.Fatalf("changed: %v", got)
			}
		}
	}
}

func TestP21_2AliveAndKey(t *testing.T) {
	other := api.Key{Name: "sid", Domain: "shop.test", Path: "/a"}
	l := []api.Event{
		putAt(at(2, 1, 1), site, 1),
		putAt(at(1, 2, 1), site, 1),
		putAt(at(1, 1, 1), other, 1),
		putAt(at(1, 1, 2), site, 1, at(2, 1, 1)),
		putAt(at(0, 1, 1), api.Key{Name: "sid", Domain: "a.shop.test", Path: "/"}, 1),
		putAt(at(0, 1, 2), api.Key{Name: "Sid", Domain: "shop.test", Path: "/"}, 1),
		aRemove(at(0, 1, 3), at(1, 2, 9)),
	}
	m, k := ormap.New(), tell()
	for _, e := range l {
		holdApply(t, m, k, e)
	}
	if got := m.Alive(); !alike(got, []api.Event{l[4], l[5], l[2], l[3], l[1]}) {
		t.Errorf("alive are %v", got)
	}
	for key, want := range map[api.Key][]api.Event{
		site: {l[3], l[1]}, other: {l[2]}, l[4].Key: {l[4]}, l[5].Key: {l[5]}, {}: nil, aKey("no"): nil, {Name: "sid"}: nil,
	} {
		if got := m.Key(key); !alike(got, want) {
			t.Errorf("of %v there are %v", key, got)
		}
	}
	// A key of which all is over has nothing, until something is put again.
	holdApply(t, m, k, aRemove(at(3, 1, 1), at(1, 1, 2), at(1, 2, 1)))
	if got, is := m.Winner(site); is || len(m.Key(site)) != 0 || !event.Same(got, api.Event{}) {
		t.Errorf("over is %v", got)
	}
	holdApply(t, m, k, putAt(at(3, 1, 2), site, 0))
	if got, is := m.Winner(site); !is || got.Dot != at(3, 1, 2) {
		t.Errorf("put again is %v", got)
	}
}

// An event that is over Puts of other keys takes these away, too.
func TestP21_2OverOtherKeys(t *testing.T) {
	m, k := ormap.New(), tell()
	for _, e := range []api.Event{
		putAt(at(0, 1, 1), aKey("a"), 1),
		putAt(at(0, 1, 2), aKey("b"), 1),
		putAt(at(0, 1, 3), aKey("c"), 1, at(0, 1, 1)),
		putAt(at(1, 1, 1), aKey("d"), 1, at(0, 1, 2), at(0, 1, 3), at(2, 1, 1)),
		putAt(at(2, 1, 1), aKey("e"), 1),
	} {
		holdApply(t, m, k, e)
	}
	if l := m.Winners(); len(l) != 1 || l[0].Key != aKey("d") {
		t.Errorf("winners are %v", l)
	}
}

// rivals are Puts of one key, each of which wins over those ahead of it.
func rivals() []api.Event {
	stamped := func(d api.Dot, wall, count int) api.Event {
		return but(putAt(d, site, wall), func(e *api.Event) { e.Stamp.Count = count })
	}
	return []api.Event{
		stamped(at(9, 1, 1), 0, 0),
		stamped(at(8, 1, 1), 0, 1),
		stamped(at(7, 9, 1), 3, 7),
		stamped(at(0, 1, 1), 4, 0),
		stamped(at(0, 1, 2), 4, 0),
		stamped(at(0, 2, 1), 4, 0),
		stamped(at(1, 1, 1), 4, 0),
		stamped(at(0, 1, 3), 4, 1),
		stamped(at(1, 1, 2), 4, 1),
		stamped(at(0, 3, 1), lastWall, 0),
		stamped(at(6, 1, 1), lastWall, lastCount),
		stamped(at(lastDev, lastInc, 1), lastWall, lastCount),
	}
}

func TestP21_2Winner(t *testing.T) {
	l := rivals()
	for i, a := range l {
		for j, b := range l {
			// Both stand beside one another, whatever else there is of their actors.
			m := mustLoad(t, marksOf(l), sorted([]api.Event{a, b}), nil)
			if i == j {
				m = mustLoad(t, marksOf(l), []api.Event{a}, nil)
			}
			if e, is := m.Winner(site); !is || !event.Same(e, l[max(i, j)]) {
				t.Errorf("of %v and %v the winner is %v", a, b, e)
			}
		}
	}
	r := rand.New(rand.NewSource(22))
	for range 200 {
		m, k := ormap.New(), tell()
		for _, e := range inDrawnOrder(r, l) {
			m.Apply(e)
			k.apply(e)
			want, _ := k.winner(site)
			if e, is := m.Winner(site); !is || !event.Same(e, want) {
				t.Fatalf("the winner is %v, not %v", e, want)
			}
		}
		// One after the other is taken away, the winner first.
		for n, over := 1, slices.Clone(l); len(over) > 0; n, over = n+1, over[:len(over)-1] {
			want := over[len(over)-1]
			if e, is := m.Winner(site); !is || !event.Same(e, want) {
				t.Fatalf("the winner is %v, not %v", e, want)
			}
			holdApply(t, m, k, aRemove(at(20, 1, n), want.Dot))
		}
		if _, is := m.Winner(site); is {
			t.Fatal("a winner is left")
		}
	}
}

// marksOf are the marks of all events' dots.
func marksOf(l []api.Event) []api.Mark {
	k := map[api.Actor]int{}
	for _, e := range l {
		k[e.Dot.A] = max(k[e.Dot.A], e.Dot.Seq)
	}
	var marks []api.Mark
	for a, n := range k {
		marks = append(marks, api.Mark{A: a, Seq: n})
	}
	slices.SortFunc(marks, func(x, y api.Mark) int { return byDots(api.Dot(x), api.Dot(y)) })
	return marks
}

// sorted are the events by their dots, each once.
func sorted(l []api.Event) []api.Event {
	l = slices.Clone(l)
	slices.SortFunc(l, func(a, b api.Event) int { return byDots(a.Dot, b.Dot) })
	return slices.CompactFunc(l, func(a, b api.Event) bool { return a.Dot == b.Dot })
}

// inDrawnOrder are the events in some order in which each actor's are in its own.
func inDrawnOrder(r *rand.Rand, l []api.Event) []api.Event {
	order := make([]api.Actor, len(l))
	for i, e := range l {
		order[i] = e.Dot.A
	}
	r.Shuffle(len(order), func(i, j int) { order[i], order[j] = order[j], order[i] })
	next := map[api.Actor][]api.Event{}
	for _, e := range sorted(l) {
		next[e.Dot.A] = append(next[e.Dot.A], e)
	}
	var out []api.Event
	for _, a := range order {
		out = append(out, next[a][0])
		next[a] = next[a][1:]
	}
	return out
}

func TestP21_2Winners(t *testing.T) {
	want := []api.Key{
		{Name: "A", Domain: "z.test", Path: "/z"},
		{Name: "a", Domain: "a.test", Path: "/"},
		{Name: "a", Domain: "a.test", Path: "/B"},
		{Name: "a", Domain: "a.test", Path: "/a"},
		{Name: "a", Domain: "a.test", Path: "/a/"},
		{Name: "a", Domain: "a.test.x", Path: "/"},
		{Name: "a", Domain: "b", Path: "/"},
		{Name: "a.test", Domain: "a", Path: "/"},
		{Name: "aa", Domain: "0", Path: "/"},
		{Name: "b", Domain: "a", Path: "/"},
		{Name: "\xff", Domain: "a", Path: "/"},
	}
	r := rand.New(rand.NewSource(23))
	for range 100 {
		keys := slices.Clone(want)
		r.Shuffle(len(keys), func(i, j int) { keys[i], keys[j] = keys[j], keys[i] })
		m := ormap.New()
		for i, k := range keys {
			m.Apply(putAt(at(0, 1, i+1), k, 2))
			m.Apply(putAt(at(1, 1, i+1), k, 1+r.Intn(3)))
		}
		m.Apply(putAt(at(2, 1, 1), aKey("gone"), 1))
		m.Apply(aRemove(at(2, 1, 2), at(2, 1, 1)))
		got := m.Winners()
		if len(got) != len(want) {
			t.Fatalf("there are %d winners", len(got))
		}
		for i, e := range got {
			w, is := m.Winner(want[i])
			if e.Key != want[i] || !is || !event.Same(w, e) {
				t.Fatalf("%d: the winner is %v, not of %v", i, e, want[i])
			}
		}
	}
}

func TestP21_3Copy(t *testing.T) {
	l := someMap()
	m, k := must(t, l...), tell(l...)
	if !m.Forget(at(2, 1, 1)) || !k.forget(at(2, 1, 1)) {
		t.Fatal("not forgotten")
	}
	steps := []func(m *ormap.Map, k *told) bool{
		func(m *ormap.Map, k *told) bool {
			m.Apply(aRemove(at(2, 1, 2), at(0, 1, 2), at(1, 1, 1)))
			is, _ := k.apply(aRemove(at(2, 1, 2), at(0, 1, 2), at(1, 1, 1)))
			return is
		},
		func(m *ormap.Map, k *told) bool { return m.Forget(at(0, 1, 1)) && k.forget(at(0, 1, 1)) },
		func(m *ormap.Map, k *told) bool { return m.Bare(at(1, 1, 2)) && k.bare(at(1, 1, 2)) },
		func(m *ormap.Map, k *told) bool { return m.Clear(at(0, 1, 1)) && k.clear(at(0, 1, 1)) },
		func(m *ormap.Map, k *told) bool {
			m.Apply(putAt(at(6, 1, 1), aKey("new"), 1, at(1, 1, 2)))
			is, _ := k.apply(putAt(at(6, 1, 1), aKey("new"), 1, at(1, 1, 2)))
			return is
		},
	}
	for i, step := range steps {
		c, kc := m.Copy(), k.copied()
		if c == m || c == nil {
			t.Fatal("no copy")
		}
		hold(t, "a copy", c, kc)
		// The copy goes its own way, and so does what it was made of.
		other := c.Copy()
		if !step(c, kc) {
			t.Fatalf("step %d does nothing", i)
		}
		hold(t, "a copy that went on", c, kc)
		hold(t, "what it was made of", m, k)
		hold(t, "a copy of the copy", other, k)
		was := k.copied()
		if !step(m, k) {
			t.Fatalf("step %d does nothing", i)
		}
		hold(t, "what went on", m, k)
		hold(t, "a copy", other, was)
		hold(t, "a copy that went on", c, kc)
	}
	hold(t, "a copy of nothing", ormap.New().Copy(), tell())
	spoilEvents(m.Copy().Events())
	hold(t, "behind changes", m, k)
}

// A copy has what was loaded, and no more: what its events are over is not dead by that.
func TestP21_3CopyOfWhatWasLoaded(t *testing.T) {
	marks := []api.Mark{mark(0, 1, 9), mark(1, 1, 3)}
	kept := []api.Event{aPut(at(0, 1, 4)), aPut(at(1, 1, 1), at(0, 1, 4), at(0, 1, 5)), aRemove(at(1, 1, 2), at(1, 1, 1))}
	m := mustLoad(t, marks, kept, []api.Dot{at(0, 1, 2)})
	k := &told{marks: marks, kept: kept, dead: []api.Dot{at(0, 1, 2)}}
	hold(t, "what was loaded", m, k)
	hold(t, "its copy", m.Copy(), k)
	m, _ = full(t)
	if c := m.Copy(); c.Len() != mostEvents || c.Room(1) || !alike(c.Events(), m.Events()) {
		t.Errorf("the copy keeps %d", c.Len())
	}
}

func TestP21_3Forget(t *testing.T) {
	l := []api.Event{
		putAt(at(0, 1, 1), site, 1),
		putAt(at(0, 1, 2), site, 2, at(0, 1, 1), at(7, 1, 1)),
		aRemove(at(1, 1, 1), at(5, 1, 1)),
		aRemove(at(1, 1, 2), at(1, 1, 1)),
		putAt(at(2, 1, 1), aKey("other"), 1),
	}
	m, k := must(t, l...), tell(l...)
	for _, step := range []struct {
		what string
		d    api.Dot
		want bool
	}{
		{"an alive Put", at(0, 1, 2), false},
		{"the only Put of a key", at(2, 1, 1), false},
		{"a dead Put", at(0, 1, 1), true},
		{"what is forgotten", at(0, 1, 1), false},
		{"a Remove", at(1, 1, 2), true},
		{"a dead Remove", at(1, 1, 1), true},
		{"what is forgotten", at(1, 1, 2), false},
		{"a dead dot that did not come", at(5, 1, 1), false},
		{"a dot that nobody knows", at(9, 1, 1), false},
		{"the zero dot", api.Dot{}, false},
		{"an actor's next one", at(0, 1, 3), false},
	} {
		want, got := k.forget(step.d), m.Forget(step.d)
		if got != step.want || got != want {
			t.Errorf("%s, %v: %v", step.what, step.d, got)
		}
		hold(t, step.what, m, k)
	}
	if m.Len() != 2 || len(m.Deads()) != 4 || !m.Has(at(0, 1, 1)) || !m.Has(at(1, 1, 2)) {
		t.Errorf("%d are kept, dead are %v", m.Len(), m.Deads())
	}
	// What a forgotten event was over stays dead: a Put that comes late is not shown.
	holdApply(t, m, k, putAt(at(5, 1, 1), site, 99))
	if e, is := m.Winner(site); !is || e.Dot != at(0, 1, 2) {
		t.Errorf("the winner is %v", e)
	}
}

func TestP21_3Bare(t *testing.T) {
	l := []api.Event{
		putAt(at(0, 1, 1), site, 1, at(4, 1, 1)),
		putAt(at(0, 1, 2), site, 2, at(0, 1, 1), at(7, 1, 1)),
		putAt(at(0, 1, 3), site, 3),
		aRemove(at(1, 1, 1), at(5, 1, 1)),
		putAt(at(4, 1, 1), site, 4),
	}
	m, k := must(t, l...), tell(l...)
	for _, step := range []struct {
		what string
		d    api.Dot
		want bool
	}{
		{"an alive Put", at(0, 1, 2), true},
		{"a bare one", at(0, 1, 2), false},
		{"a dead Put", at(0, 1, 1), true},
		{"a dead Put, over nothing", at(4, 1, 1), false},
		{"an alive Put, over nothing", at(0, 1, 3), false},
		{"a Remove", at(1, 1, 1), false},
		{"a dead dot that did not come", at(5, 1, 1), false},
		{"the zero dot", api.Dot{}, false},
		{"an actor's next one", at(0, 1, 4), false},
	} {
		want, got := k.bare(step.d), m.Bare(step.d)
		if got != step.want || got != want {
			t.Errorf("%s, %v: %v", step.what, step.d, got)
		}
		hold(t, step.what, m, k)
	}
	if e, _ := m.Winner(site); e.Dot != at(0, 1, 3) || m.Events()[1].Over != nil || !m.Dead(at(7, 1, 1)) || len(m.Events()[3].Over) != 1 {
		t.Errorf("kept are %v", m.Events())
	}
	if !m.Forget(at(0, 1, 1)) || !k.forget(at(0, 1, 1)) || m.Bare(at(0, 1, 1)) {
		t.Error("what is forgotten is bared")
	}
	holdApply(t, m, k, putAt(at(7, 1, 1), site, 9))
}

func TestP21_3Clear(t *testing.T) {
	l := []api.Event{
		putAt(at(0, 1, 1), site, 1),
		putAt(at(0, 1, 2), site, 2, at(0, 1, 1), at(0, 2, 1), at(7, 1, 1)),
		aRemove(at(1, 1, 1), at(0, 1, 1)),
		aRemove(at(1, 1, 2), at(1, 1, 1)),
	}
	m, k := must(t, l...), tell(l...)
	for _, d := range []api.Dot{at(0, 1, 1), at(1, 1, 1), at(1, 1, 2)} {
		if m.Clear(d) {
			t.Errorf("%v, which is kept, is cleared", d)
		}
		hold(t, "what is kept", m, k)
		if !m.Forget(d) || !k.forget(d) {
			t.Fatalf("%v is not forgotten", d)
		}
	}
	for _, step := range []struct {
		what string
		d    api.Dot
		want bool
	}{
		{"a dead Put that is forgotten", at(0, 1, 1), true},
		{"what was cleared", at(0, 1, 1), false},
		{"a dead Remove that is forgotten", at(1, 1, 1), true},
		{"a Remove that is not dead", at(1, 1, 2), false},
		{"an alive Put", at(0, 1, 2), false},
		{"a dead dot that did not come", at(7, 1, 1), false},
		{"a dead dot of an actor that nobody knows", at(0, 2, 1), false},
		{"the zero dot", api.Dot{}, false},
		{"an actor's next one", at(0, 1, 3), false},
	} {
		want, got := k.clear(step.d), m.Clear(step.d)
		if got != step.want || got != want {
			t.Errorf("%s, %v: %v", step.what, step.d, got)
		}
		hold(t, step.what, m, k)
	}
	// An event that is over it, and comes later, makes it dead again; it may be cleared again.
	holdApply(t, m, k, aRemove(at(1, 1, 3), at(0, 1, 1)))
	if !m.Dead(at(0, 1, 1)) || !m.Clear(at(0, 1, 1)) || m.Clear(at(0, 1, 1)) {
		t.Error("not dead again")
	}
	// What came is old, whether it is dead or not.
	if is, wrong := m.Apply(l[0]); is || wrong != api.OK || len(m.Key(site)) != 1 {
		t.Errorf("%v, %v: %v", is, wrong, m.Key(site))
	}
}

func TestP21_3AtTheEnds(t *testing.T) {
	marks := []api.Mark{mark(0, 1, 1), mark(lastDev, lastInc, lastSeq)}
	kept := []api.Event{aPut(at(0, 1, 1), at(lastDev, lastInc, lastSeq))}
	dead := []api.Dot{at(lastDev, lastInc, 1), at(lastDev, lastInc, lastSeq)}
	m, k := mustLoad(t, marks, kept, dead), &told{marks: marks, kept: slices.Clone(kept), dead: slices.Clone(dead)}
	for _, d := range endDots() {
		if got := m.Forget(d); got != k.forget(d) {
			t.Errorf("Forget(%v): %v", d, got)
		}
		if got := m.Bare(d); got != k.bare(d) {
			t.Errorf("Bare(%v): %v", d, got)
		}
		if got := m.Clear(d); got != k.clear(d) {
			t.Errorf("Clear(%v): %v", d, got)
		}
	}
	hold(t, "at the ends", m, k)
	if len(k.dead) != 0 || len(k.kept[0].Over) != 0 {
		t.Errorf("nothing was done: %v", k)
	}
}

func TestP21_3DeadsAreInOrder(t *testing.T) {
	r := rand.New(rand.NewSource(24))
	var want []api.Dot
	for dev := range 11 {
		for inc := 1; inc < 11; inc++ {
			want = append(want, at(dev, inc, 1), at(dev, inc, 2), at(dev, inc, 10), at(dev, inc, lastSeq))
		}
	}
	for range 20 {
		l := slices.Clone(want)
		r.Shuffle(len(l), func(i, j int) { l[i], l[j] = l[j], l[i] })
		m := ormap.New()
		for i, d := range l {
			m.Apply(aRemove(at(20, 1, i+1), d))
		}
		if got := m.Deads(); !slices.Equal(got, want) {
			t.Fatalf("dead are %v", got)
		}
	}
}

func TestP21_4Load(t *testing.T) {
	marks := []api.Mark{mark(0, 1, 5), mark(1, 1, 3), mark(1, 2, lastSeq)}
	kept := []api.Event{
		putAt(at(0, 1, 2), site, 9),
		putAt(at(0, 1, 5), site, 3, at(0, 1, 2), at(0, 1, 4), at(9, 1, 1)),
		aRemove(at(1, 1, 3), at(8, 1, 1)),
		putAt(at(1, 2, lastSeq), aKey("other"), 1),
	}
	for _, dead := range [][]api.Dot{
		nil,
		{at(0, 1, 1)},
		{at(0, 1, 2)},
		{at(0, 1, 2), at(0, 1, 5), at(1, 1, 3), at(1, 2, lastSeq)},
		{at(0, 1, 1), at(0, 1, 9), at(7, 7, 7), at(lastDev, lastInc, lastSeq)},
	} {
		for from := range kept {
			for to := from; to <= len(kept); to++ {
				m := mustLoad(t, marks, kept[from:to], dead)
				k := &told{marks: slices.Clone(marks), kept: slices.Clone(kept[from:to]), dead: slices.Clone(dead)}
				hold(t, "what was loaded", m, k)
				// It goes on like any other one.
				for _, e := range []api.Event{aPut(at(1, 1, 4)), aPut(at(1, 1, 3)), aPut(at(0, 1, 1)), aPut(at(0, 1, 7)), aPut(at(7, 7, 1)), aRemove(at(0, 1, 6), at(1, 1, 4), at(1, 2, lastSeq))} {
					holdApply(t, m, k, e)
				}
			}
		}
	}
	hold(t, "nothing that was loaded", mustLoad(t, nil, nil, nil), tell())
	hold(t, "nothing that was loaded", mustLoad(t, []api.Mark{}, []api.Event{}, []api.Dot{}), tell())
}

// faults are the faults that a load may have, in the order of the promise, each as a change of what is loaded.
func faults() []struct {
	what string
	want api.Errno
	make func(l *[]api.Mark, kept *[]api.Event, dead *[]api.Dot)
} {
	type marks = []api.Mark
	type events = []api.Event
	type dots = []api.Dot
	longEvents, longDots := putsOf(by(3, 1), mostEvents+1), dotsOf(by(1, 1), mostDead)
	return []struct {
		what string
		want api.Errno
		make func(l *[]api.Mark, kept *[]api.Event, dead *[]api.Dot)
	}{
		{"too many marks", api.ErrLong, func(l *marks, _ *events, _ *dots) { *l = append(*l, make(marks, mostMarks)...) }},
		{"a mark that may not be", api.ErrRange, func(l *marks, _ *events, _ *dots) { *l = slices.Insert(*l, 0, mark(0, 0, 1)) }},
		{"marks out of order", api.ErrOrder, func(l *marks, _ *events, _ *dots) { *l = append(*l, mark(0, 1, 9)) }},
		{"too many events", api.ErrLong, func(_ *marks, kept *events, _ *dots) { *kept = append(*kept, longEvents...) }},
		{"too many dots", api.ErrLong, func(_ *marks, _ *events, dead *dots) { *dead = append(*dead, longDots...) }},
		{"a first event that may not be", api.ErrForm, func(_ *marks, kept *events, _ *dots) {
			*kept = slices.Insert(*kept, 0, but(aPut(at(3, 1, 1)), func(e *api.Event) { e.Kind = 3 }))
		}},
		{"events out of order", api.ErrOrder, func(_ *marks, kept *events, _ *dots) { *kept = slices.Insert(*kept, 1, aPut(at(3, 1, 1))) }},
		{"an event that the marks have not", api.ErrRange, func(_ *marks, kept *events, _ *dots) { *kept = append(*kept, aPut(at(40, 1, 1))) }},
		{"a dot that may not be", api.ErrRange, func(_ *marks, _ *events, dead *dots) { *dead = slices.Insert(*dead, 0, at(0, 1, 0)) }},
		{"dots out of order", api.ErrOrder, func(_ *marks, _ *events, dead *dots) { *dead = append(*dead, at(0, 1, 1)) }},
	}
}

// Of all faults in all combinations, the answer is the one that is named first.
func TestP21_4LoadWhichErrorIsFirst(t *testing.T) {
	all := faults()
	for set := range 1 << len(all) {
		l := []api.Mark{mark(3, 1, 1<<20)}
		kept := []api.Event{aPut(at(3, 1, 9))}
		dead := []api.Dot{at(3, 1, 8)}
		want := api.OK
		var what []string
		for i, f := range all {
			if set>>i&1 == 0 {
				continue
			}
			if want == api.OK {
				want = f.want
			}
			what = append(what, f.what)
			f.make(&l, &kept, &dead)
		}
		m, wrong := ormap.Load(l, kept, dead)
		if wrong != want || (m == nil) != (want != api.OK) {
			t.Fatalf("%s: %v, not %v", strings.Join(what, ", "), wrong, want)
		}
	}
}

// The errors of events come one event after the other, as those of dots do.
func TestP21_4LoadErrsAtTheFirstEvent(t *testing.T) {
	wrong := but(aPut(at(3, 1, 5)), func(e *api.Event) { e.Stamp.Dev = 0 })
	back, beyond, good := aPut(at(2, 1, 1)), aPut(at(3, 1, 21)), aPut(at(3, 1, 4))
	for _, c := range []struct {
		what string
		kept []api.Event
		want api.Errno
	}{
		{"all is right", []api.Event{good}, api.OK},
		{"beyond, then back", []api.Event{beyond, good}, api.ErrRange},
		{"beyond, then wrong", []api.Event{beyond, wrong}, api.ErrRange},
		{"back, then beyond", []api.Event{good, back, beyond}, api.ErrOrder},
		{"back, then wrong", []api.Event{good, back, wrong}, api.ErrOrder},
		{"wrong, then back", []api.Event{good, wrong, back}, api.ErrForm},
		{"twice", []api.Event{good, good}, api.ErrOrder},
		{"back, and beyond", []api.Event{good, aPut(at(1, 1, 1))}, api.ErrOrder},
		{"wrong, back and beyond", []api.Event{good, aRemove(at(1, 1, 1))}, api.ErrForm},
		{"beyond in a life", []api.Event{good, aPut(at(3, 2, 1))}, api.ErrRange},
		{"beyond at first", []api.Event{aPut(at(0, 1, 1)), good}, api.ErrRange},
		{"up to the mark", []api.Event{good, aPut(at(3, 1, 20))}, api.OK},
		{"a Put, and a Remove, of one dot", []api.Event{good, aRemove(good.Dot, at(1, 1, 1))}, api.ErrOrder},
		{"the zero event", []api.Event{{}}, api.ErrForm},
	} {
		m, wrong := ormap.Load([]api.Mark{mark(2, 1, 1), mark(3, 1, 20)}, c.kept, nil)
		if wrong != c.want || (m == nil) != (c.want != api.OK) {
			t.Errorf("%s: %v, not %v", c.what, wrong, c.want)
		}
	}
	for _, c := range []struct {
		what string
		dead []api.Dot
		want api.Errno
	}{
		{"back, then none", []api.Dot{at(1, 1, 2), at(1, 1, 1), {}}, api.ErrOrder},
		{"none, then back", []api.Dot{at(1, 1, 2), at(1, 0, 3), at(1, 1, 1)}, api.ErrRange},
		{"none, and back", []api.Dot{at(1, 1, 2), at(1, 1, 0)}, api.ErrRange},
		{"twice", []api.Dot{at(1, 1, 2), at(1, 1, 2)}, api.ErrOrder},
		{"lives back", []api.Dot{at(1, 2, 1), at(1, 1, 9)}, api.ErrOrder},
		{"devices back", []api.Dot{at(2, 1, 1), at(1, 9, 9)}, api.ErrOrder},
		{"none at first", []api.Dot{{}}, api.ErrRange},
		{"in order", []api.Dot{at(1, 1, 9), at(1, 2, 1), at(2, 1, 1)}, api.OK},
	} {
		m, wrong := ormap.Load(nil, nil, c.dead)
		if wrong != c.want || (m == nil) != (c.want != api.OK) {
			t.Errorf("%s: %v, not %v", c.what, wrong, c.want)
		}
	}
}

func TestP21_4LoadOfSpoiltEvents(t *testing.T) {
	marks := []api.Mark{mark(0, 1, 9), mark(1, 1, 9)}
	for i, spoil := range spoils() {
		for _, e := range []api.Event{aPut(at(0, 1, 3)), aRemove(at(1, 1, 2), at(0, 1, 2))} {
			if m, wrong := ormap.Load(marks, []api.Event{spoil(e)}, nil); m != nil || wrong != api.ErrForm {
				t.Errorf("spoilt in way %d: %v", i, wrong)
			}
		}
	}
}

func TestP21_4LoadOfEachDot(t *testing.T) {
	for _, d := range endDots() {
		want := api.ErrRange
		if dotMayBe(d) {
			want = api.OK
		}
		if m, wrong := ormap.Load(nil, nil, []api.Dot{d}); wrong != want || (m == nil) != (want != api.OK) || m.Dead(d) != (want == api.OK) {
			t.Errorf("%v dead: %v", d, wrong)
		}
		if m, wrong := ormap.Load([]api.Mark{api.Mark(d)}, nil, nil); wrong != want || (m == nil) != (want != api.OK) || m.Has(d) != (want == api.OK) {
			t.Errorf("%v marked: %v", d, wrong)
		}
		if want != api.OK {
			continue
		}
		if m, wrong := ormap.Load([]api.Mark{api.Mark(d)}, []api.Event{aPut(d)}, nil); wrong != api.OK || m.Len() != 1 {
			t.Errorf("%v kept: %v", d, wrong)
		}
		if d.Seq > 1 {
			if m, wrong := ormap.Load([]api.Mark{{A: d.A, Seq: d.Seq - 1}}, []api.Event{aPut(d)}, nil); wrong != api.ErrRange || m != nil {
				t.Errorf("%v kept beyond the mark: %v", d, wrong)
			}
		}
	}
}

func TestP21_4LoadOfAsManyAsMayBe(t *testing.T) {
	var marks []api.Mark
	for n := range mostMarks {
		marks = append(marks, mark(n/64, 1+n%64, 1))
	}
	m := mustLoad(t, marks, nil, nil)
	if !slices.Equal(m.Context(), marks) {
		t.Error("marks are lost")
	}
	if m, wrong := ormap.Load(append(slices.Clone(marks), mark(lastDev, lastInc, 1)), nil, nil); m != nil || wrong != api.ErrLong {
		t.Errorf("a mark too many: %v", wrong)
	}
	dead := dotsOf(by(1, 1), mostDead)
	m = mustLoad(t, nil, nil, dead)
	if !slices.Equal(m.Deads(), dead) || m.Len() != 0 {
		t.Error("dead dots are lost")
	}
	if m, wrong := ormap.Load(nil, nil, dotsOf(by(1, 1), mostDead+1)); m != nil || wrong != api.ErrLong {
		t.Errorf("a dot too many: %v", wrong)
	}
	kept := putsOf(by(1, 1), mostEvents)
	m = mustLoad(t, []api.Mark{mark(1, 1, mostEvents)}, kept, dead)
	if !alike(m.Events(), kept) || m.Room(1) || len(m.Alive()) != 0 || len(m.Winners()) != 0 {
		t.Error("events are lost")
	}
	if _, wrong := m.Apply(aPut(at(1, 1, mostEvents+1))); wrong != api.ErrFull {
		t.Errorf("a full map that was loaded: %v", wrong)
	}
	if m, wrong := ormap.Load([]api.Mark{mark(1, 1, lastSeq)}, putsOf(by(1, 1), mostEvents+1), nil); m != nil || wrong != api.ErrLong {
		t.Errorf("an event too many: %v", wrong)
	}
}

func TestP21_4LoadKeepsNothing(t *testing.T) {
	give := func() ([]api.Mark, []api.Event, []api.Dot) {
		m := must(t, someMap()...)
		return m.Context(), m.Events(), m.Deads()
	}
	marks, kept, dead := give()
	m := mustLoad(t, marks, kept, dead)
	wantMarks, wantKept, wantDead := give()
	if !slices.Equal(marks, wantMarks) || !alike(kept, wantKept) || !slices.Equal(dead, wantDead) {
		t.Fatal("what is handed in is changed")
	}
	for i := range marks {
		marks[i] = mark(60, 60, 60)
	}
	spoilEvents(kept)
	for i := range dead {
		dead[i] = at(60, 60, 60)
	}
	k := tell(someMap()...)
	hold(t, "behind changes of what was handed in", m, k)
	m.Apply(aRemove(at(0, 1, 3), at(0, 1, 2)))
	m.Bare(at(1, 1, 1))
	again, _ := ormap.Load(wantMarks, wantKept, wantDead)
	other := mustLoad(t, wantMarks, wantKept, wantDead)
	again.Bare(at(1, 1, 1))
	again.Apply(aRemove(at(0, 1, 3), at(0, 1, 2)))
	hold(t, "what was loaded beside", other, k)
	a, b, c := give()
	if !slices.Equal(a, wantMarks) || !alike(b, wantKept) || !slices.Equal(c, wantDead) {
		t.Error("what is handed in is changed by what is loaded")
	}
}

func TestP21_4LoadOfDrawnLists(t *testing.T) {
	r := rand.New(rand.NewSource(25))
	met := map[api.Errno]int{}
	for range 20000 {
		k := tell()
		for range r.Intn(8) {
			k.apply(drawnEvent(r, k))
		}
		l, kept, dead := k.marks, k.events(), k.deads()
		for range r.Intn(2) {
			switch r.Intn(9) {
			case 0:
				l = slices.Insert(slices.Clone(l), r.Intn(len(l)+1), api.Mark{A: pick(r, someActors()), Seq: r.Intn(9)})
			case 1:
				kept = slices.Insert(kept, r.Intn(len(kept)+1), drawnEvent(r, k))
			case 2:
				dead = slices.Insert(dead, r.Intn(len(dead)+1), api.Dot{A: pick(r, someActors()), Seq: r.Intn(9)})
			case 3:
				l = slices.DeleteFunc(slices.Clone(l), func(api.Mark) bool { return r.Intn(3) == 0 })
			case 4:
				kept = slices.DeleteFunc(kept, func(api.Event) bool { return r.Intn(3) == 0 })
			case 5:
				dead = slices.DeleteFunc(dead, func(api.Dot) bool { return r.Intn(3) == 0 })
			case 6:
				r.Shuffle(len(kept), func(i, j int) { kept[i], kept[j] = kept[j], kept[i] })
			case 7:
				r.Shuffle(len(dead), func(i, j int) { dead[i], dead[j] = dead[j], dead[i] })
			case 8:
				if len(kept) > 0 {
					i := r.Intn(len(kept))
					kept[i] = pick(r, spoils())(kept[i])
				}
			}
		}
		want, wanted := loaded(l, kept, dead)
		m, wrong := ormap.Load(l, kept, dead)
		met[wrong]++
		if wrong != wanted || (m == nil) != (want == nil) {
			t.Fatalf("Load(%v, %v, %v): %v, not %v", l, kept, dead, wrong, wanted)
		}
		if m != nil {
			hold(t, "what was loaded", m, want)
		}
	}
	for _, e := range []api.Errno{api.OK, api.ErrForm, api.ErrRange, api.ErrOrder} {
		if met[e] < 50 {
			t.Errorf("%v was met %d times", e, met[e])
		}
	}
}

// All that can be done to maps, drawn, held against the chapter's words told another way.
func TestP21_3DrawnSteps(t *testing.T) {
	r := rand.New(rand.NewSource(26))
	for round := range 300 {
		m, k := ormap.New(), tell()
		for range 60 {
			d := api.Dot{A: pick(r, someActors())}
			d.Seq = 1 + r.Intn(k.number(d.A)+2)
			var got, want any
			what := ""
			switch r.Intn(9) {
			case 0:
				what, got, want = "Forget", m.Forget(d), k.forget(d)
			case 1:
				what, got, want = "Bare", m.Bare(d), k.bare(d)
			case 2, 3:
				if l := k.deads(); len(l) > 0 && r.Intn(3) > 0 {
					d = pick(r, l)
				}
				what, got, want = "Clear", m.Clear(d), k.clear(d)
			case 4:
				if r.Intn(4) == 0 {
					m, k = m.Copy(), k.copied()
				}
			default:
				e := drawnEvent(r, k)
				is, wrong := m.Apply(e)
				isToo, wanted := k.apply(e)
				what, got, want = fmt.Sprint("Apply ", e), fmt.Sprint(is, wrong), fmt.Sprint(isToo, wanted)
			}
			if got != want {
				t.Fatalf("round %d: %s of %v: %v, not %v", round, what, d, got, want)
			}
			hold(t, what, m, k)
		}
	}
}

// each hands on each order of events in which each actor's are in its own.
func each(queues [][]api.Event, ahead []api.Event, with func(l []api.Event)) {
	last := true
	for i, q := range queues {
		if len(q) > 0 {
			last = false
			rest := slices.Clone(queues)
			rest[i] = q[1:]
			each(rest, append(slices.Clone(ahead), q[0]), with)
		}
	}
	if last {
		with(ahead)
	}
}

// holdAll holds a map that has come to have all of events against the words of the document: alive is a Put that nothing is over.
func holdAll(t *testing.T, m *ormap.Map, l []api.Event) {
	t.Helper()
	var over []api.Dot
	for _, e := range l {
		over = append(over, e.Over...)
	}
	slices.SortFunc(over, byDots)
	over = slices.Compact(over)
	var alive []api.Event
	for _, e := range sorted(l) {
		if e.Kind == 1 && !slices.Contains(over, e.Dot) {
			alive = append(alive, e)
		}
	}
	if !alike(m.Events(), sorted(l)) || !alike(m.Alive(), alive) || !slices.Equal(m.Deads(), over) || !slices.Equal(m.Context(), marksOf(l)) {
		t.Fatalf("of %v: alive are %v, not %v; dead are %v, not %v", l, m.Alive(), alive, m.Deads(), over)
	}
	if d := difference(m, &told{marks: marksOf(l), kept: l, dead: over}); d != "" {
		t.Fatalf("of %v: %s", l, d)
	}
}

// subsets are all lists that have of dots some.
func subsets(l ...api.Dot) [][]api.Dot {
	var all [][]api.Dot
	for set := range 1 << len(l) {
		var some []api.Dot
		for i, d := range l {
			if set>>i&1 == 1 {
				some = append(some, d)
			}
		}
		all = append(all, some)
	}
	return all
}

// Two events of each of two devices, over all that they can be over, in all orders.
func TestP21_5InWhateverOrder(t *testing.T) {
	a1, a2, b1, b2 := at(0, 1, 1), at(0, 1, 2), at(1, 1, 1), at(1, 1, 2)
	seconds := func(d api.Dot, others ...api.Dot) []api.Event {
		var l []api.Event
		for _, over := range subsets(others...) {
			l = append(l, putAt(d, site, 5, over...))
			if len(over) > 0 {
				l = append(l, aRemove(d, over...))
			}
		}
		return l
	}
	for _, overA := range subsets(b1, b2) {
		for _, overB := range subsets(a1, a2) {
			for _, secondA := range seconds(a2, a1, b1, b2) {
				for _, secondB := range seconds(b2, a1, a2, b1) {
					firstA, firstB := putAt(a1, site, 5, overA...), putAt(b1, site, 4, overB...)
					all := []api.Event{firstA, secondA, firstB, secondB}
					var first *ormap.Map
					each([][]api.Event{{firstA, secondA}, {firstB, secondB}}, nil, func(l []api.Event) {
						m := must(t, l...)
						if first == nil {
							first = m
							holdAll(t, m, all)
						}
						if !alike(m.Alive(), first.Alive()) || !alike(m.Events(), first.Events()) || !slices.Equal(m.Deads(), first.Deads()) || !alike(m.Winners(), first.Winners()) || !slices.Equal(m.Context(), first.Context()) {
							t.Fatalf("of %v: %v, not %v", l, m.Alive(), first.Alive())
						}
					})
				}
			}
		}
	}
}

// drawnHistory are events that can be applied, one after the other.
func drawnHistory(r *rand.Rand, n int) []api.Event {
	k := tell()
	var l []api.Event
	for len(l) < n {
		e := drawnEvent(r, k)
		if is, _ := k.apply(e); is {
			l = append(l, e)
		}
	}
	return l
}

func TestP21_5DrawnHistoriesInDrawnOrders(t *testing.T) {
	r := rand.New(rand.NewSource(27))
	for range 150 {
		l := drawnHistory(r, 1+r.Intn(40))
		for range 6 {
			holdAll(t, must(t, inDrawnOrder(r, l)...), l)
		}
	}
}

// In whatever order a list stands, what is no longer old ends up applied, if it is gone over often enough.
func TestP21_5OutOfOrderIsApplied(t *testing.T) {
	r := rand.New(rand.NewSource(28))
	for range 60 {
		l := drawnHistory(r, 25)
		any := slices.Clone(l)
		r.Shuffle(len(any), func(i, j int) { any[i], any[j] = any[j], any[i] })
		m := ormap.New()
		for range any {
			for _, e := range any {
				was := m.Has(e.Dot)
				is, wrong := m.Apply(e)
				if wrong != api.OK && wrong != api.ErrOrder || was && (is || wrong != api.OK) || is != (!was && m.Has(e.Dot)) {
					t.Fatalf("%v: %v, %v", e, is, wrong)
				}
			}
		}
		holdAll(t, m, l)
	}
}

func TestP21_6AppliedTwice(t *testing.T) {
	r := rand.New(rand.NewSource(29))
	for range 150 {
		l := drawnHistory(r, 1+r.Intn(30))
		m := ormap.New()
		for i, e := range l {
			if is, wrong := m.Apply(e); !is || wrong != api.OK {
				t.Fatalf("%v: %v, %v", e, is, wrong)
			}
			for range 3 {
				if is, wrong := m.Apply(l[r.Intn(i+1)]); is || wrong != api.OK {
					t.Fatalf("once more: %v, %v", is, wrong)
				}
			}
			if is, wrong := m.Apply(e); is || wrong != api.OK || m.Len() != i+1 {
				t.Fatalf("%v once more: %v, %v", e, is, wrong)
			}
		}
		holdAll(t, m, l)
	}
}

func TestP21_7LoadedAsItIs(t *testing.T) {
	r := rand.New(rand.NewSource(30))
	for range 200 {
		l := drawnHistory(r, r.Intn(40))
		m, k := must(t, l...), tell(l...)
		for range r.Intn(30) {
			d := api.Dot{A: pick(r, someActors())}
			d.Seq = 1 + r.Intn(k.number(d.A)+2)
			switch r.Intn(3) {
			case 0:
				m.Forget(d)
				k.forget(d)
			case 1:
				m.Bare(d)
				k.bare(d)
			case 2:
				m.Clear(d)
				k.clear(d)
			}
		}
		n := mustLoad(t, m.Context(), m.Events(), m.Deads())
		hold(t, "what was loaded", n, k)
		// Both go on alike.
		for range 15 {
			e := drawnEvent(r, k)
			is, wrong := m.Apply(e)
			if isToo, wrongToo := n.Apply(e); is != isToo || wrong != wrongToo {
				t.Fatalf("%v: %v, %v, not %v, %v", e, isToo, wrongToo, is, wrong)
			}
			k.apply(e)
		}
		hold(t, "what went on", m, k)
		hold(t, "what was loaded, and went on", n, k)
	}
	m, k := full(t)
	hold(t, "a full map that was loaded", mustLoad(t, m.Context(), m.Events(), m.Deads()), k)
	hold(t, "a new map that was loaded", mustLoad(t, ormap.New().Context(), ormap.New().Events(), ormap.New().Deads()), tell())
}

// What a map answers is the same each time, however often it is asked.
func TestP21_2AskedAgain(t *testing.T) {
	r := rand.New(rand.NewSource(31))
	l := drawnHistory(r, 60)
	m, k := must(t, l...), tell(l...)
	for range 50 {
		hold(t, "asked again", m, k)
	}
}
