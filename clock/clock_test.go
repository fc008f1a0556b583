package clock_test

import (
	"bytes"
	"encoding/binary"
	"fmt"
	"math"
	"math/rand"
	"slices"
	"testing"

	"biscotti/api"
	"biscotti/clock"
	"biscotti/pack"
)

// The greatest numbers of a stamp that may be, and how far ahead one may be, by the document's words.
const (
	lastWall  = 4398046511104
	lastCount = 65535
	lastDev   = 63
	mostAhead = 60000
)

// at is a stamp.
func at(wall, count, dev int) api.Stamp {
	return api.Stamp{Wall: wall, Count: count, Dev: dev}
}

// ends are the ends of what numbers may be, and of an int, with what lies on either side.
func ends() []int {
	l := []int{math.MinInt, math.MinInt + 1, math.MinInt32, -lastWall - 1, -lastWall, math.MaxInt32, math.MaxInt - 1, math.MaxInt}
	for _, near := range []int{0, lastDev, lastCount, mostAhead, lastWall, lastWall - mostAhead, 2 * lastWall} {
		for by := -2; by <= 2; by++ {
			l = append(l, near+by)
		}
	}
	slices.Sort(l)
	return slices.Compact(l)
}

// endStamps are stamps of all those numbers.
func endStamps() []api.Stamp {
	var l []api.Stamp
	for _, wall := range ends() {
		for _, count := range ends() {
			for _, dev := range ends() {
				l = append(l, at(wall, count, dev))
			}
		}
	}
	return l
}

// someStamps are stamps that may be, at the ends of their numbers and at those where their short bytes become more.
func someStamps() []api.Stamp {
	var l []api.Stamp
	for _, wall := range []int{0, 1, 127, 128, 16383, 16384, 1<<28 - 1, 1 << 28, math.MaxInt32, math.MaxUint32 + 1, lastWall - 1, lastWall} {
		for _, count := range []int{0, 1, 2, 127, 128, 16383, 16384, lastCount - 1, lastCount} {
			for _, dev := range []int{0, 1, 31, 62, lastDev} {
				l = append(l, at(wall, count, dev))
			}
		}
	}
	return l
}

// within tells whether n is one of the numbers from one to another one.
func within(n, from, to int) bool {
	return min(max(n, from), to) == n
}

// mayBe tells by the chapter's words whether a stamp may be.
func mayBe(s api.Stamp) bool {
	return within(s.Wall, 0, lastWall) && within(s.Count, 0, lastCount) && within(s.Dev, 0, lastDev)
}

// digits is n as a text that is less than another number's just where n is.
func digits(n int) string {
	return fmt.Sprintf("%016x", uint64(n)+1<<63)
}

// rank is by the chapter's words a text that is less than another stamp's just where the stamp is ahead.
func rank(s api.Stamp) string {
	return digits(s.Wall) + digits(s.Count) + digits(s.Dev)
}

// told is what a clock is by the chapter's words, told another way: its last Wall and Count are the high and the low digits of one number.
type told struct{ dev, time, beat int }

// beats is how many beats a millisecond has.
const beats = 65536

// beat is the number of a stamp's Wall and Count.
func beat(s api.Stamp) int {
	return s.Wall*beats + s.Count
}

// stamp is of such a number.
func (k told) stamp(beat int) api.Stamp {
	return at(beat/beats, beat%beats, k.dev)
}

// last and peek are by the chapter's words what Last and Peek answer, tick, next, restore and hear what those calls do, and answer.
func (k told) last() api.Stamp {
	return k.stamp(k.beat)
}

func (k told) peek() (api.Stamp, api.Errno) {
	next := max(k.time*beats, k.beat+1)
	// With no beat left, the number would go on to the next millisecond, which is not there yet.
	if next%beats == 0 && next/beats != k.time {
		return api.Stamp{}, api.ErrClock
	}
	return k.stamp(next), api.OK
}

func (k *told) tick(ms int) api.Errno {
	if !within(ms, 0, lastWall) || !within(k.time+ms, 0, lastWall) {
		return api.ErrRange
	}
	k.time += ms
	return api.OK
}

func (k *told) next() (api.Stamp, api.Errno) {
	s, e := k.peek()
	if e == api.OK {
		k.beat = beat(s)
	}
	return s, e
}

func (k *told) restore(s api.Stamp) api.Errno {
	if !mayBe(s) {
		return api.ErrRange
	}
	k.beat = max(k.beat, beat(s))
	return api.OK
}

func (k *told) hear(s api.Stamp) api.Errno {
	if mayBe(s) && s.Wall > k.time+mostAhead {
		return api.ErrDrift
	}
	return k.restore(s)
}

// hold holds a clock against what is told of it; what only asks is asked twice, for it is to change nothing.
func (k told) hold(t *testing.T, what string, c *clock.Clock) {
	t.Helper()
	for range 2 {
		if n := c.Wall(); n != k.time {
			t.Errorf("%s: Wall %d, not %d", what, n, k.time)
		}
		if s := c.Last(); s != k.last() {
			t.Errorf("%s: Last %v, not %v", what, s, k.last())
		}
		want, wrong := k.peek()
		if s, e := c.Peek(); s != want || e != wrong {
			t.Errorf("%s: Peek %v, %v, not %v, %v", what, s, e, want, wrong)
		}
	}
}

// holdErrno holds an error against what is wanted.
func holdErrno(t *testing.T, what string, e, want api.Errno) {
	t.Helper()
	if e != want {
		t.Errorf("%s: %v, not %v", what, e, want)
	}
}

// begun answers a new clock of a device.
func begun(t *testing.T, dev int) *clock.Clock {
	t.Helper()
	c, e := clock.New(dev)
	if c == nil || e != api.OK {
		t.Fatalf("New(%d): %v, %v", dev, c, e)
	}
	return c
}

// stood answers a clock whose wall's time is time, and which restored a stamp, with what is told of it.
func stood(t *testing.T, time int, s api.Stamp) (*clock.Clock, *told) {
	t.Helper()
	c, k := begun(t, 7), &told{dev: 7}
	what := fmt.Sprintf("a clock at %d that restored %v", time, s)
	holdErrno(t, what, c.Tick(time), k.tick(time))
	holdErrno(t, what, c.Restore(s), k.restore(s))
	if k.time != time || k.beat != beat(s) {
		t.Fatalf("%s may not be", what)
	}
	k.hold(t, what, c)
	return c, k
}

// times and pasts are wall's times, and stamps, of which stood makes clocks.
func times() []int {
	return []int{0, 1, 5, mostAhead, lastWall - mostAhead - 1, lastWall - mostAhead, lastWall - 1, lastWall}
}

func pasts() []api.Stamp {
	return []api.Stamp{at(0, 0, 0), at(0, lastCount, 0), at(4, 0, 0), at(5, 9, 0), at(5, lastCount, 0), at(6, 1, 0), at(lastWall, 0, 0), at(lastWall, lastCount, 0)}
}

// packed is by the words of this chapter, and of layer 5, what a stamp is packed as.
func packed(l ...int) []byte {
	var b []byte
	for _, n := range l {
		b = binary.AppendUvarint(b, uint64(n))
	}
	return b
}

// holdGet reads a stamp of bytes, and holds what is answered, and how the reader stands then, against what is wanted.
func holdGet(t *testing.T, what string, r *pack.Reader, want api.Stamp, left int, e api.Errno) {
	t.Helper()
	if s := clock.Get(r); s != want || r.Err() != e || r.Left() != left {
		t.Errorf("%s: %v, %v, %d left, not %v, %v, %d left", what, s, r.Err(), r.Left(), want, e, left)
	}
}

// holdFails holds that of these bytes no stamp is got, and that the error stays.
func holdFails(t *testing.T, b []byte, left int, e api.Errno) {
	t.Helper()
	r := pack.Read(b)
	what := fmt.Sprintf("Get of %x", b)
	holdGet(t, what, r, api.Stamp{}, left, e)
	// What is read stays where it was.
	holdGet(t, what+" again", r, api.Stamp{}, left, e)
	if n := r.Num(math.MaxUint64); n != 0 || r.End() != e || r.Left() != left {
		t.Errorf("%s: behind it %d, %v, %d left", what, n, r.End(), r.Left())
	}
}

// pick draws one of the list.
func pick[T any](r *rand.Rand, l []T) T {
	return l[r.Intn(len(l))]
}

// mixed draws a stamp of all that may be, small and great.
func mixed(r *rand.Rand) api.Stamp {
	return at(r.Intn(lastWall+1)>>r.Intn(43), r.Intn(lastCount+1)>>r.Intn(17), r.Intn(lastDev+1))
}

func TestP19_1New(t *testing.T) {
	for _, dev := range ends() {
		c, e := clock.New(dev)
		if !within(dev, 0, lastDev) {
			if c != nil || e != api.ErrRange {
				t.Errorf("New(%d): %v, %v", dev, c, e)
			}
			continue
		}
		holdErrno(t, fmt.Sprintf("New(%d)", dev), e, api.OK)
		told{dev: dev}.hold(t, fmt.Sprintf("New(%d)", dev), c)
	}
	for dev := range lastDev + 1 {
		if s := begun(t, dev).Last(); s != at(0, 0, dev) {
			t.Errorf("New(%d): last %v", dev, s)
		}
	}
}

func TestP19_1NewIsOfItsOwn(t *testing.T) {
	a, b := begun(t, 3), begun(t, 3)
	holdErrno(t, "Tick", a.Tick(9), api.OK)
	if _, e := a.Next(); e != api.OK {
		t.Error(e)
	}
	told{dev: 3}.hold(t, "the other clock of the device", b)
	told{dev: 3, time: 9, beat: 9 * beats}.hold(t, "the clock", a)
	told{dev: 3}.hold(t, "a later one", begun(t, 3))
}

func TestP19_1Tick(t *testing.T) {
	for _, c := range []struct {
		time, ms, then int
		e              api.Errno
	}{
		{0, 0, 0, api.OK},
		{0, 5, 5, api.OK},
		{5, 0, 5, api.OK},
		{5, 1, 6, api.OK},
		{5, -1, 5, api.ErrRange},
		{5, -5, 5, api.ErrRange},
		{0, 4398046511104, 4398046511104, api.OK},
		{0, 4398046511105, 0, api.ErrRange},
		{1, 4398046511103, 4398046511104, api.OK},
		{1, 4398046511104, 1, api.ErrRange},
		{4398046511104, 0, 4398046511104, api.OK},
		{4398046511104, 1, 4398046511104, api.ErrRange},
		{4398046511104, -1, 4398046511104, api.ErrRange},
		{4398046511104, math.MaxInt, 4398046511104, api.ErrRange},
		{4398046511104, math.MinInt, 4398046511104, api.ErrRange},
		{5, math.MaxInt, 5, api.ErrRange},
		{5, math.MinInt, 5, api.ErrRange},
	} {
		k, _ := stood(t, c.time, at(0, 0, 0))
		if e := k.Tick(c.ms); e != c.e || k.Wall() != c.then {
			t.Errorf("Tick(%d) at %d: %v, %d, not %v, %d", c.ms, c.time, e, k.Wall(), c.e, c.then)
		}
	}
}

func TestP19_1TickOfAllEnds(t *testing.T) {
	for _, time := range times() {
		for _, past := range pasts() {
			for _, ms := range ends() {
				c, k := stood(t, time, past)
				what := fmt.Sprintf("Tick(%d) at %d behind %v", ms, time, past)
				holdErrno(t, what, c.Tick(ms), k.tick(ms))
				k.hold(t, what, c)
			}
		}
	}
}

func TestP19_1TickLeavesTheLastStamp(t *testing.T) {
	c := begun(t, 4)
	for range 3 {
		holdErrno(t, "Tick", c.Tick(10), api.OK)
	}
	if s := c.Last(); s != at(0, 0, 4) || c.Wall() != 30 {
		t.Errorf("last %v at %d", s, c.Wall())
	}
}

func TestP19_1NextAndPeek(t *testing.T) {
	for _, c := range []struct {
		time int
		past api.Stamp
		want api.Stamp
		e    api.Errno
	}{
		{0, at(0, 0, 0), at(0, 1, 7), api.OK},
		{1, at(0, 0, 0), at(1, 0, 7), api.OK},
		{5, at(4, 9, 0), at(5, 0, 7), api.OK},
		{5, at(5, 0, 0), at(5, 1, 7), api.OK},
		{5, at(5, 9, 63), at(5, 10, 7), api.OK},
		{5, at(6, 0, 0), at(6, 1, 7), api.OK},
		{5, at(4, 65535, 0), at(5, 0, 7), api.OK},
		{5, at(5, 65534, 0), at(5, 65535, 7), api.OK},
		{5, at(5, 65535, 0), api.Stamp{}, api.ErrClock},
		{5, at(6, 65535, 0), api.Stamp{}, api.ErrClock},
		{0, at(0, 65535, 0), api.Stamp{}, api.ErrClock},
		{0, at(4398046511104, 65534, 0), at(4398046511104, 65535, 7), api.OK},
		{0, at(4398046511104, 65535, 0), api.Stamp{}, api.ErrClock},
		{4398046511104, at(4398046511104, 65535, 0), api.Stamp{}, api.ErrClock},
		{4398046511104, at(4398046511103, 65535, 0), at(4398046511104, 0, 7), api.OK},
	} {
		k, _ := stood(t, c.time, c.past)
		last := k.Last()
		what := fmt.Sprintf("a clock at %d behind %v", c.time, c.past)
		if s, e := k.Peek(); s != c.want || e != c.e || k.Last() != last {
			t.Errorf("%s: Peek %v, %v, last %v", what, s, e, k.Last())
		}
		if s, e := k.Next(); s != c.want || e != c.e {
			t.Errorf("%s: Next %v, %v", what, s, e)
		}
		if c.e == api.OK {
			last = c.want
		}
		if k.Last() != last || k.Wall() != c.time {
			t.Errorf("%s: behind Next last %v at %d", what, k.Last(), k.Wall())
		}
	}
}

func TestP19_1NextOfAllPasts(t *testing.T) {
	for _, time := range times() {
		for _, past := range pasts() {
			c, k := stood(t, time, past)
			for n := range 3 {
				what := fmt.Sprintf("Next %d at %d behind %v", n, time, past)
				want, wrong := k.next()
				if s, e := c.Next(); s != want || e != wrong {
					t.Errorf("%s: %v, %v, not %v, %v", what, s, e, want, wrong)
				}
				k.hold(t, what, c)
			}
		}
	}
}

func TestP19_1Example(t *testing.T) {
	c := begun(t, 0)
	holdErrno(t, "Tick", c.Tick(5), api.OK)
	for count := range 2 {
		if s, e := c.Next(); s != at(5, count, 0) || e != api.OK {
			t.Errorf("Next: %v, %v", s, e)
		}
	}
}

func TestP19_1NextTillThereAreNone(t *testing.T) {
	c := begun(t, 63)
	holdErrno(t, "Tick", c.Tick(5), api.OK)
	for count := range lastCount + 1 {
		if s, e := c.Next(); s != at(5, count, 63) || e != api.OK {
			t.Fatalf("Next: %v, %v, not count %d", s, e, count)
		}
	}
	for range 3 {
		if s, e := c.Next(); s != (api.Stamp{}) || e != api.ErrClock {
			t.Errorf("Next: %v, %v", s, e)
		}
		told{63, 5, 5*beats + lastCount}.hold(t, "a clock without a stamp left", c)
	}
	holdErrno(t, "Tick", c.Tick(0), api.OK)
	told{63, 5, 5*beats + lastCount}.hold(t, "a clock that did not go on", c)
	// The wall's time makes it go on.
	holdErrno(t, "Tick", c.Tick(1), api.OK)
	if s, e := c.Next(); s != at(6, 0, 63) || e != api.OK {
		t.Errorf("Next: %v, %v", s, e)
	}
}

func TestP19_2Hear(t *testing.T) {
	for _, c := range []struct {
		time    int
		past, s api.Stamp
		e       api.Errno
		then    api.Stamp
	}{
		{10, at(0, 0, 0), at(12, 7, 5), api.OK, at(12, 7, 7)},
		{10, at(12, 7, 0), at(12, 7, 5), api.OK, at(12, 7, 7)},
		{10, at(12, 7, 0), at(12, 8, 5), api.OK, at(12, 8, 7)},
		{10, at(12, 7, 0), at(12, 6, 63), api.OK, at(12, 7, 7)},
		{10, at(12, 7, 0), at(13, 2, 5), api.OK, at(13, 2, 7)},
		{10, at(12, 7, 0), at(11, 9, 5), api.OK, at(12, 7, 7)},
		{10, at(12, 7, 0), at(0, 0, 0), api.OK, at(12, 7, 7)},
		{10, at(0, 0, 0), at(10, 0, 0), api.OK, at(10, 0, 7)},
		{10, at(0, 0, 0), at(0, 65535, 0), api.OK, at(0, 65535, 7)},
		{10, at(0, 0, 0), at(60010, 3, 0), api.OK, at(60010, 3, 7)},
		{10, at(0, 0, 0), at(60011, 3, 0), api.ErrDrift, at(0, 0, 7)},
		{0, at(0, 0, 0), at(60000, 0, 0), api.OK, at(60000, 0, 7)},
		{0, at(0, 0, 0), at(60001, 0, 0), api.ErrDrift, at(0, 0, 7)},
		{0, at(0, 0, 0), at(4398046511104, 0, 0), api.ErrDrift, at(0, 0, 7)},
		{4398046451104, at(0, 0, 0), at(4398046511104, 0, 0), api.OK, at(4398046511104, 0, 7)},
		{4398046451103, at(0, 0, 0), at(4398046511104, 0, 0), api.ErrDrift, at(0, 0, 7)},
		// It is the wall's time that is asked, not the last stamp, be it heard or restored.
		{10, at(60010, 3, 0), at(60011, 0, 0), api.ErrDrift, at(60010, 3, 7)},
		{10, at(90000, 3, 0), at(90000, 2, 0), api.ErrDrift, at(90000, 3, 7)},
		{10, at(90000, 3, 0), at(90001, 2, 0), api.ErrDrift, at(90000, 3, 7)},
		{10, at(90000, 3, 0), at(60010, 9, 0), api.OK, at(90000, 3, 7)},
		// A stamp that may not be is told ahead of one too far ahead.
		{10, at(0, 0, 0), at(-1, 0, 0), api.ErrRange, at(0, 0, 7)},
		{10, at(0, 0, 0), at(11, -1, 0), api.ErrRange, at(0, 0, 7)},
		{10, at(0, 0, 0), at(11, 65536, 0), api.ErrRange, at(0, 0, 7)},
		{10, at(0, 0, 0), at(11, 0, -1), api.ErrRange, at(0, 0, 7)},
		{10, at(0, 0, 0), at(11, 0, 64), api.ErrRange, at(0, 0, 7)},
		{10, at(0, 0, 0), at(60011, -1, 0), api.ErrRange, at(0, 0, 7)},
		{10, at(0, 0, 0), at(60011, 65536, 0), api.ErrRange, at(0, 0, 7)},
		{10, at(0, 0, 0), at(60011, 0, -1), api.ErrRange, at(0, 0, 7)},
		{10, at(0, 0, 0), at(60011, 0, 64), api.ErrRange, at(0, 0, 7)},
		{10, at(0, 0, 0), at(4398046511105, 0, 0), api.ErrRange, at(0, 0, 7)},
		{4398046511104, at(0, 0, 0), at(4398046511105, 0, 0), api.ErrRange, at(0, 0, 7)},
		{10, at(0, 0, 0), at(math.MaxInt, 0, 0), api.ErrRange, at(0, 0, 7)},
		{10, at(0, 0, 0), at(math.MinInt, 0, 0), api.ErrRange, at(0, 0, 7)},
	} {
		k, _ := stood(t, c.time, c.past)
		if e := k.Hear(c.s); e != c.e || k.Last() != c.then || k.Wall() != c.time {
			t.Errorf("Hear(%v) at %d behind %v: %v, last %v, wall %d", c.s, c.time, c.past, e, k.Last(), k.Wall())
		}
	}
}

func TestP19_2Restore(t *testing.T) {
	for _, c := range []struct {
		past, s api.Stamp
		e       api.Errno
		then    api.Stamp
	}{
		{at(0, 0, 0), at(0, 0, 9), api.OK, at(0, 0, 7)},
		{at(12, 7, 0), at(12, 8, 0), api.OK, at(12, 8, 7)},
		{at(12, 7, 0), at(12, 7, 63), api.OK, at(12, 7, 7)},
		{at(12, 7, 0), at(12, 6, 63), api.OK, at(12, 7, 7)},
		{at(12, 7, 0), at(13, 2, 5), api.OK, at(13, 2, 7)},
		{at(12, 7, 0), at(11, 9, 5), api.OK, at(12, 7, 7)},
		{at(12, 7, 0), at(60010, 1, 5), api.OK, at(60010, 1, 7)},
		{at(12, 7, 0), at(60011, 1, 5), api.OK, at(60011, 1, 7)},
		{at(12, 7, 0), at(4398046511104, 65535, 63), api.OK, at(4398046511104, 65535, 7)},
		{at(12, 7, 0), at(4398046511105, 0, 0), api.ErrRange, at(12, 7, 7)},
		{at(12, 7, 0), at(-1, 9, 0), api.ErrRange, at(12, 7, 7)},
		{at(12, 7, 0), at(13, -1, 0), api.ErrRange, at(12, 7, 7)},
		{at(12, 7, 0), at(13, 65536, 0), api.ErrRange, at(12, 7, 7)},
		{at(12, 7, 0), at(13, 0, -1), api.ErrRange, at(12, 7, 7)},
		{at(12, 7, 0), at(13, 0, 64), api.ErrRange, at(12, 7, 7)},
	} {
		k, _ := stood(t, 10, c.past)
		if e := k.Restore(c.s); e != c.e || k.Last() != c.then || k.Wall() != 10 {
			t.Errorf("Restore(%v) behind %v: %v, last %v, wall %d", c.s, c.past, e, k.Last(), k.Wall())
		}
	}
}

func TestP19_2HearAndRestoreOfAllEnds(t *testing.T) {
	for _, time := range []int{0, 2, lastWall - mostAhead - 1, lastWall} {
		for _, past := range []api.Stamp{at(0, 0, 0), at(2, 3, 0), at(lastWall, lastCount, 0)} {
			c, k := stood(t, time, past)
			for _, s := range endStamps() {
				// Copies are asked, so that each stamp meets the clock as it stood.
				hears, kHears := *c, *k
				e, want := hears.Hear(s), kHears.hear(s)
				if e != want || hears.Last() != kHears.last() || hears.Wall() != time {
					t.Errorf("Hear(%v) at %d behind %v: %v, last %v", s, time, past, e, hears.Last())
				}
				restores, kRestores := *c, *k
				e, want = restores.Restore(s), kRestores.restore(s)
				if e != want || restores.Last() != kRestores.last() || restores.Wall() != time {
					t.Errorf("Restore(%v) at %d behind %v: %v, last %v", s, time, past, e, restores.Last())
				}
			}
		}
	}
}

func TestP19_2HearOneAfterTheOther(t *testing.T) {
	c, k := begun(t, 7), &told{dev: 7}
	for _, s := range []api.Stamp{at(3, 3, 0), at(3, 2, 1), at(2, 9, 2), at(3, 4, 7), at(4, 0, 3), at(4, 0, 9), at(60001, 0, 0), at(60000, 5, 0), at(60000, 4, 0)} {
		what := fmt.Sprintf("Hear(%v)", s)
		holdErrno(t, what, c.Hear(s), k.hear(s))
		k.hold(t, what, c)
	}
	if s := c.Last(); s != at(60000, 5, 7) {
		t.Errorf("last %v", s)
	}
}

func TestP19_2Nil(t *testing.T) {
	var c *clock.Clock
	for _, n := range ends() {
		holdErrno(t, "Tick of nil", c.Tick(n), api.ErrNil)
	}
	for _, s := range []api.Stamp{{}, at(1, 2, 3), at(lastWall, 0, 0), at(-1, 0, 0), at(0, 0, 64)} {
		holdErrno(t, "Hear of nil", c.Hear(s), api.ErrNil)
		holdErrno(t, "Restore of nil", c.Restore(s), api.ErrNil)
	}
	if s, e := c.Next(); s != (api.Stamp{}) || e != api.ErrNil {
		t.Errorf("Next of nil: %v, %v", s, e)
	}
	if s, e := c.Peek(); s != (api.Stamp{}) || e != api.ErrNil {
		t.Errorf("Peek of nil: %v, %v", s, e)
	}
	if c.Wall() != 0 || c.Last() != (api.Stamp{}) {
		t.Errorf("of nil: %d, %v", c.Wall(), c.Last())
	}
}

func TestP19_1ZeroClock(t *testing.T) {
	// One that New did not make is device 0's, at 0.
	c, k := &clock.Clock{}, &told{}
	k.hold(t, "the zero clock", c)
	holdErrno(t, "Tick", c.Tick(3), k.tick(3))
	holdErrno(t, "Hear", c.Hear(at(9, 9, 9)), k.hear(at(9, 9, 9)))
	k.hold(t, "a zero clock that went on", c)
}

func TestP19_3Right(t *testing.T) {
	for _, c := range []struct {
		s     api.Stamp
		right bool
	}{
		{at(0, 0, 0), true},
		{at(12, 7, 5), true},
		{at(4398046511104, 65535, 63), true},
		{at(4398046511104, 0, 0), true},
		{at(0, 65535, 0), true},
		{at(0, 0, 63), true},
		{at(4398046511105, 0, 0), false},
		{at(0, 65536, 0), false},
		{at(0, 0, 64), false},
		{at(-1, 0, 0), false},
		{at(0, -1, 0), false},
		{at(0, 0, -1), false},
		{at(math.MaxInt, math.MaxInt, math.MaxInt), false},
		{at(math.MinInt, math.MinInt, math.MinInt), false},
	} {
		if is := clock.Right(c.s); is != c.right {
			t.Errorf("Right(%v): %v", c.s, is)
		}
	}
	for _, s := range endStamps() {
		if is := clock.Right(s); is != mayBe(s) {
			t.Errorf("Right(%v): %v", s, is)
		}
	}
}

func TestP19_3Less(t *testing.T) {
	rising := []api.Stamp{
		at(math.MinInt, math.MaxInt, math.MaxInt), at(-1, 0, 0), at(0, math.MinInt, 5), at(0, 0, -1), at(0, 0, 0), at(0, 0, 1),
		at(0, 0, 63), at(0, 1, 0), at(0, 1, 63), at(0, 65535, 63), at(1, 0, 0), at(1, 0, 9), at(1, 2, 0), at(4398046511104, 0, 0),
		at(4398046511104, 65535, 63), at(math.MaxInt, math.MinInt, math.MinInt), at(math.MaxInt, math.MaxInt, math.MinInt), at(math.MaxInt, math.MaxInt, math.MaxInt),
	}
	for i, a := range rising {
		for k, b := range rising {
			if is := clock.Less(a, b); is != (i < k) {
				t.Errorf("Less(%v, %v): %v", a, b, is)
			}
		}
	}
}

func TestP19_3LessOfAllEnds(t *testing.T) {
	r := rand.New(rand.NewSource(193))
	all := endStamps()
	for range 100000 {
		a, b := pick(r, all), pick(r, all)
		// Alike in what is asked first, they differ in what is asked then.
		switch r.Intn(4) {
		case 0:
			b.Wall = a.Wall
		case 1:
			b.Wall, b.Count = a.Wall, a.Count
		case 2:
			b = a
		}
		if is := clock.Less(a, b); is != (rank(a) < rank(b)) {
			t.Errorf("Less(%v, %v): %v", a, b, is)
		}
	}
}

func TestP19_3Put(t *testing.T) {
	for _, s := range append(someStamps(), endStamps()...) {
		w := &pack.Writer{}
		w.Num(300)
		clock.Put(w, s)
		w.Num(9)
		want := packed(300, 9)
		if mayBe(s) {
			want = packed(300, s.Wall, s.Count, s.Dev, 9)
		}
		if b := w.Bytes(); !bytes.Equal(b, want) {
			t.Errorf("Put of %v: %x, not %x", s, b, want)
		}
	}
}

func TestP19_3PutAsBytes(t *testing.T) {
	for _, c := range []struct {
		s    api.Stamp
		want []byte
	}{
		{at(0, 0, 0), []byte{0, 0, 0}},
		{at(12, 7, 5), []byte{12, 7, 5}},
		{at(300, 128, 63), []byte{0xac, 2, 0x80, 1, 63}},
		{at(4398046511104, 65535, 63), []byte{0x80, 0x80, 0x80, 0x80, 0x80, 0x80, 1, 0xff, 0xff, 3, 63}},
		{at(12, 7, 64), nil},
		{at(12, 65536, 5), nil},
		{at(4398046511105, 7, 5), nil},
	} {
		w := &pack.Writer{}
		clock.Put(w, c.s)
		if b := w.Bytes(); !bytes.Equal(b, c.want) {
			t.Errorf("Put of %v: %x, not %x", c.s, b, c.want)
		}
	}
	// A nil writer takes nothing, and nothing comes of it.
	clock.Put(nil, at(1, 2, 3))
}

func TestP19_3Get(t *testing.T) {
	for _, s := range someStamps() {
		b := packed(s.Wall, s.Count, s.Dev)
		r := pack.Read(append(slices.Clone(b), packed(300)...))
		holdGet(t, fmt.Sprintf("Get of %v", s), r, s, 2, api.OK)
		if n := r.Num(300); n != 300 || r.End() != api.OK {
			t.Errorf("Get of %v: behind it %d, %v", s, n, r.End())
		}
		for cut := range b {
			// What is left is what is behind the last number that was whole.
			left := cut
			for _, n := range []int{s.Wall, s.Count, s.Dev} {
				if size := len(packed(n)); size <= left {
					left -= size
				} else {
					break
				}
			}
			holdFails(t, b[:cut:cut], left, api.ErrShort)
		}
	}
}

func TestP19_3GetOfWrongBytes(t *testing.T) {
	for _, c := range []struct {
		b    []byte
		left int
		e    api.Errno
	}{
		{packed(lastWall+1, 7, 5), 9, api.ErrLong},
		{packed(12, lastCount+1, 5), 4, api.ErrLong},
		{packed(12, 7, lastDev+1), 1, api.ErrLong},
		{packed(math.MaxInt, 7, 5), 11, api.ErrLong},
		// The first error is the one.
		{packed(lastWall+1, lastCount+1, lastDev+1), 11, api.ErrLong},
		{[]byte{0x80, 0, 7, 5}, 4, api.ErrForm},
		{[]byte{12, 0x80, 0, 5}, 3, api.ErrForm},
		{[]byte{12, 7, 0x80, 0}, 2, api.ErrForm},
		{append(packed(12, lastCount+1), 0x80, 0), 5, api.ErrLong},
		{[]byte{12, 0x80}, 1, api.ErrShort},
		{nil, 0, api.ErrShort},
	} {
		holdFails(t, c.b, c.left, c.e)
	}
}

func TestP19_3GetOfAReaderThatErred(t *testing.T) {
	r := pack.Read(packed(12, 7, 5))
	r.Fail(api.ErrPeer)
	holdGet(t, "Get of a reader that erred", r, api.Stamp{}, 3, api.ErrPeer)
	holdGet(t, "Get of nil", nil, api.Stamp{}, 0, api.ErrNil)
	holdGet(t, "Get of a zero reader", &pack.Reader{}, api.Stamp{}, 0, api.ErrShort)
}

func TestP19_3GetOfDrawnBytes(t *testing.T) {
	r := rand.New(rand.NewSource(1933))
	for range 20000 {
		s := mixed(r)
		w := &pack.Writer{}
		clock.Put(w, s)
		holdGet(t, fmt.Sprintf("Get of what Put packed of %v", s), pack.Read(w.Bytes()), s, 0, api.OK)
		b := w.Bytes()
		b[r.Intn(len(b))] ^= byte(1 << r.Intn(8))
		d := pack.Read(b)
		got := clock.Get(d)
		if !mayBe(got) || d.Err() != api.OK && got != (api.Stamp{}) {
			t.Errorf("Get of %x: %v, %v", b, got, d.Err())
		}
		if again := packed(got.Wall, got.Count, got.Dev); d.Err() == api.OK && !bytes.HasPrefix(b, again) {
			t.Errorf("Get of %x: %v", b, got)
		}
	}
}

// history is a clock that goes on by drawn calls, what is told of it, and the greatest stamp that it answered or took in so far.
type history struct {
	c        *clock.Clock
	k        *told
	greatest api.Stamp
	restored bool
}

// near draws a stamp near the clock's times, so that many are as far ahead as may be, or just too far, and some may not be.
func (h *history) near(r *rand.Rand) api.Stamp {
	wall := pick(r, []int{h.k.time, h.k.time + mostAhead, h.k.last().Wall, h.k.last().Wall}) + r.Intn(5) - 2
	count := pick(r, []int{0, 1, h.k.last().Count - 1, h.k.last().Count, h.k.last().Count + 1, lastCount - 1, lastCount, r.Intn(lastCount + 2)})
	return at(wall, count, pick(r, []int{0, h.k.dev, lastDev, r.Intn(66) - 1}))
}

// took notes a stamp that was answered or taken in.
func (h *history) took(s api.Stamp) {
	if rank(h.greatest) < rank(s) {
		h.greatest = s
	}
}

// step makes a drawn call, and holds what is answered against what is told.
func (h *history) step(t *testing.T, r *rand.Rand) {
	t.Helper()
	switch n := r.Intn(20); {
	case n < 6:
		ms := pick(r, []int{-1, 0, 0, 1, 1, 2, 3, r.Intn(100), mostAhead, lastWall, lastWall - h.k.time, lastWall - h.k.time + 1, math.MaxInt})
		if h.k.time < lastWall/2 && ms == lastWall-h.k.time && r.Intn(20) > 0 {
			ms = 1
		}
		holdErrno(t, fmt.Sprintf("Tick(%d)", ms), h.c.Tick(ms), h.k.tick(ms))
	case n < 12:
		want, wrong := h.k.next()
		s, e := h.c.Next()
		if s != want || e != wrong {
			t.Errorf("Next: %v, %v, not %v, %v", s, e, want, wrong)
		}
		if e == api.OK && (rank(s) <= rank(h.greatest) || s.Dev != h.k.dev || !mayBe(s)) {
			t.Errorf("Next: %v, not above %v", s, h.greatest)
		}
		if e == api.OK {
			h.took(s)
		}
	case n < 19 || !h.restored:
		s := h.near(r)
		e := h.c.Hear(s)
		holdErrno(t, fmt.Sprintf("Hear(%v)", s), e, h.k.hear(s))
		if e == api.OK {
			h.took(s)
		}
	default:
		s := h.near(r)
		e := h.c.Restore(s)
		holdErrno(t, fmt.Sprintf("Restore(%v)", s), e, h.k.restore(s))
		if e == api.OK {
			h.took(s)
		}
	}
	h.k.hold(t, "behind a drawn call", h.c)
}

// goOn answers histories of many drawn calls each.
func goOn(t *testing.T, seed int64, restored bool, each func(h *history)) {
	t.Helper()
	r := rand.New(rand.NewSource(seed))
	for range 300 {
		dev := r.Intn(lastDev + 1)
		h := &history{c: begun(t, dev), k: &told{dev: dev}, restored: restored, greatest: at(0, 0, -1)}
		for range 100 {
			h.step(t, r)
			each(h)
			if t.Failed() {
				return
			}
		}
	}
}

func TestP19_4NextIsAboveAll(t *testing.T) {
	goOn(t, 194, true, func(h *history) {
		if s := h.c.Last(); rank(s) < rank(at(h.greatest.Wall, h.greatest.Count, h.k.dev)) {
			t.Errorf("last %v, greatest %v", s, h.greatest)
		}
		if s, e := h.c.Peek(); e == api.OK && rank(s) <= rank(h.greatest) {
			t.Errorf("next %v, greatest %v", s, h.greatest)
		}
	})
}

func TestP19_5NoWallTooFarAhead(t *testing.T) {
	most := 0
	goOn(t, 195, false, func(h *history) {
		ahead := h.c.Last().Wall - h.c.Wall()
		most = max(most, ahead)
		if ahead > mostAhead {
			t.Errorf("last %v at %d", h.c.Last(), h.c.Wall())
		}
	})
	if most != mostAhead {
		t.Errorf("no last Wall was ahead by %d, only by %d", mostAhead, most)
	}
}
