package dot_test

import (
	"bytes"
	"encoding/binary"
	"fmt"
	"math"
	"math/rand"
	"slices"
	"strings"
	"testing"

	"biscotti/api"
	"biscotti/dot"
	"biscotti/pack"
)

// The greatest numbers of a dot that may be, by the document's words.
const (
	lastDev = 63
	lastInc = 1 << 20
	lastSeq = 1 << 32
)

// at is a dot.
func at(dev, inc, seq int) api.Dot {
	return api.Dot{A: api.Actor{Dev: dev, Inc: inc}, Seq: seq}
}

// ends are the ends of what numbers may be, and of an int, with what lies on either side.
func ends() []int {
	l := []int{math.MinInt, math.MinInt + 1, math.MinInt32, -1 << 33, -lastSeq - 1, -lastSeq, -lastInc, -lastDev, math.MaxInt32, math.MaxInt - 1, math.MaxInt}
	for _, near := range []int{0, lastDev, lastInc, math.MaxInt32, lastSeq, lastSeq + lastDev, lastSeq + lastInc, 2 * lastSeq} {
		for by := -2; by <= 2; by++ {
			l = append(l, near+by)
		}
	}
	slices.Sort(l)
	return slices.Compact(l)
}

// endDots are dots of all those numbers.
func endDots() []api.Dot {
	var l []api.Dot
	for _, dev := range ends() {
		for _, inc := range ends() {
			for _, seq := range ends() {
				l = append(l, at(dev, inc, seq))
			}
		}
	}
	return l
}

// someDots are dots that may be, at the ends of their numbers and at those where their short bytes become more.
func someDots() []api.Dot {
	var l []api.Dot
	for _, dev := range []int{0, 1, 2, 31, 62, lastDev} {
		for _, inc := range []int{1, 2, 127, 128, 16383, 16384, lastInc - 1, lastInc} {
			for _, seq := range []int{1, 2, 127, 128, 16383, 16384, 1<<21 - 1, 1 << 21, 1<<28 - 1, 1 << 28, math.MaxInt32, math.MaxInt32 + 1, lastSeq - 1, lastSeq} {
				l = append(l, at(dev, inc, seq))
			}
		}
	}
	return l
}

// within tells whether n is one of the numbers from one to another one.
func within(n, from, to int) bool {
	return min(max(n, from), to) == n
}

// actorMayBe and mayBe tell it by the chapter's words.
func actorMayBe(a api.Actor) bool {
	return within(a.Dev, 0, lastDev) && within(a.Inc, 1, lastInc)
}

func mayBe(d api.Dot) bool {
	return actorMayBe(d.A) && within(d.Seq, 1, lastSeq)
}

// digits is n as a text that is less than another number's just where n is.
func digits(n int) string {
	return fmt.Sprintf("%016x", uint64(n)+1<<63)
}

// actorRank and rank are by the chapter's words texts that are less than another one's just where the actor, the dot, is ahead.
func actorRank(a api.Actor) string {
	return digits(a.Dev) + digits(a.Inc)
}

func rank(d api.Dot) string {
	return actorRank(d.A) + digits(d.Seq)
}

// ordered answers by the chapter's words what Sort answers: each dot that the list has not ahead, at as many places as there are others ahead of it.
func ordered(l []api.Dot) []api.Dot {
	var ranks []string
	of := map[string]api.Dot{}
	for _, d := range l {
		ranks = append(ranks, rank(d))
		of[rank(d)] = d
	}
	slices.Sort(ranks)
	all := []api.Dot{}
	for _, s := range slices.Compact(ranks) {
		all = append(all, of[s])
	}
	return all
}

// packed is by the words of this chapter, and of layer 5, what numbers are packed as.
func packed(l ...uint64) []byte {
	var b []byte
	for _, n := range l {
		b = binary.AppendUvarint(b, n)
	}
	return b
}

// packedDot is what a dot is packed as.
func packedDot(d api.Dot) []byte {
	return packed(uint64(d.A.Dev), uint64(d.A.Inc), uint64(d.Seq))
}

// holdGet reads a dot of bytes, and holds what is answered, and how the reader stands then, against what is wanted.
func holdGet(t *testing.T, what string, r *pack.Reader, want api.Dot, left int, e api.Errno) {
	t.Helper()
	if d := dot.Get(r); d != want || r.Err() != e || r.Left() != left {
		t.Errorf("%s: %v, %v, %d left, not %v, %v, %d left", what, d, r.Err(), r.Left(), want, e, left)
	}
}

// holdFails holds that of these bytes no dot is got, and that the error stays.
func holdFails(t *testing.T, b []byte, left int, e api.Errno) {
	t.Helper()
	r := pack.Read(b)
	what := fmt.Sprintf("Get of %x", b)
	holdGet(t, what, r, api.Dot{}, left, e)
	// What is read stays where it was.
	holdGet(t, what+" again", r, api.Dot{}, left, e)
	if n := r.Num(math.MaxUint64); n != 0 || r.End() != e || r.Left() != left {
		t.Errorf("%s: behind it %d, %v, %d left", what, n, r.End(), r.Left())
	}
}

// each calls do with all orders of the list; what it is handed is changed by the next call.
func each(l []api.Dot, do func([]api.Dot)) {
	var turn func(int)
	all := slices.Clone(l)
	turn = func(fixed int) {
		if fixed == len(all) {
			do(all)
			return
		}
		for i := fixed; i < len(all); i++ {
			all[fixed], all[i] = all[i], all[fixed]
			turn(fixed + 1)
			all[fixed], all[i] = all[i], all[fixed]
		}
	}
	turn(0)
}

// pick draws one of the list.
func pick[T any](r *rand.Rand, l []T) T {
	return l[r.Intn(len(l))]
}

// drawn answers dots that are drawn of few numbers, so that many are alike, and some may not be.
func drawn(r *rand.Rand, n int) []api.Dot {
	numbers := []int{0, 1, 1, 2, 3, 9, 10, -1, lastDev, lastInc, lastSeq, math.MaxInt, math.MinInt}
	l := make([]api.Dot, n)
	for i := range l {
		l[i] = at(pick(r, numbers), pick(r, numbers), pick(r, numbers))
	}
	return l
}

// mixed answers dots that are drawn of all that may be, small and great.
func mixed(r *rand.Rand) api.Dot {
	return at(r.Intn(lastDev+1), 1+r.Intn(lastInc)>>r.Intn(20), 1+r.Intn(lastSeq)>>r.Intn(32))
}

func TestP16_1RightAndActor(t *testing.T) {
	for _, c := range []struct {
		d            api.Dot
		right, actor bool
	}{
		{at(0, 1, 1), true, true},
		{at(3, 1, 7), true, true},
		{at(63, 1048576, 4294967296), true, true},
		{at(63, 1, 1), true, true},
		{at(0, 1048576, 1), true, true},
		{at(0, 1, 4294967296), true, true},
		{at(64, 1, 1), false, false},
		{at(-1, 1, 1), false, false},
		{at(0, 0, 1), false, false},
		{at(0, -1, 1), false, false},
		{at(0, 1048577, 1), false, false},
		{at(0, 1, 0), false, true},
		{at(0, 1, -1), false, true},
		{at(0, 1, 4294967297), false, true},
		{at(0, 0, 0), false, false},
	} {
		if is := dot.Right(c.d); is != c.right {
			t.Errorf("Right(%v): %v", c.d, is)
		}
		if is := dot.Actor(c.d.A); is != c.actor {
			t.Errorf("Actor(%v): %v", c.d.A, is)
		}
	}
	if dot.Right(api.Dot{}) || dot.Actor(api.Actor{}) {
		t.Error("the zero one may be")
	}
}

func TestP16_1RightAndActorAtTheEnds(t *testing.T) {
	for _, d := range endDots() {
		if is := dot.Right(d); is != mayBe(d) {
			t.Fatalf("Right(%v): %v", d, is)
		}
		// Whatever its Seq, an actor may be or not.
		if is := dot.Actor(d.A); is != actorMayBe(d.A) {
			t.Fatalf("Actor(%v): %v", d.A, is)
		}
	}
	for dev := -100; dev <= 200; dev++ {
		if is := dot.Actor(api.Actor{Dev: dev, Inc: 1}); is != (dev >= 0 && dev <= 63) {
			t.Errorf("device %d: %v", dev, is)
		}
	}
	for _, d := range someDots() {
		if !dot.Right(d) || !dot.Actor(d.A) {
			t.Errorf("%v may not be", d)
		}
	}
}

// holdOrder holds what Less and Compare tell of two dots, either way, against the chapter's words.
func holdOrder(t *testing.T, a, b api.Dot) {
	t.Helper()
	for range 2 {
		if is := dot.Less(a, b); is != (rank(a) < rank(b)) {
			t.Fatalf("Less(%v, %v): %v", a, b, is)
		}
		if n, want := dot.Compare(a.A, b.A), strings.Compare(actorRank(a.A), actorRank(b.A)); n != want {
			t.Fatalf("Compare(%v, %v): %d, not %d", a.A, b.A, n, want)
		}
		a, b = b, a
	}
}

func TestP16_1LessAndCompare(t *testing.T) {
	for _, c := range []struct {
		a, b api.Dot
		n    int
	}{
		{at(0, 1, 1), at(0, 1, 2), 0},
		{at(0, 1, 9), at(0, 1, 10), 0},
		{at(0, 1, 9), at(0, 2, 1), -1},
		{at(0, 1, lastSeq), at(0, 2, 1), -1},
		{at(0, 9, 9), at(1, 1, 1), -1},
		{at(0, lastInc, lastSeq), at(1, 1, 1), -1},
		{at(9, 1, 1), at(10, 1, 1), -1},
		{at(1, 9, 1), at(1, 10, 1), -1},
		{at(0, 2, 9), at(1, 1, 1), -1},
		{at(0, 1, 5), at(1, 2, 1), -1},
		{at(0, 2, 1), at(1, 2, 1), -1},
		// Of those that may not be, too.
		{at(0, 0, 0), at(0, 0, 1), 0},
		{at(-1, 5, 5), at(0, 0, 0), -1},
		{at(64, 5, 5), at(65, 0, 0), -1},
		{at(0, -2, 5), at(0, -1, 0), -1},
		{at(0, 1, -2), at(0, 1, -1), 0},
		{at(math.MinInt, math.MaxInt, math.MaxInt), at(math.MaxInt, math.MinInt, math.MinInt), -1},
		{at(5, math.MinInt, 5), at(5, math.MaxInt, 5), -1},
		{at(5, 5, math.MinInt), at(5, 5, math.MaxInt), 0},
	} {
		if !dot.Less(c.a, c.b) || dot.Less(c.b, c.a) {
			t.Errorf("%v is not ahead of %v", c.a, c.b)
		}
		if n, m := dot.Compare(c.a.A, c.b.A), dot.Compare(c.b.A, c.a.A); n != c.n || m != -c.n {
			t.Errorf("Compare of %v and %v: %d, %d", c.a.A, c.b.A, n, m)
		}
		for _, d := range []api.Dot{c.a, c.b} {
			if dot.Less(d, d) || dot.Compare(d.A, d.A) != 0 {
				t.Errorf("%v is not like itself", d)
			}
		}
	}
	if n := dot.Compare(api.Actor{Dev: 1}, api.Actor{Inc: 9}); n != 1 {
		t.Errorf("%d", n)
	}
}

func TestP16_1LessIsAnOrder(t *testing.T) {
	var l []api.Dot
	numbers := []int{math.MinInt, math.MinInt + 1, -1, 0, 1, 2, math.MaxInt}
	for _, dev := range numbers {
		for _, inc := range numbers {
			for _, seq := range numbers {
				l = append(l, at(dev, inc, seq))
			}
		}
	}
	for _, a := range l {
		for _, b := range l {
			holdOrder(t, a, b)
			if a != b && dot.Less(a, b) == dot.Less(b, a) {
				t.Fatalf("%v and %v", a, b)
			}
		}
	}
	l = append(endDots(), someDots()...)
	r := rand.New(rand.NewSource(161))
	chains := 0
	for range 100000 {
		a, b, c := pick(r, l), pick(r, l), pick(r, l)
		holdOrder(t, a, b)
		if dot.Less(a, b) && dot.Less(b, c) {
			chains++
			if !dot.Less(a, c) {
				t.Fatalf("%v, %v, %v", a, b, c)
			}
		}
	}
	if chains < 10000 {
		t.Errorf("%d chains", chains)
	}
}

func TestP16_1Next(t *testing.T) {
	for _, c := range []struct {
		d, next api.Dot
		e       api.Errno
	}{
		{at(0, 1, 1), at(0, 1, 2), api.OK},
		{at(3, 1, 7), at(3, 1, 8), api.OK},
		{at(63, 1048576, 4294967295), at(63, 1048576, 4294967296), api.OK},
		{at(63, 1048576, 4294967296), api.Dot{}, api.ErrRange},
		{at(0, 1, 4294967296), api.Dot{}, api.ErrRange},
		{at(0, 1, 4294967297), api.Dot{}, api.ErrRange},
		// The next one might be, but the dot itself may not.
		{at(0, 1, 0), api.Dot{}, api.ErrRange},
		{at(0, 1, -1), api.Dot{}, api.ErrRange},
		{at(0, 1, math.MinInt), api.Dot{}, api.ErrRange},
		{at(0, 1, math.MaxInt), api.Dot{}, api.ErrRange},
		{at(64, 1, 5), api.Dot{}, api.ErrRange},
		{at(-1, 1, 5), api.Dot{}, api.ErrRange},
		{at(0, 0, 5), api.Dot{}, api.ErrRange},
		{at(0, 1048577, 5), api.Dot{}, api.ErrRange},
		{api.Dot{}, api.Dot{}, api.ErrRange},
	} {
		if next, e := dot.Next(c.d); next != c.next || e != c.e {
			t.Errorf("Next(%v): %v %v, not %v %v", c.d, next, e, c.next, c.e)
		}
	}
}

func TestP16_1NextAtTheEnds(t *testing.T) {
	for _, d := range append(endDots(), someDots()...) {
		want, e := at(d.A.Dev, d.A.Inc, d.Seq+1), api.OK
		if !mayBe(d) || d.Seq == lastSeq {
			want, e = api.Dot{}, api.ErrRange
		}
		next, got := dot.Next(d)
		if next != want || got != e {
			t.Fatalf("Next(%v): %v %v, not %v %v", d, next, got, want, e)
		}
		if e == api.OK && (!dot.Less(d, next) || dot.Compare(d.A, next.A) != 0 || !dot.Right(next)) {
			t.Fatalf("%v is not behind %v", next, d)
		}
	}
	// One behind the other, none is left out.
	d := at(5, 6, 1)
	for seq := 1; seq < 1000; seq++ {
		if d != at(5, 6, seq) {
			t.Fatalf("%v at %d", d, seq)
		}
		d, _ = dot.Next(d)
	}
}

func TestP16_2Put(t *testing.T) {
	for _, c := range []struct {
		d    api.Dot
		want []byte
	}{
		{at(0, 1, 1), []byte{0, 1, 1}},
		{at(3, 1, 7), []byte{3, 1, 7}},
		{at(63, 127, 127), []byte{63, 127, 127}},
		{at(1, 128, 300), []byte{1, 128, 1, 172, 2}},
		{at(2, 300, 128), []byte{2, 172, 2, 128, 1}},
		{at(63, lastInc, lastSeq), []byte{63, 128, 128, 64, 128, 128, 128, 128, 16}},
		{at(64, 1, 1), nil},
		{at(-1, 1, 1), nil},
		{at(0, 0, 1), nil},
		{at(0, -1, 1), nil},
		{at(0, lastInc+1, 1), nil},
		{at(0, 1, 0), nil},
		{at(0, 1, -1), nil},
		{at(0, 1, lastSeq+1), nil},
		{at(math.MaxInt, math.MinInt, math.MaxInt), nil},
		{api.Dot{}, nil},
	} {
		w := new(pack.Writer)
		dot.Put(w, c.d)
		if b := w.Bytes(); !bytes.Equal(b, c.want) {
			t.Errorf("Put(%v): %x, not %x", c.d, b, c.want)
		}
		// What was packed ahead stays, and what is packed behind it goes on.
		w = new(pack.Writer).Num(300).Text("a")
		dot.Put(w, c.d)
		w.Flags(true)
		if b, want := w.Bytes(), slices.Concat([]byte{172, 2, 1, 97}, c.want, []byte{1}); !bytes.Equal(b, want) {
			t.Errorf("Put(%v) between others: %x, not %x", c.d, b, want)
		}
	}
}

func TestP16_2PutAtTheEnds(t *testing.T) {
	for _, d := range append(endDots(), someDots()...) {
		var want []byte
		if mayBe(d) {
			want = packedDot(d)
		}
		w := new(pack.Writer)
		dot.Put(w, d)
		if b := w.Bytes(); !bytes.Equal(b, want) {
			t.Fatalf("Put(%v): %x, not %x", d, b, want)
		}
	}
	// Nothing becomes of a nil one.
	for _, d := range []api.Dot{at(0, 1, 1), at(63, lastInc, lastSeq), {}, at(-1, -1, -1)} {
		dot.Put(nil, d)
	}
}

func TestP16_2Get(t *testing.T) {
	for _, d := range someDots() {
		for _, behind := range [][]byte{nil, {0}, {128}, {255, 255}, {5, 1, 0}} {
			b := append(packedDot(d), behind...)
			holdGet(t, fmt.Sprintf("Get of %x", b), pack.Read(b), d, len(behind), api.OK)
		}
	}
	// Behind something else, and ahead of it.
	r := pack.Read([]byte{172, 2, 3, 1, 7, 1, 97, 3, 1, 8})
	if n := r.Num(300); n != 300 {
		t.Errorf("%d", n)
	}
	holdGet(t, "the first dot", r, at(3, 1, 7), 5, api.OK)
	if s := r.Text(1); s != "a" {
		t.Errorf("%q", s)
	}
	holdGet(t, "the second dot", r, at(3, 1, 8), 0, api.OK)
	if e := r.End(); e != api.OK {
		t.Errorf("%v", e)
	}
	holdGet(t, "at the end", r, api.Dot{}, 0, api.ErrShort)
}

func TestP16_2GetOfNumbersThatAreNoDots(t *testing.T) {
	numbers := []uint64{0, 1, 2, 63, 64, 127, 128, 1<<20 - 1, 1 << 20, 1<<20 + 1, 1<<32 - 1, 1 << 32, 1<<32 + 1, 1 << 33, 1<<63 - 1, 1 << 63, 1<<63 + 1, math.MaxUint64}
	for _, dev := range numbers {
		for _, inc := range numbers {
			for _, seq := range numbers {
				b := append(packed(dev, inc, seq), 9)
				switch {
				// A number that is above stays the next one.
				case dev > 63:
					holdFails(t, b, len(b), api.ErrLong)
				case inc > 1<<20:
					holdFails(t, b, len(b)-1, api.ErrLong)
				case seq > 1<<32:
					holdFails(t, b, 1+len(packed(seq)), api.ErrLong)
				case inc == 0 || seq == 0:
					holdFails(t, b, 1, api.ErrRange)
				default:
					holdGet(t, fmt.Sprintf("Get of %x", b), pack.Read(b), at(int(dev), int(inc), int(seq)), 1, api.OK)
				}
			}
		}
	}
	for dev := range 128 {
		if d := dot.Get(pack.Read([]byte{byte(dev), 1, 1})); d.A.Dev != dev && dev <= 63 || d != (api.Dot{}) && dev > 63 {
			t.Errorf("device %d: %v", dev, d)
		}
	}
}

func TestP16_2GetOfBytesThatAreNoNumbers(t *testing.T) {
	for _, c := range []struct {
		b    string
		left int
		e    api.Errno
	}{
		{"", 0, api.ErrShort},
		{"\x05", 0, api.ErrShort},
		{"\x05\x01", 0, api.ErrShort},
		{"\x80", 1, api.ErrShort},
		{"\x05\x81", 1, api.ErrShort},
		{"\x05\x01\xff\xff", 2, api.ErrShort},
		{"\x85\x00\x01\x01", 4, api.ErrForm},
		{"\x05\x81\x00\x01", 3, api.ErrForm},
		{"\x05\x01\x81\x00", 2, api.ErrForm},
		{"\x05\x01" + strings.Repeat("\xff", 10), 10, api.ErrForm},
		// The reader's errors are ahead of a life, or a Seq, of 0.
		{"\x05\x00", 0, api.ErrShort},
		{"\x05\x00\x80", 1, api.ErrShort},
		{"\x05\x00\x81\x00", 2, api.ErrForm},
		{"\x05\x00\x81\x80\x80\x80\x10", 5, api.ErrLong},
		{"\x05\x00\x01", 0, api.ErrRange},
		{"\x05\x01\x00", 0, api.ErrRange},
		{"\x00\x00\x00", 0, api.ErrRange},
		{"\x00\x00\x00\x80", 1, api.ErrRange},
		// Number by number.
		{"\x40", 1, api.ErrLong},
		{"\x40\x81\x00", 3, api.ErrLong},
		{"\x05\x81\x80\x40", 3, api.ErrLong},
		{"\x05\x81\x00" + "\x81\x80\x80\x80\x10", 7, api.ErrForm},
	} {
		holdFails(t, []byte(c.b), c.left, c.e)
	}
	// Whatever is cut off.
	for _, d := range someDots() {
		b := packedDot(d)
		for n := range b {
			// What stands in the room behind the end is none of it.
			r := pack.Read(b[:n])
			if got := dot.Get(r); got != (api.Dot{}) || r.Err() != api.ErrShort {
				t.Fatalf("Get of %x: %v %v", b[:n], got, r.Err())
			}
		}
	}
}

func TestP16_2GetBehindAnError(t *testing.T) {
	for _, e := range []api.Errno{api.ErrForm, api.ErrShort, api.ErrLong, api.ErrRange, api.ErrSum, api.ErrOrder, api.ErrNil, -1, 99} {
		for _, b := range [][]byte{nil, {5, 1, 7}, {5, 1, 0}, {64, 1, 1}, {5}} {
			r := pack.Read(b)
			r.Fail(e)
			holdGet(t, "behind an error", r, api.Dot{}, len(b), e)
			// Behind a dot that was got, too.
			r = pack.Read(append([]byte{5, 1, 7}, b...))
			holdGet(t, "ahead of an error", r, at(5, 1, 7), len(b), api.OK)
			r.Fail(e)
			holdGet(t, "behind an error", r, api.Dot{}, len(b), e)
		}
	}
	// A dot that may not be keeps the next one from being got, and its error is the first.
	r := pack.Read([]byte{5, 0, 7, 5, 1, 7})
	holdGet(t, "a life of 0", r, api.Dot{}, 3, api.ErrRange)
	r.Fail(api.ErrSum)
	holdGet(t, "behind a life of 0", r, api.Dot{}, 3, api.ErrRange)
	var none *pack.Reader
	holdGet(t, "of nil", none, api.Dot{}, 0, api.ErrNil)
}

func TestP16_2GetLeavesItsBytes(t *testing.T) {
	room := append(packedDot(at(63, lastInc, lastSeq)), packedDot(at(3, 1, 7))...)
	was := bytes.Clone(room)
	first, second := pack.Read(room), pack.Read(room[:9])
	holdGet(t, "one reader", first, at(63, lastInc, lastSeq), 3, api.OK)
	holdGet(t, "another reader", second, at(63, lastInc, lastSeq), 0, api.OK)
	holdGet(t, "one reader", first, at(3, 1, 7), 0, api.OK)
	holdGet(t, "another reader", second, api.Dot{}, 0, api.ErrShort)
	if !bytes.Equal(room, was) {
		t.Errorf("it was changed: %x", room)
	}
}

func TestP16_3Sort(t *testing.T) {
	want := []api.Dot{at(0, 1, 1), at(0, 1, 2), at(0, 2, 1), at(1, 1, 1), at(1, 1, 10), at(10, 1, 1)}
	each(want, func(l []api.Dot) {
		if got := dot.Sort(l); !slices.Equal(got, want) {
			t.Fatalf("Sort(%v): %v", l, got)
		}
	})
	// Each once, however often it is met, and wherever.
	each([]api.Dot{at(1, 1, 2), at(0, 2, 1), at(1, 1, 1), at(0, 2, 1), at(1, 1, 2), at(0, 2, 1)}, func(l []api.Dot) {
		if got := dot.Sort(l); !slices.Equal(got, []api.Dot{at(0, 2, 1), at(1, 1, 1), at(1, 1, 2)}) {
			t.Fatalf("Sort(%v): %v", l, got)
		}
	})
	for _, none := range [][]api.Dot{nil, {}, want[3:3]} {
		if got := dot.Sort(none); len(got) != 0 {
			t.Errorf("%v", got)
		}
	}
	for n := range 100 {
		if got := dot.Sort(slices.Repeat([]api.Dot{at(3, 1, 7)}, n)); len(got) != min(n, 1) || n > 0 && got[0] != at(3, 1, 7) {
			t.Errorf("%d alike: %v", n, got)
		}
	}
}

func TestP16_3SortOfDotsThatMayNotBe(t *testing.T) {
	want := []api.Dot{at(math.MinInt, math.MaxInt, 1), at(-1, 1, 1), {}, at(0, 0, 1), at(0, 1, math.MinInt), at(0, 1, 0), at(0, 1, 1), at(0, 1, math.MaxInt), at(64, 1, 1)}
	r := rand.New(rand.NewSource(1631))
	for range 1000 {
		l := append(slices.Clone(want), pick(r, want), pick(r, want))
		r.Shuffle(len(l), func(i, j int) { l[i], l[j] = l[j], l[i] })
		if got := dot.Sort(l); !slices.Equal(got, want) {
			t.Fatalf("Sort(%v): %v", l, got)
		}
	}
}

func TestP16_3SortOfDrawnLists(t *testing.T) {
	r := rand.New(rand.NewSource(163))
	twice := 0
	for n := range 3000 {
		l := drawn(r, n%300)
		for range n % 50 {
			l = append(l, mixed(r))
		}
		r.Shuffle(len(l), func(i, j int) { l[i], l[j] = l[j], l[i] })
		was := slices.Clone(l)
		got, want := dot.Sort(l), ordered(l)
		if !slices.Equal(got, want) {
			t.Fatalf("Sort(%v): %v, not %v", l, got, want)
		}
		if !slices.Equal(l, was) {
			t.Fatalf("%v was changed to %v", was, l)
		}
		if again := dot.Sort(got); !slices.Equal(again, want) {
			t.Fatalf("Sort(%v): %v", got, again)
		}
		for i := range got[:max(len(got), 1)-1] {
			if !dot.Less(got[i], got[i+1]) {
				t.Fatalf("%v ahead of %v", got[i], got[i+1])
			}
		}
		twice += len(l) - len(got)
	}
	if twice < 10000 {
		t.Errorf("%d were there twice", twice)
	}
}

func TestP16_3SortOfLongLists(t *testing.T) {
	const n = 200000
	l := make([]api.Dot, n)
	for i := range l {
		// Each of the first half is behind all that stand behind it; the second half is met again.
		l[i] = at(63, 1, n/2-i%(n/2))
	}
	got := dot.Sort(l)
	if len(got) != n/2 {
		t.Fatalf("%d of %d", len(got), n)
	}
	for i, d := range got {
		if d != at(63, 1, i+1) {
			t.Fatalf("%v at %d", d, i)
		}
	}
}

func TestP16_3SortIsOfTheCallAlone(t *testing.T) {
	room := []api.Dot{at(1, 1, 2), at(0, 2, 1), at(1, 1, 1), at(0, 2, 1), at(0, 1, 1), at(0, 1, 2)}
	was := slices.Clone(room)
	for n := range room {
		l := room[:n]
		first, second := dot.Sort(l), dot.Sort(l)
		want := slices.Clone(second)
		for i := range first {
			first[i] = at(9, 9, 9)
		}
		_ = append(first, at(8, 8, 8), at(8, 8, 8))
		if !slices.Equal(room, was) || !slices.Equal(second, want) || !slices.Equal(dot.Sort(l), want) {
			t.Errorf("of %d, what was answered is of another one: %v %v", n, room, second)
		}
		for i := range l {
			l[i] = at(7, 7, 7)
		}
		if !slices.Equal(second, want) {
			t.Errorf("of %d, what was answered is of the list: %v", n, second)
		}
		copy(room, was)
	}
	// One that is in order already is a new one, too.
	l := []api.Dot{at(0, 1, 1), at(0, 1, 2)}
	got := dot.Sort(l)
	got[0] = at(9, 9, 9)
	if l[0] != at(0, 1, 1) {
		t.Errorf("%v", l)
	}
}

func TestP16_3Text(t *testing.T) {
	for want, d := range map[string]api.Dot{
		"3.1.7":                 at(3, 1, 7),
		"0.1.1":                 at(0, 1, 1),
		"10.20.30":              at(10, 20, 30),
		"63.1048576.4294967296": at(63, lastInc, lastSeq),
		"63.1000000.4000000000": at(63, 1000000, 4000000000),
		"7.3.1":                 at(7, 3, 1),
		"0.0.0":                 {},
		"-1.-20.-300":           at(-1, -20, -300),
		"64.1048577.4294967297": at(64, lastInc+1, lastSeq+1),
		"9223372036854775807.9223372036854775806.-9223372036854775808": at(math.MaxInt, math.MaxInt-1, math.MinInt),
	} {
		if s := dot.Text(d); s != want {
			t.Errorf("%q, not %q", s, want)
		}
	}
	r := rand.New(rand.NewSource(1632))
	for _, d := range append(drawn(r, 1000), someDots()...) {
		if s, want := dot.Text(d), fmt.Sprintf("%d.%d.%d", d.A.Dev, d.A.Inc, d.Seq); s != want {
			t.Fatalf("%q, not %q", s, want)
		}
	}
}

func TestP16_4WhatWasPutIsGot(t *testing.T) {
	r := rand.New(rand.NewSource(164))
	all := someDots()
	for range 20000 {
		all = append(all, mixed(r))
	}
	w := new(pack.Writer)
	for i, d := range all {
		one := new(pack.Writer)
		dot.Put(one, d)
		holdGet(t, "alone", pack.Read(one.Bytes()), d, 0, api.OK)
		dot.Put(w, d)
		// One that may not be leaves nothing that could be got.
		dot.Put(w, at(d.A.Dev, d.A.Inc, lastSeq+1+i))
		w.Int(int64(-i))
	}
	read := pack.Read(w.Bytes())
	for i, d := range all {
		if got := dot.Get(read); got != d {
			t.Fatalf("%v, not %v: %v", got, d, read.Err())
		}
		if n := read.Int(math.MaxInt64); n != int64(-i) {
			t.Fatalf("%d behind %v", n, d)
		}
	}
	if e := read.End(); e != api.OK {
		t.Errorf("%v", e)
	}
}
