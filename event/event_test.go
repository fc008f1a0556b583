package event_test

import (
	"bytes"
	"encoding/binary"
	"fmt"
	"math"
	"math/rand"
	"reflect"
	"slices"
	"strings"
	"testing"

	"biscotti/api"
	"biscotti/cookie"
	"biscotti/event"
	"biscotti/pack"
	"biscotti/varint"
)

// The greatest numbers of what may be, by the document's words.
const (
	lastDev   = 63
	lastInc   = 1 << 20
	lastSeq   = 1 << 32
	lastWall  = 1 << 42
	lastCount = 65535
	lastTime  = 1 << 40
	mostName  = 256
	mostValue = 1024
	mostOver  = 64
)

// at is a dot.
func at(dev, inc, seq int) api.Dot {
	return api.Dot{A: api.Actor{Dev: dev, Inc: inc}, Seq: seq}
}

// dots are n dots of one actor, in order.
func dots(dev, inc, n int) []api.Dot {
	l := make([]api.Dot, n)
	for i := range l {
		l[i] = at(dev, inc, i+1)
	}
	return l
}

// aPut and aRemove are events that may be.
func aPut() api.Event {
	return api.Event{
		Dot:    at(2, 1, 3),
		Stamp:  api.Stamp{Wall: 300, Count: 1, Dev: 2},
		Kind:   1,
		Key:    api.Key{Name: "sid", Domain: "shop.test", Path: "/a"},
		Cookie: api.Cookie{Value: "31d4", Secure: true, Persistent: true, Expiry: 60, Creation: 5, Access: 6},
		Over:   []api.Dot{at(1, 9, 400), at(2, 1, 1), at(2, 1, 2), at(2, 2, 7)},
	}
}

func aRemove() api.Event {
	return api.Event{Dot: at(2, 1, 3), Stamp: api.Stamp{Wall: 300, Count: 1, Dev: 2}, Kind: 2, Over: []api.Dot{at(2, 1, 2)}}
}

// but is the event with something else in it.
func but(e api.Event, change func(*api.Event)) api.Event {
	e.Over = slices.Clone(e.Over)
	change(&e)
	return e
}

// over is the event with other dots that it is over.
func over(e api.Event, l ...api.Dot) api.Event {
	e.Over = l
	return e
}

// within tells whether n is one of the numbers from one to another one.
func within(n, from, to int) bool {
	return min(max(n, from), to) == n
}

// dotMayBe, stampMayBe, overMayBe and mayBe tell it by the chapters' words.
func dotMayBe(d api.Dot) bool {
	return within(d.A.Dev, 0, lastDev) && within(d.A.Inc, 1, lastInc) && within(d.Seq, 1, lastSeq)
}

func stampMayBe(s api.Stamp) bool {
	return within(s.Wall, 0, lastWall) && within(s.Count, 0, lastCount) && within(s.Dev, 0, lastDev)
}

func overMayBe(e api.Event) bool {
	var ranks []string
	for _, d := range e.Over {
		if !dotMayBe(d) || d.A == e.Dot.A && within(d.Seq, e.Dot.Seq, math.MaxInt) {
			return false
		}
		ranks = append(ranks, fmt.Sprintf("%02d %07d %010d", d.A.Dev, d.A.Inc, d.Seq))
	}
	once := slices.Clone(ranks)
	slices.Sort(once)
	return len(ranks) <= mostOver && slices.Equal(slices.Compact(once), ranks)
}

func mayBe(e api.Event) bool {
	if !dotMayBe(e.Dot) || !stampMayBe(e.Stamp) || e.Stamp.Dev != e.Dot.A.Dev || !overMayBe(e) {
		return false
	}
	put := e.Kind == 1 && cookie.Right(api.Item{Key: e.Key, Cookie: e.Cookie})
	remove := e.Kind == 2 && e.Key == api.Key{} && e.Cookie == api.Cookie{} && len(e.Over) != 0
	return put || remove
}

// alike tells whether all of two events is the same, a list without a dot being like none.
func alike(a, b api.Event) bool {
	for _, e := range []*api.Event{&a, &b} {
		if len(e.Over) == 0 {
			e.Over = nil
		}
	}
	return reflect.DeepEqual(a, b)
}

// packed is by the words of layers 2 and 5 what numbers (int), whole numbers (int64), texts and single bytes are packed as.
func packed(l ...any) []byte {
	var b []byte
	for _, x := range l {
		switch x := x.(type) {
		case int:
			b = binary.AppendUvarint(b, uint64(x))
		case int64:
			b = binary.AppendVarint(b, x)
		case string:
			b = append(binary.AppendUvarint(b, uint64(len(x))), x...)
		case byte:
			b = append(b, x)
		}
	}
	return b
}

// parts are by the chapter's words what an event is packed as, one behind the other.
func parts(e api.Event) []any {
	var flags byte
	for k, on := range []bool{e.Kind == 1, e.Cookie.HostOnly, e.Cookie.Secure, e.Cookie.HttpOnly, e.Cookie.Persistent} {
		if on {
			flags += []byte{1, 2, 4, 8, 16}[k]
		}
	}
	l := []any{e.Dot.A.Dev, e.Dot.A.Inc, e.Dot.Seq, e.Stamp.Wall, e.Stamp.Count, e.Stamp.Dev, flags, len(e.Over)}
	for _, d := range e.Over {
		l = append(l, d.A.Dev, d.A.Inc, d.Seq)
	}
	if e.Kind == 1 {
		c := e.Cookie
		l = append(l, e.Key.Name, e.Key.Domain, e.Key.Path, c.Value, int64(c.Expiry), c.Creation, c.Access)
	}
	return l
}

// scan takes apart by the words of layers 2 and 5 what is packed, up to the first error.
type scan struct {
	b []byte
	e api.Errno
}

// take answers what get finds at the beginning, if it is no more than may be; only then what is behind is gone on with.
func (s *scan) take(get func(b []byte) (amount uint64, size int, e api.Errno), most int) bool {
	if s.e != api.OK {
		return false
	}
	amount, size, e := get(s.b)
	switch {
	case e != api.OK:
		s.e = e
	case amount > uint64(most):
		s.e = api.ErrLong
	case size > len(s.b):
		s.e = api.ErrShort
	default:
		s.b = s.b[size:]
		return true
	}
	return false
}

func (s *scan) num(most int) int {
	n, size, _ := varint.Get(s.b)
	if !s.take(varint.Get, most) || size == 0 {
		return 0
	}
	return int(n)
}

func (s *scan) whole(most int) int {
	n, _, _ := varint.GetInt(s.b)
	amount := func(b []byte) (uint64, int, api.Errno) {
		n, size, e := varint.GetInt(b)
		if n < 0 {
			return uint64(-(n + 1)) + 1, size, e
		}
		return uint64(n), size, e
	}
	if !s.take(amount, most) {
		return 0
	}
	return int(n)
}

func (s *scan) text(most int) string {
	b := s.b
	length := func(b []byte) (uint64, int, api.Errno) {
		n, size, e := varint.Get(b)
		return n, size + int(min(n, 1<<30)), e
	}
	if !s.take(length, most) {
		return ""
	}
	_, size, _ := varint.Get(b)
	return string(b[size : len(b)-len(s.b)])
}

func (s *scan) flags() byte {
	b := s.b
	one := func(b []byte) (uint64, int, api.Errno) {
		switch {
		case len(b) == 0:
			return 0, 0, api.ErrShort
		case b[0] > 31:
			return 0, 0, api.ErrForm
		}
		return 0, 1, api.OK
	}
	if !s.take(one, 0) {
		return 0
	}
	return b[0]
}

func (s *scan) dot() api.Dot {
	d := at(s.num(lastDev), s.num(lastInc), s.num(lastSeq))
	if s.e == api.OK && (d.A.Inc == 0 || d.Seq == 0) {
		s.e = api.ErrRange
	}
	return d
}

// scanned answers by the chapter's words what Get answers of bytes, and how many are left then.
func scanned(b []byte) (api.Event, int, api.Errno) {
	s := &scan{b: b}
	var e api.Event
	e.Dot = s.dot()
	e.Stamp = api.Stamp{Wall: s.num(lastWall), Count: s.num(lastCount), Dev: s.num(lastDev)}
	flags := s.flags()
	e.Kind = 2 - int(flags%2)
	e.Cookie.HostOnly, e.Cookie.Secure, e.Cookie.HttpOnly, e.Cookie.Persistent = flags/2%2 == 1, flags/4%2 == 1, flags/8%2 == 1, flags/16 == 1
	for n := s.num(mostOver); n > 0; n-- {
		e.Over = append(e.Over, s.dot())
	}
	if e.Kind == 1 {
		e.Key = api.Key{Name: s.text(mostName), Domain: s.text(mostName), Path: s.text(mostName)}
		e.Cookie.Value = s.text(mostValue)
		e.Cookie.Expiry, e.Cookie.Creation, e.Cookie.Access = s.whole(lastTime), s.num(lastTime), s.num(lastTime)
	}
	if s.e == api.OK && !mayBe(e) {
		s.e = api.ErrForm
	}
	if s.e != api.OK {
		return api.Event{}, len(s.b), s.e
	}
	return e, len(s.b), api.OK
}

// holdGet reads an event of bytes, and holds what is answered, and how the reader stands then, against what is wanted.
func holdGet(t *testing.T, what string, r *pack.Reader, want api.Event, left int, e api.Errno) {
	t.Helper()
	if x := event.Get(r); !alike(x, want) || r.Err() != e || r.Left() != left {
		t.Errorf("%s: %v, %v, %d left, not %v, %v, %d left", what, x, r.Err(), r.Left(), want, e, left)
	}
}

// holdRead holds what Get and Read answer of bytes, and of these with a byte behind, against what is wanted of them.
func holdRead(t *testing.T, what string, b []byte, want api.Event, left int, e api.Errno) {
	t.Helper()
	r := pack.Read(b)
	holdGet(t, what+": Get", r, want, left, e)
	if e != api.OK {
		// The error stays, and what is read stays where it was.
		holdGet(t, what+": Get again", r, api.Event{}, left, e)
	}
	if e == api.OK && left > 0 {
		e, want = api.ErrForm, api.Event{}
	}
	if x, f := event.Read(b); !alike(x, want) || f != e {
		t.Errorf("%s: Read: %v, %v, not %v, %v", what, x, f, want, e)
	}
}

// holdScanned holds what Get and Read answer of bytes against the chapter's words.
func holdScanned(t *testing.T, b []byte) (api.Event, api.Errno) {
	t.Helper()
	e, left, f := scanned(b)
	holdRead(t, fmt.Sprintf("of %x", b), b, e, left, f)
	return e, f
}

// holdFails holds that of these bytes no event is got.
func holdFails(t *testing.T, b []byte, left int, e api.Errno) {
	t.Helper()
	holdRead(t, fmt.Sprintf("of %x", b), b, api.Event{}, left, e)
	if _, n, f := scanned(b); n != left || f != e {
		t.Errorf("of %x: told as %d left, %v", b, n, f)
	}
}

// holdRight holds what Right, Put and Bytes make of an event against the chapter's words.
func holdRight(t *testing.T, e api.Event, right bool) {
	t.Helper()
	if is := event.Right(e); is != right || mayBe(e) != right {
		t.Errorf("Right(%v): %v, told as %v, not %v", e, is, mayBe(e), right)
	}
	var want []byte
	form := api.ErrForm
	if right {
		want, form = packed(parts(e)...), api.OK
	}
	w := &pack.Writer{}
	w.Num(300)
	event.Put(w, e)
	w.Num(9)
	if b := w.Bytes(); !bytes.Equal(b, slices.Concat(packed(300), want, packed(9))) {
		t.Errorf("Put of %v: %x, not %x", e, b, want)
	}
	if b, f := event.Bytes(e); !bytes.Equal(b, want) || f != form {
		t.Errorf("Bytes(%v): %x, %v, not %x, %v", e, b, f, want, form)
	}
}

// ends are the ends of what numbers may be, and of an int, with what lies on either side.
func ends() []int {
	l := []int{math.MinInt, math.MinInt + 1, math.MinInt32, -1 << 33, -lastSeq, -lastInc, math.MaxInt32, math.MaxInt - 1, math.MaxInt}
	for _, near := range []int{-lastTime, 0, lastDev, lastCount, lastInc, lastSeq, lastTime, lastWall, 2 * lastWall} {
		for by := -2; by <= 2; by++ {
			l = append(l, near+by)
		}
	}
	slices.Sort(l)
	return slices.Compact(l)
}

// pick draws one of the list.
func pick[T any](r *rand.Rand, l []T) T {
	return l[r.Intn(len(l))]
}

// someEvents are events that may be, at the ends of what they may have.
func someEvents() []api.Event {
	least := api.Event{Dot: at(0, 1, 1), Kind: 1, Key: api.Key{Name: "n", Domain: "d", Path: "/"}, Cookie: api.Cookie{Expiry: lastTime}}
	domain := strings.Repeat(strings.Repeat("d", 63)+".", 3) + strings.Repeat("e", 62) + ".f"
	most := api.Event{
		Dot:    at(lastDev, lastInc, lastSeq),
		Stamp:  api.Stamp{Wall: lastWall, Count: lastCount, Dev: lastDev},
		Kind:   1,
		Key:    api.Key{Name: strings.Repeat("n", mostName), Domain: domain, Path: "/" + strings.Repeat("p", mostName-1)},
		Cookie: api.Cookie{Value: strings.Repeat("v", mostValue), HostOnly: true, Secure: true, HttpOnly: true, Persistent: true, Expiry: -lastTime, Creation: lastTime, Access: lastTime},
	}
	for i := range mostOver {
		most.Over = append(most.Over, at(lastDev, lastInc, lastSeq-mostOver+i))
	}
	many := aRemove()
	many.Over = dots(3, 1, mostOver)
	return []api.Event{aPut(), aRemove(), least, most, many, over(aRemove(), at(0, 1, 1)), over(aPut())}
}

// drawn draws an event that may be.
func drawn(r *rand.Rand) api.Event {
	dev := pick(r, []int{0, 1, 2, lastDev})
	e := api.Event{
		Dot:   at(dev, pick(r, []int{1, 2, 128, lastInc}), pick(r, []int{1, 2, 3, 4, 127, 128, lastSeq})),
		Stamp: api.Stamp{Wall: pick(r, []int{0, 1, 127, 128, 1 << 35, lastWall}), Count: pick(r, []int{0, 1, 128, lastCount}), Dev: dev},
		Kind:  1 + r.Intn(2),
	}
	if e.Kind == 1 {
		e.Key = api.Key{Name: pick(r, []string{"n", "sid", "a b"}), Domain: pick(r, []string{"d", "a.test", "[::1]"}), Path: pick(r, []string{"/", "/a", "/\x00;é"})}
		e.Cookie = api.Cookie{
			Value:    pick(r, []string{"", "v", "a=b", "ü", strings.Repeat("v", 200)}),
			HostOnly: r.Intn(2) == 0, Secure: r.Intn(2) == 0, HttpOnly: r.Intn(2) == 0,
			Expiry: lastTime, Creation: pick(r, []int{0, 1, 128, lastTime}), Access: pick(r, []int{0, 1, 128, lastTime}),
		}
		if r.Intn(2) == 0 {
			e.Cookie.Persistent, e.Cookie.Expiry = true, pick(r, []int{0, 1, -1, 63, 64, -64, -65, lastTime, -lastTime})
		}
	}
	for n := r.Intn(5); len(e.Over) == 0 && e.Kind == 2 || n > 0; n-- {
		with := over(e, append(slices.Clone(e.Over), at(pick(r, []int{0, 1, 2, lastDev}), pick(r, []int{1, 2, lastInc}), pick(r, []int{1, 2, 3, 5, 200, lastSeq})))...)
		slices.SortFunc(with.Over, func(a, b api.Dot) int {
			return slices.Compare([]int{a.A.Dev, a.A.Inc, a.Seq}, []int{b.A.Dev, b.A.Inc, b.Seq})
		})
		if overMayBe(with) {
			e = with
		}
	}
	return e
}

// changers change one field of an event, or one dot that it is over; by a Put's and a Remove's words it may be then, or may not.
func changers(e api.Event) []func(*api.Event) {
	var l []func(*api.Event)
	add := func(change func(*api.Event)) {
		l = append(l, change)
	}
	var some []int
	for i := range e.Over {
		if i < 2 || i >= len(e.Over)-2 {
			some = append(some, i)
		}
	}
	for _, n := range append(ends(), 3, 4, 5, 100) {
		for _, field := range []func(*api.Event) *int{
			func(e *api.Event) *int { return &e.Dot.A.Dev },
			func(e *api.Event) *int { return &e.Dot.A.Inc },
			func(e *api.Event) *int { return &e.Dot.Seq },
			func(e *api.Event) *int { return &e.Stamp.Wall },
			func(e *api.Event) *int { return &e.Stamp.Count },
			func(e *api.Event) *int { return &e.Stamp.Dev },
			func(e *api.Event) *int { return &e.Kind },
			func(e *api.Event) *int { return &e.Cookie.Expiry },
			func(e *api.Event) *int { return &e.Cookie.Creation },
			func(e *api.Event) *int { return &e.Cookie.Access },
		} {
			add(func(e *api.Event) { *field(e) = n })
		}
		for _, i := range some {
			add(func(e *api.Event) { e.Over[i].A.Dev = n })
			add(func(e *api.Event) { e.Over[i].A.Inc = n })
			add(func(e *api.Event) { e.Over[i].Seq = n })
		}
	}
	for _, s := range []string{"", "n", "d", "/", "/a;b", "a=b", "a;b", " a", "a\t", "A.test", "a..b", "\x00", "\xff", strings.Repeat("n", 256), strings.Repeat("n", 257), strings.Repeat("v", 1024), strings.Repeat("v", 1025), "/" + strings.Repeat("p", 256)} {
		for _, field := range []func(*api.Event) *string{
			func(e *api.Event) *string { return &e.Key.Name },
			func(e *api.Event) *string { return &e.Key.Domain },
			func(e *api.Event) *string { return &e.Key.Path },
			func(e *api.Event) *string { return &e.Cookie.Value },
		} {
			add(func(e *api.Event) { *field(e) = s })
		}
	}
	for _, field := range []func(*api.Event) *bool{
		func(e *api.Event) *bool { return &e.Cookie.HostOnly },
		func(e *api.Event) *bool { return &e.Cookie.Secure },
		func(e *api.Event) *bool { return &e.Cookie.HttpOnly },
		func(e *api.Event) *bool { return &e.Cookie.Persistent },
	} {
		add(func(e *api.Event) { *field(e) = !*field(e) })
	}
	for _, i := range some {
		add(func(e *api.Event) { e.Over = slices.Delete(e.Over, i, i+1) })
		add(func(e *api.Event) { e.Over = slices.Insert(e.Over, i, e.Over[i]) })
		add(func(e *api.Event) { e.Over[0], e.Over[i] = e.Over[i], e.Over[0] })
	}
	for _, d := range []api.Dot{{}, e.Dot, at(0, 1, 1), at(lastDev, lastInc, lastSeq), at(e.Dot.A.Dev, e.Dot.A.Inc, e.Dot.Seq-1), at(e.Dot.A.Dev, e.Dot.A.Inc, e.Dot.Seq+1)} {
		add(func(e *api.Event) { e.Over = append(e.Over, d) })
		add(func(e *api.Event) { e.Over = slices.Insert(e.Over, 0, d) })
	}
	return l
}

// changes are all events that come of an event by one change.
func changes(e api.Event) []api.Event {
	var l []api.Event
	for _, change := range changers(e) {
		if x := but(e, change); !alike(x, e) {
			l = append(l, x)
		}
	}
	return l
}

// changed draws one of them, or the event itself.
func changed(r *rand.Rand, e api.Event) api.Event {
	return but(e, pick(r, changers(e)))
}

func TestP20_1RightDotsAndStamps(t *testing.T) {
	for _, c := range []struct {
		d     api.Dot
		s     api.Stamp
		right bool
	}{
		{at(0, 1, 1), api.Stamp{}, true},
		{at(63, 1048576, 4294967296), api.Stamp{Wall: 4398046511104, Count: 65535, Dev: 63}, true},
		{at(64, 1, 1), api.Stamp{Dev: 64}, false},
		{at(-1, 1, 1), api.Stamp{Dev: -1}, false},
		{at(0, 0, 1), api.Stamp{}, false},
		{at(0, 1048577, 1), api.Stamp{}, false},
		{at(0, 1, 0), api.Stamp{}, false},
		{at(0, 1, 4294967297), api.Stamp{}, false},
		{at(0, 1, 1), api.Stamp{Wall: -1}, false},
		{at(0, 1, 1), api.Stamp{Wall: 4398046511105}, false},
		{at(0, 1, 1), api.Stamp{Count: -1}, false},
		{at(0, 1, 1), api.Stamp{Count: 65536}, false},
		// The stamp's device is the dot's.
		{at(0, 1, 1), api.Stamp{Dev: 1}, false},
		{at(1, 1, 1), api.Stamp{}, false},
		{at(63, 1, 1), api.Stamp{Dev: 62}, false},
		{at(5, 1, 1), api.Stamp{Dev: 5}, true},
	} {
		e := over(aPut(), at(9, 9, 9))
		e.Dot, e.Stamp = c.d, c.s
		holdRight(t, e, c.right)
		e = over(aRemove(), at(9, 9, 9))
		e.Dot, e.Stamp = c.d, c.s
		holdRight(t, e, c.right)
	}
}

func TestP20_1RightOver(t *testing.T) {
	// The events' own dot is 2.1.3.
	for _, c := range []struct {
		l     []api.Dot
		right bool
	}{
		{[]api.Dot{at(2, 1, 1)}, true},
		{[]api.Dot{at(2, 1, 2)}, true},
		{[]api.Dot{at(2, 1, 3)}, false},
		{[]api.Dot{at(2, 1, 4)}, false},
		{[]api.Dot{at(2, 1, lastSeq)}, false},
		{[]api.Dot{at(2, 1, 1), at(2, 1, 2)}, true},
		{[]api.Dot{at(2, 1, 2), at(2, 1, 3)}, false},
		{[]api.Dot{at(2, 1, 2), at(2, 1, 9)}, false},
		// Another life of that device, and another device of that life, may be further.
		{[]api.Dot{at(2, 2, 3)}, true},
		{[]api.Dot{at(2, 2, lastSeq)}, true},
		{[]api.Dot{at(1, 1, 3)}, true},
		{[]api.Dot{at(1, 1, lastSeq)}, true},
		{[]api.Dot{at(3, 1, 3)}, true},
		{[]api.Dot{at(lastDev, lastInc, lastSeq)}, true},
		// In order, each once.
		{[]api.Dot{at(2, 1, 2), at(2, 1, 1)}, false},
		{[]api.Dot{at(2, 1, 1), at(2, 1, 1)}, false},
		{[]api.Dot{at(5, 1, 1), at(5, 1, 1)}, false},
		{[]api.Dot{at(1, 2, 1), at(1, 1, 9)}, false},
		{[]api.Dot{at(1, 1, 9), at(1, 2, 1)}, true},
		{[]api.Dot{at(4, 1, 1), at(3, 9, 9)}, false},
		{[]api.Dot{at(3, 9, 9), at(4, 1, 1)}, true},
		{[]api.Dot{at(1, 1, 1), at(3, 1, 1), at(3, 1, 2), at(3, 1, 3)}, true},
		{[]api.Dot{at(1, 1, 1), at(3, 1, 1), at(3, 1, 3), at(3, 1, 2)}, false},
		{[]api.Dot{at(3, 1, 1), at(1, 1, 1), at(3, 1, 2)}, false},
		// Each may be.
		{[]api.Dot{{}}, false},
		{[]api.Dot{at(0, 1, 0)}, false},
		{[]api.Dot{at(0, 0, 1)}, false},
		{[]api.Dot{at(-1, 1, 1)}, false},
		{[]api.Dot{at(1, 1, 1), at(3, 1, 0)}, false},
		{[]api.Dot{at(1, 1, 1), at(64, 1, 1)}, false},
		{[]api.Dot{at(1, 1, 1), at(3, lastInc+1, 1)}, false},
		{[]api.Dot{at(1, 1, 1), at(3, 1, lastSeq+1)}, false},
		{[]api.Dot{at(0, 0, 1), at(1, 1, 1)}, false},
		// At most 64.
		{dots(3, 1, 63), true},
		{dots(3, 1, 64), true},
		{dots(3, 1, 65), false},
		{dots(3, 1, 1000), false},
		{append(dots(1, 1, 32), dots(3, 1, 32)...), true},
		{append(dots(1, 1, 32), dots(3, 1, 33)...), false},
	} {
		holdRight(t, over(aPut(), c.l...), c.right)
		holdRight(t, over(aRemove(), c.l...), c.right)
	}
	// A Put may be over nothing, a Remove may not.
	holdRight(t, over(aPut()), true)
	holdRight(t, over(aPut(), []api.Dot{}...), true)
	holdRight(t, over(aRemove()), false)
	holdRight(t, over(aRemove(), []api.Dot{}...), false)
}

func TestP20_1RightKinds(t *testing.T) {
	for _, n := range append(ends(), 3, 4, 5, 100) {
		holdRight(t, but(aPut(), func(e *api.Event) { e.Kind = n }), n == 1)
		holdRight(t, but(aRemove(), func(e *api.Event) { e.Kind = n }), n == 2)
		// What is neither has nothing that could be right.
		holdRight(t, api.Event{Dot: at(2, 1, 3), Stamp: api.Stamp{Dev: 2}, Kind: n}, false)
	}
	holdRight(t, api.Event{}, false)
}

func TestP20_1RightItemOfAPut(t *testing.T) {
	for _, c := range []struct {
		change func(*api.Event)
		right  bool
	}{
		{func(e *api.Event) {}, true},
		{func(e *api.Event) { e.Key.Name = "" }, false},
		{func(e *api.Event) { e.Key.Name = "a=b" }, false},
		{func(e *api.Event) { e.Key.Name = strings.Repeat("n", 256) }, true},
		{func(e *api.Event) { e.Key.Name = strings.Repeat("n", 257) }, false},
		{func(e *api.Event) { e.Key.Domain = "" }, false},
		{func(e *api.Event) { e.Key.Domain = "Shop.test" }, false},
		{func(e *api.Event) { e.Key.Path = "" }, false},
		{func(e *api.Event) { e.Key.Path = "a" }, false},
		{func(e *api.Event) { e.Key.Path = "/" + strings.Repeat("p", 256) }, false},
		{func(e *api.Event) { e.Cookie.Value = "" }, true},
		{func(e *api.Event) { e.Cookie.Value = "a;b" }, false},
		{func(e *api.Event) { e.Cookie.Value = strings.Repeat("v", 1024) }, true},
		{func(e *api.Event) { e.Cookie.Value = strings.Repeat("v", 1025) }, false},
		{func(e *api.Event) { e.Cookie.Expiry = -lastTime }, true},
		{func(e *api.Event) { e.Cookie.Expiry = -lastTime - 1 }, false},
		{func(e *api.Event) { e.Cookie.Expiry = lastTime + 1 }, false},
		{func(e *api.Event) { e.Cookie.Persistent = false }, false},
		{func(e *api.Event) { e.Cookie.Persistent, e.Cookie.Expiry = false, lastTime }, true},
		{func(e *api.Event) { e.Cookie.Creation = -1 }, false},
		{func(e *api.Event) { e.Cookie.Creation = lastTime + 1 }, false},
		{func(e *api.Event) { e.Cookie.Access = -1 }, false},
		{func(e *api.Event) { e.Cookie.Access = lastTime + 1 }, false},
		{func(e *api.Event) { e.Key, e.Cookie = api.Key{}, api.Cookie{} }, false},
	} {
		holdRight(t, but(aPut(), c.change), c.right)
	}
}

func TestP20_1RightRemoveHasNoItem(t *testing.T) {
	holdRight(t, aRemove(), true)
	for _, change := range []func(*api.Event){
		func(e *api.Event) { e.Key.Name = "n" },
		func(e *api.Event) { e.Key.Domain = "d" },
		func(e *api.Event) { e.Key.Path = "/" },
		func(e *api.Event) { e.Cookie.Value = "v" },
		func(e *api.Event) { e.Cookie.HostOnly = true },
		func(e *api.Event) { e.Cookie.Secure = true },
		func(e *api.Event) { e.Cookie.HttpOnly = true },
		func(e *api.Event) { e.Cookie.Persistent = true },
		func(e *api.Event) { e.Cookie.Expiry = 1 },
		func(e *api.Event) { e.Cookie.Creation = 1 },
		func(e *api.Event) { e.Cookie.Access = 1 },
		func(e *api.Event) { e.Key, e.Cookie = aPut().Key, aPut().Cookie },
	} {
		holdRight(t, but(aRemove(), change), false)
	}
}

func TestP20_1RightOfAllChanges(t *testing.T) {
	r := rand.New(rand.NewSource(201))
	for _, e := range append(someEvents(), drawn(r), drawn(r), drawn(r)) {
		holdRight(t, e, true)
		for _, x := range changes(e) {
			holdRight(t, x, mayBe(x))
			y := changed(r, x)
			holdRight(t, y, mayBe(y))
			if t.Failed() {
				return
			}
		}
	}
}

func TestP20_1Same(t *testing.T) {
	r := rand.New(rand.NewSource(2011))
	// It is asked of what may not be, too: all that a change makes is another event.
	for _, e := range append(someEvents(), drawn(r), api.Event{}) {
		l := changes(e)
		if !event.Same(e, e) || !event.Same(e, but(e, func(*api.Event) {})) {
			t.Errorf("Same(%v, itself): false", e)
		}
		for _, x := range l {
			y := pick(r, l)
			if event.Same(e, x) || event.Same(x, e) || !event.Same(x, but(x, func(*api.Event) {})) || event.Same(x, y) != alike(x, y) {
				t.Fatalf("Same of %v, %v, %v", e, x, y)
			}
		}
	}
}

func TestP20_1SameOverNothing(t *testing.T) {
	a, b := over(aPut()), over(aPut(), []api.Dot{}...)
	b.Over = make([]api.Dot, 0, 4)
	if !event.Same(a, b) || !event.Same(b, a) || !event.Same(b, b) || !event.Same(api.Event{}, api.Event{Over: []api.Dot{}}) {
		t.Error("a list without an element is not like none")
	}
	if event.Same(a, aPut()) || event.Same(aPut(), b) {
		t.Error("a list without an element is like one with some")
	}
}

func TestP20_1Clone(t *testing.T) {
	r := rand.New(rand.NewSource(2012))
	for _, e := range append(someEvents(), drawn(r), api.Event{}, changed(r, aPut()), over(aPut(), dots(1, 1, 500)...)) {
		was := fmt.Sprint(e)
		c := event.Clone(e)
		if !alike(c, e) || !event.Same(c, e) {
			t.Errorf("Clone(%v): %v", e, c)
		}
		for i := range c.Over {
			c.Over[i] = at(-7, -7, -7)
		}
		c.Over = append(c.Over, at(-7, -7, -7))
		if fmt.Sprint(e) != was {
			t.Errorf("%s became %v", was, e)
		}
		d := event.Clone(e)
		for i := range e.Over {
			e.Over[i] = at(-8, -8, -8)
		}
		if fmt.Sprint(d) != was {
			t.Errorf("a clone of %s became %v", was, d)
		}
	}
}

func TestP20_1CloneLeavesTheRoomBehind(t *testing.T) {
	for n := range 4 {
		room := dots(1, 1, 9)
		c := event.Clone(over(aPut(), room[:n]...))
		// What a clone has room for is its own.
		c.Over = append(c.Over, at(7, 7, 7), at(7, 7, 7), at(7, 7, 7))
		if !slices.Equal(room, dots(1, 1, 9)) {
			t.Errorf("behind %d dots: %v", n, room)
		}
	}
}

func TestP20_1Item(t *testing.T) {
	r := rand.New(rand.NewSource(2013))
	for _, e := range append(someEvents(), drawn(r), drawn(r), api.Event{}) {
		for _, x := range append(changes(e), e) {
			if i := event.Item(x); i.Key != x.Key || i.Cookie != x.Cookie {
				t.Errorf("Item(%v): %v", x, i)
			}
		}
	}
}

func TestP20_2Bytes(t *testing.T) {
	for _, c := range []struct {
		e    api.Event
		want string
	}{
		{aPut(), "\x02\x01\x03\xac\x02\x01\x02\x15\x04" + "\x01\x09\x90\x03\x02\x01\x01\x02\x01\x02\x02\x02\x07" + "\x03sid\x09shop.test\x02/a\x0431d4\x78\x05\x06"},
		{aRemove(), "\x02\x01\x03\xac\x02\x01\x02\x00\x01" + "\x02\x01\x02"},
		{but(over(aPut()), func(e *api.Event) {
			e.Cookie = api.Cookie{HostOnly: true, Expiry: lastTime, Creation: 300, Access: lastTime}
		}), "\x02\x01\x03\xac\x02\x01\x02\x03\x00" + "\x03sid\x09shop.test\x02/a\x00\x80\x80\x80\x80\x80\x40\xac\x02\x80\x80\x80\x80\x80\x20"},
		{but(over(aPut()), func(e *api.Event) {
			e.Cookie = api.Cookie{Value: "=", HttpOnly: true, Persistent: true, Expiry: -1}
		}), "\x02\x01\x03\xac\x02\x01\x02\x19\x00" + "\x03sid\x09shop.test\x02/a\x01=\x01\x00\x00"},
	} {
		b, e := event.Bytes(c.e)
		if string(b) != c.want || e != api.OK {
			t.Errorf("Bytes(%v): %q, %v, not %q", c.e, b, e, c.want)
		}
		holdRight(t, c.e, true)
		holdRead(t, fmt.Sprintf("of %q", c.want), []byte(c.want), c.e, 0, api.OK)
	}
}

func TestP20_2Example(t *testing.T) {
	b, e := event.Bytes(over(aRemove()))
	if event.Right(over(aRemove())) || b != nil || e != api.ErrForm {
		t.Errorf("a Remove over nothing: %x, %v", b, e)
	}
	// Packed all the same it is none.
	holdFails(t, packed(parts(over(aRemove()))...), 0, api.ErrForm)
}

func TestP20_2BytesAreNew(t *testing.T) {
	for _, e := range someEvents() {
		was := fmt.Sprint(e)
		b, _ := event.Bytes(e)
		want := slices.Clone(b)
		for i := range b {
			b[i] ^= 0xff
		}
		if c, f := event.Bytes(e); !bytes.Equal(c, want) || f != api.OK || fmt.Sprint(e) != was {
			t.Errorf("Bytes(%v) again: %x, %v", e, c, f)
		}
	}
}

func TestP20_2NilAndZeroOnes(t *testing.T) {
	for _, e := range append(someEvents(), api.Event{}) {
		// A nil writer takes nothing, and nothing comes of it.
		event.Put(nil, e)
	}
	holdGet(t, "Get of nil", nil, api.Event{}, 0, api.ErrNil)
	holdGet(t, "Get of a zero reader", &pack.Reader{}, api.Event{}, 0, api.ErrShort)
	holdFails(t, nil, 0, api.ErrShort)
	holdFails(t, []byte{}, 0, api.ErrShort)
}

func TestP20_2Get(t *testing.T) {
	for _, e := range someEvents() {
		b := packed(parts(e)...)
		holdRead(t, fmt.Sprintf("of %v", e), b, e, 0, api.OK)
		r := pack.Read(slices.Concat(b, packed(300)))
		holdGet(t, fmt.Sprintf("Get of %v", e), r, e, 2, api.OK)
		if n := r.Num(300); n != 300 || r.End() != api.OK {
			t.Errorf("Get of %v: behind it %d, %v", e, n, r.End())
		}
	}
}

func TestP20_2ReadOfMoreBytes(t *testing.T) {
	for _, e := range someEvents() {
		b := packed(parts(e)...)
		for _, more := range [][]byte{{0}, {1}, {0x80}, {0xff, 0xff}, b} {
			if x, f := event.Read(slices.Concat(b, more)); !alike(x, api.Event{}) || f != api.ErrForm {
				t.Errorf("Read of %x and %x: %v, %v", b, more, x, f)
			}
		}
	}
}

func TestP20_2GetOfBytesThatAreCutOff(t *testing.T) {
	for _, e := range append(someEvents(), over(aPut()), but(aPut(), func(e *api.Event) { e.Cookie.Value = strings.Repeat("v", 130) })) {
		b := packed(parts(e)...)
		for cut := range b {
			// What is left is what is behind the last part that was whole.
			left := cut
			for _, x := range parts(e) {
				if size := len(packed(x)); size <= left {
					left -= size
				} else {
					break
				}
			}
			holdFails(t, b[:cut:cut], left, api.ErrShort)
		}
	}
}

// spoil answers what an event is packed as, but for the part with that index, which is another one; and how many bytes are left from there on.
func spoil(e api.Event, index int, x []byte) ([]byte, int) {
	l := parts(e)
	behind := slices.Concat(x, packed(l[index+1:]...))
	return slices.Concat(packed(l[:index]...), behind), len(behind)
}

// atParts are how many parts of an event are ahead of the named ones; an event is over one dot here, and a Put.
const (
	atDev = iota
	atInc
	atSeq
	atWall
	atCount
	atStampDev
	atFlags
	atMany
	atOverDev
	atOverInc
	atOverSeq
	atName
	atDomain
	atPath
	atValue
	atExpiry
	atCreation
	atAccess
)

func TestP20_2GetOfTooMuch(t *testing.T) {
	e := over(aPut(), at(1, 9, 400))
	for _, c := range []struct {
		index int
		x     any
	}{
		{atDev, lastDev + 1},
		{atInc, lastInc + 1},
		{atSeq, lastSeq + 1},
		{atWall, lastWall + 1},
		{atCount, lastCount + 1},
		{atStampDev, lastDev + 1},
		{atMany, mostOver + 1},
		{atMany, math.MaxInt},
		{atOverDev, lastDev + 1},
		{atOverInc, lastInc + 1},
		{atOverSeq, lastSeq + 1},
		{atName, strings.Repeat("n", mostName+1)},
		{atDomain, strings.Repeat("n", mostName+1)},
		{atPath, "/" + strings.Repeat("p", mostName)},
		{atValue, strings.Repeat("v", mostValue+1)},
		{atExpiry, int64(lastTime + 1)},
		{atExpiry, int64(-lastTime - 1)},
		{atExpiry, int64(math.MinInt64)},
		{atExpiry, int64(math.MaxInt64)},
		{atCreation, lastTime + 1},
		{atAccess, lastTime + 1},
		{atAccess, -1},
	} {
		b, left := spoil(e, c.index, packed(c.x))
		holdFails(t, b, left, api.ErrLong)
		// Too much comes ahead of too short, and of what is more.
		holdFails(t, b[:len(b)-left+len(packed(c.x))], len(packed(c.x)), api.ErrLong)
		holdFails(t, append(b, 0), left+1, api.ErrLong)
	}
	// Of texts the length is asked ahead of their bytes.
	for _, index := range []int{atName, atDomain, atPath, atValue} {
		for _, n := range []int{mostValue + 1, math.MaxInt, -1} {
			b, left := spoil(e, index, packed(n))
			holdFails(t, b, left, api.ErrLong)
		}
	}
}

func TestP20_2GetOfWhatMayBeAsked(t *testing.T) {
	// What is asked for may be read in itself; only behind it it is told that it may not be.
	e := over(aPut(), at(1, 9, 400))
	for _, c := range []struct {
		index int
		x     any
	}{
		{atStampDev, lastDev},
		{atStampDev, 1},
		{atName, strings.Repeat("=", mostName)},
		{atName, ""},
		{atDomain, strings.Repeat("d", mostName)},
		{atDomain, ""},
		{atPath, strings.Repeat("p", mostName)},
		{atPath, ""},
		{atValue, strings.Repeat(" ", mostValue)},
		{atValue, ";"},
	} {
		b, _ := spoil(e, c.index, packed(c.x))
		holdFails(t, b, 0, api.ErrForm)
		holdFails(t, append(b, 7, 7), 2, api.ErrForm)
		// An error of the reader's comes ahead of what may not be.
		holdFails(t, b[:len(b)-1], 0, api.ErrShort)
	}
}

func TestP20_2GetOfZeroes(t *testing.T) {
	e := over(aPut(), at(1, 9, 400))
	for _, index := range []int{atInc, atSeq, atOverInc, atOverSeq} {
		b, left := spoil(e, index, packed(0))
		// A dot is told to be none once it is read.
		behind := left - len(packed(0))
		if index == atInc || index == atOverInc {
			behind -= len(packed(parts(e)[index+1]))
		}
		holdFails(t, b, behind, api.ErrRange)
		// It comes ahead of what is behind, be that too short, too long, or too much.
		holdFails(t, b[:len(b)-behind], 0, api.ErrRange)
		holdFails(t, append(b[:len(b)-behind:len(b)-behind], bytes.Repeat([]byte{0xff}, 9)...), 9, api.ErrRange)
	}
	// These may be 0, but that device's stamp is another one's.
	for _, index := range []int{atWall, atCount, atOverDev, atCreation, atAccess} {
		b, _ := spoil(e, index, packed(0))
		if _, f := holdScanned(t, b); f != api.OK {
			t.Errorf("0 at part %d: %v", index, f)
		}
	}
	b, _ := spoil(e, atDev, packed(0))
	holdFails(t, b, 0, api.ErrForm)
}

func TestP20_2GetOfNumbersThatAreNone(t *testing.T) {
	e := over(aPut(), at(1, 9, 400))
	for index := range parts(e) {
		if index == atFlags {
			continue
		}
		b, left := spoil(e, index, []byte{0x80, 0})
		holdFails(t, b, left, api.ErrForm)
		b, left = spoil(e, index, bytes.Repeat([]byte{0x80}, 20))
		holdFails(t, b, left, api.ErrForm)
		b, _ = spoil(e, index, []byte{0x80})
		holdFails(t, b[:len(packed(parts(e)[:index]...))+1], 1, api.ErrShort)
	}
}

func TestP20_2GetOfFlags(t *testing.T) {
	for x := range 256 {
		e := but(aPut(), func(e *api.Event) { e.Cookie.Expiry = lastTime })
		b, left := spoil(e, atFlags, []byte{byte(x)})
		switch {
		case x > 31:
			holdFails(t, b, left, api.ErrForm)
			holdFails(t, b[:len(b)-left+1], 1, api.ErrForm)
		case x%2 == 1:
			e.Cookie.HostOnly, e.Cookie.Secure, e.Cookie.HttpOnly, e.Cookie.Persistent = x/2%2 == 1, x/4%2 == 1, x/8%2 == 1, x/16 == 1
			holdRead(t, fmt.Sprintf("flags %d", x), b, e, 0, api.OK)
		case x == 0:
			// Without a flag it is a Remove, which ends ahead of the item.
			e.Kind, e.Key, e.Cookie = 2, api.Key{}, api.Cookie{}
			holdRead(t, "no flag", b, e, len(b)-len(packed(parts(e)...)), api.OK)
		default:
			holdScanned(t, b)
		}
	}
}

func TestP20_2GetOfARemoveWithFlags(t *testing.T) {
	// The kind's flag is not set, but one of the cookie's is: a Remove has none.
	for x := byte(2); x < 32; x += 2 {
		b, _ := spoil(aRemove(), atFlags, []byte{x})
		holdFails(t, b, 0, api.ErrForm)
		holdFails(t, append(b, 5), 1, api.ErrForm)
	}
}

func TestP20_2GetOfWrongOver(t *testing.T) {
	for _, c := range []struct {
		l []api.Dot
		e api.Errno
	}{
		{dots(3, 1, 64), api.OK},
		{[]api.Dot{at(1, 1, lastSeq), at(2, 1, 2), at(2, 2, lastSeq)}, api.OK},
		{[]api.Dot{at(2, 1, 3)}, api.ErrForm},
		{[]api.Dot{at(2, 1, 4)}, api.ErrForm},
		{[]api.Dot{at(1, 1, 1), at(1, 1, 1)}, api.ErrForm},
		{[]api.Dot{at(1, 1, 2), at(1, 1, 1)}, api.ErrForm},
		{[]api.Dot{at(3, 1, 1), at(1, 1, 1)}, api.ErrForm},
	} {
		for _, e := range []api.Event{aPut(), aRemove()} {
			e.Over = c.l
			b := packed(parts(e)...)
			want := e
			if c.e != api.OK {
				want = api.Event{}
			}
			holdRead(t, fmt.Sprintf("over %v", c.l), b, want, 0, c.e)
		}
	}
	for _, e := range []api.Event{aPut(), aRemove()} {
		b := packed(parts(over(e, dots(3, 1, 65)...))...)
		holdFails(t, b, len(b)-len(packed(parts(e)[:atMany]...)), api.ErrLong)
	}
}

func TestP20_2GetOfAReaderThatErred(t *testing.T) {
	for _, e := range someEvents() {
		b := packed(parts(e)...)
		r := pack.Read(b)
		r.Fail(api.ErrPeer)
		holdGet(t, "Get of a reader that erred", r, api.Event{}, len(b), api.ErrPeer)
		// Behind an error of the reader's nothing is told of what is left over.
		r = pack.Read(append([]byte{0x80, 0}, b...))
		r.Num(1)
		holdGet(t, "Get behind an error", r, api.Event{}, len(b)+2, api.ErrForm)
	}
}

func TestP20_2GetOfEachByteChanged(t *testing.T) {
	errors := map[api.Errno]int{}
	for _, e := range []api.Event{aPut(), aRemove(), someEvents()[2], over(aRemove(), dots(1, 1, 3)...), but(aPut(), func(e *api.Event) { e.Cookie.Persistent, e.Cookie.Expiry = false, lastTime })} {
		b := packed(parts(e)...)
		for i := range b {
			for x := range 256 {
				c := slices.Clone(b)
				c[i] = byte(x)
				_, f := holdScanned(t, c)
				errors[f]++
			}
		}
	}
	for _, e := range []api.Errno{api.OK, api.ErrForm, api.ErrShort, api.ErrLong, api.ErrRange} {
		if errors[e] == 0 {
			t.Errorf("no bytes came to %v", e)
		}
	}
}

func TestP20_2GetOfDrawnBytes(t *testing.T) {
	r := rand.New(rand.NewSource(202))
	right := 0
	for range 30000 {
		e := drawn(r)
		if r.Intn(2) == 0 {
			e = changed(r, e)
		}
		// What may not be is packed here all the same; numbers below 0 as too great ones.
		b := packed(parts(e)...)
		for range r.Intn(3) {
			switch i := r.Intn(len(b)); r.Intn(4) {
			case 0:
				b[i] ^= byte(1 << r.Intn(8))
			case 1:
				b = b[:i+1]
			case 2:
				b = slices.Insert(b, i, byte(r.Intn(256)))
			case 3:
				b = append(b, byte(r.Intn(256)))
			}
		}
		x, f := holdScanned(t, b)
		if f == api.OK {
			right++
			// What is got has these bytes.
			if again, _ := event.Bytes(x); !bytes.HasPrefix(b, again) {
				t.Errorf("%x is got as %v, whose bytes are %x", b, x, again)
			}
		}
		if t.Failed() {
			return
		}
	}
	if right < 5000 || right > 25000 {
		t.Errorf("%d were right", right)
	}
}

func TestP20_2WhatIsGotIsNew(t *testing.T) {
	for _, e := range someEvents() {
		b := packed(parts(e)...)
		was := slices.Clone(b)
		x, _ := event.Read(b)
		y := event.Get(pack.Read(b))
		if !bytes.Equal(b, was) {
			t.Errorf("%x became %x", was, b)
		}
		clear(b)
		if !alike(x, e) || !alike(y, e) {
			t.Errorf("%v became %v, %v", e, x, y)
		}
		clear(x.Over)
		if !alike(y, e) {
			t.Errorf("%v became %v", e, y)
		}
	}
}

func TestP20_2WhatIsHandedInStays(t *testing.T) {
	for _, n := range []int{0, 1, 5} {
		room := dots(1, 1, 9)
		for _, e := range []api.Event{over(aPut(), room[:n]...), over(aRemove(), room[:n]...)} {
			event.Right(e)
			event.Put(&pack.Writer{}, e)
			event.Bytes(e)
			event.Same(e, e)
			event.Item(e)
			event.Clone(e)
			if !slices.Equal(room, dots(1, 1, 9)) {
				t.Errorf("%d dots became %v", n, room)
			}
		}
	}
	b := packed(parts(aPut())...)
	room := append(slices.Clone(b), 9, 9, 9)
	event.Read(room[:len(b)])
	if !bytes.Equal(room, append(b, 9, 9, 9)) {
		t.Errorf("%x became %x", b, room)
	}
}

func TestP20_3WhatWasPutIsGot(t *testing.T) {
	r := rand.New(rand.NewSource(203))
	for range 3000 {
		var l []api.Event
		w := &pack.Writer{}
		for range 1 + r.Intn(6) {
			e := drawn(r)
			if r.Intn(4) == 0 {
				// One that may not be is packed as nothing.
				if e = changed(r, e); !mayBe(e) {
					event.Put(w, e)
					continue
				}
			}
			event.Put(w, e)
			l = append(l, e)
		}
		d := pack.Read(w.Bytes())
		for _, e := range l {
			if x := event.Get(d); !event.Same(x, e) || !alike(x, e) {
				t.Fatalf("%v is got as %v, %v", e, x, d.Err())
			}
		}
		if d.End() != api.OK || d.Left() != 0 {
			t.Fatalf("of %v: %v, %d left", l, d.End(), d.Left())
		}
		for _, e := range l {
			b, _ := event.Bytes(e)
			if x, f := event.Read(b); !event.Same(x, e) || f != api.OK {
				t.Fatalf("%v is read as %v, %v", e, x, f)
			}
		}
	}
}

func TestP20_3UnlikeEventsHaveUnlikeBytes(t *testing.T) {
	r := rand.New(rand.NewSource(2033))
	of := map[string]api.Event{}
	var all []api.Event
	for _, e := range append(someEvents(), drawn(r), drawn(r), drawn(r), drawn(r)) {
		all = append(append(all, e), changes(e)...)
	}
	for range 20000 {
		all = append(all, drawn(r))
	}
	unlike := 0
	for _, e := range all {
		b, f := event.Bytes(e)
		if f != api.OK {
			continue
		}
		if x, is := of[string(b)]; is && !event.Same(x, e) {
			t.Fatalf("%x are the bytes of %v and of %v", b, x, e)
		} else if !is {
			unlike++
		}
		of[string(b)] = e
	}
	if unlike < 15000 {
		t.Errorf("only %d unlike ones", unlike)
	}
}
