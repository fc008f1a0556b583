package frame_test

import (
	"bytes"
	"encoding/binary"
	"hash/crc32"
	"math"
	"testing"

	"biscotti/api"
	"biscotti/frame"
)

// framed tells the body's frame by the chapter's words, without the lower layers.
func framed(body []byte) []byte {
	b := binary.AppendUvarint(nil, uint64(len(body)))
	b = append(b, body...)
	return binary.LittleEndian.AppendUint32(b, crc32.ChecksumIEEE(body))
}

// mixed are so many bytes without an order that is easily seen, other ones for each seed.
func mixed(length int, seed uint32) []byte {
	b := make([]byte, length)
	for i := range b {
		seed = seed*1664525 + 1013904223
		b[i] = byte(seed >> 24)
	}
	return b
}

// lengths are those at which the length's bytes become more, and the least and the greatest that a body may have.
func lengths() []int {
	return []int{0, 1, 2, 3, 4, 5, 100, 126, 127, 128, 129, 1000, 16382, 16383, 16384, 16385, 65536, api.MaxFrame - 1, api.MaxFrame}
}

// bodies are such of many lengths, among them some that look like frames.
func bodies() [][]byte {
	l := [][]byte{nil, {}, {0}, {255}, []byte("123456789"), make([]byte, 64), framed(nil), framed([]byte("within"))}
	for i, n := range lengths() {
		l = append(l, mixed(n, uint32(i)))
	}
	return l
}

// behinds are what may stand behind a frame.
func behinds() [][]byte {
	return [][]byte{nil, {0}, {7}, {128}, {255, 255}, framed(nil), framed([]byte("next"))}
}

// put tells the frame of a body that may have one.
func put(t *testing.T, body []byte) []byte {
	t.Helper()
	b, e := frame.Put(nil, body)
	if e != api.OK {
		t.Fatalf("Put of %d bytes: %v", len(body), e)
	}
	return b
}

// checkGet holds Get and One of b, which may not be changed, against what they should answer.
func checkGet(t *testing.T, b, body []byte, size int, e api.Errno) {
	t.Helper()
	before := bytes.Clone(b)
	gotBody, gotSize, gotE := frame.Get(b)
	if !bytes.Equal(gotBody, body) || gotSize != size || gotE != e {
		t.Errorf("Get of %d bytes %.20x: %d bytes %.20x, %d, %v; not %d bytes %.20x, %d, %v", len(b), b, len(gotBody), gotBody, gotSize, gotE, len(body), body, size, e)
	}
	if e == api.OK && size < len(b) {
		body, e = nil, api.ErrForm
	}
	gotBody, gotE = frame.One(b)
	if !bytes.Equal(gotBody, body) || gotE != e {
		t.Errorf("One of %d bytes %.20x: %d bytes %.20x, %v; not %d bytes %.20x, %v", len(b), b, len(gotBody), gotBody, gotE, len(body), body, e)
	}
	if !bytes.Equal(b, before) {
		t.Errorf("changed %.20x to %.20x", before, b)
	}
}

// checkScan holds Scan of b, which may not be changed, against what it should answer.
func checkScan(t *testing.T, b []byte, bodies [][]byte, size int) {
	t.Helper()
	before := bytes.Clone(b)
	got, gotSize := frame.Scan(b)
	if len(got) != len(bodies) || gotSize != size {
		t.Errorf("Scan of %d bytes %.20x: %d frames of %d bytes, not %d of %d", len(b), b, len(got), gotSize, len(bodies), size)
		return
	}
	for i := range got {
		if !bytes.Equal(got[i], bodies[i]) {
			t.Errorf("Scan of %d bytes %.20x: body %d is %.20x, not %.20x", len(b), b, i, got[i], bodies[i])
		}
	}
	if !bytes.Equal(b, before) {
		t.Errorf("changed %.20x to %.20x", before, b)
	}
}

func TestP4_1Put(t *testing.T) {
	cases := []struct {
		body string
		want string
	}{
		{"", "\x00\x00\x00\x00\x00"},
		{"123456789", "\x09123456789\x26\x39\xf4\xcb"},
		{"a", "\x01a\x43\xbe\xb7\xe8"},
		{"\x00", "\x01\x00\x8d\xef\x02\xd2"},
		{"\xff\xff\xff\xff", "\x04\xff\xff\xff\xff\xff\xff\xff\xff"},
	}
	for _, c := range cases {
		if got := put(t, []byte(c.body)); string(got) != c.want {
			t.Errorf("Put(nil, %q): %x, not %x", c.body, got, c.want)
		}
	}
	for _, body := range bodies() {
		for _, ahead := range [][]byte{nil, {}, {7}, {128}, framed(nil), mixed(1000, 3)} {
			want := append(bytes.Clone(ahead), framed(body)...)
			if got, e := frame.Put(ahead, body); !bytes.Equal(got, want) || e != api.OK {
				t.Errorf("Put of %d bytes behind %d: %d bytes, %v, not %d bytes", len(body), len(ahead), len(got), e, len(want))
			}
		}
	}
}

func TestP4_1PutOfTooManyBytes(t *testing.T) {
	for _, length := range []int{api.MaxFrame + 1, api.MaxFrame + 2, 2 * api.MaxFrame, 1 << 24} {
		for _, ahead := range [][]byte{nil, {}, {1, 2, 3}} {
			if b, e := frame.Put(ahead, make([]byte, length)); len(b) != 0 || e != api.ErrLong {
				t.Errorf("Put of %d bytes: %d bytes, %v", length, len(b), e)
			}
		}
	}
	// What stands ahead is no part of the body, and may be longer than a frame.
	ahead := mixed(2*api.MaxFrame, 1)
	if b, e := frame.Put(ahead, []byte("x")); !bytes.Equal(b, append(bytes.Clone(ahead), framed([]byte("x"))...)) || e != api.OK {
		t.Errorf("Put behind %d bytes: %d bytes, %v", len(ahead), len(b), e)
	}
}

func TestP4_1PutAnswersANewList(t *testing.T) {
	const length = 64
	room := bytes.Repeat([]byte{42}, length)
	bodyRoom := bytes.Repeat([]byte{43}, length)
	first, _ := frame.Put(room[:3], bodyRoom[:5])
	second, _ := frame.Put(room[:3], bodyRoom[:5])
	if !bytes.Equal(room, bytes.Repeat([]byte{42}, length)) || !bytes.Equal(bodyRoom, bytes.Repeat([]byte{43}, length)) {
		t.Errorf("changed what was handed in, or the room behind it: %v %v", room, bodyRoom)
	}
	want := bytes.Clone(first)
	clear(room)
	clear(bodyRoom)
	clear(second)
	if !bytes.Equal(first, want) {
		t.Errorf("the answer changed with what was handed in, or with another answer: %v", first)
	}
	for i := range first[:cap(first)] {
		first[:cap(first)][i] = 1
	}
	if !bytes.Equal(room, make([]byte, length)) || !bytes.Equal(bodyRoom, make([]byte, length)) || !bytes.Equal(second, make([]byte, len(second))) {
		t.Error("the answer shares memory with what was handed in, or with another answer")
	}
}

func TestP4_1Size(t *testing.T) {
	for _, n := range lengths() {
		if got, want := frame.Size(n), len(framed(make([]byte, n))); got != want {
			t.Errorf("Size(%d): %d, not %d", n, got, want)
		}
	}
	for n := range 40000 {
		if got, want := frame.Size(n), n+4+len(binary.AppendUvarint(nil, uint64(n))); got != want {
			t.Errorf("Size(%d): %d, not %d", n, got, want)
		}
	}
}

func TestP4_1SizeOfANumberThatMayNotBe(t *testing.T) {
	for _, n := range []int{math.MinInt, math.MinInt + 1, math.MinInt32, -api.MaxFrame, -128, -5, -4, -1, api.MaxFrame + 1, api.MaxFrame + 2, 1 << 21, math.MaxInt32, math.MaxInt - 4, math.MaxInt} {
		if got := frame.Size(n); got != 0 {
			t.Errorf("Size(%d): %d", n, got)
		}
	}
}

func TestP4_2Get(t *testing.T) {
	checkGet(t, []byte("\x09123456789\x26\x39\xf4\xcb"), []byte("123456789"), 14, api.OK)
	checkGet(t, []byte{0, 0, 0, 0, 0}, nil, 5, api.OK)
	for _, body := range bodies() {
		for _, behind := range behinds() {
			b := framed(body)
			checkGet(t, append(b, behind...), body, len(b), api.OK)
		}
	}
}

func TestP4_2GetOfNoLength(t *testing.T) {
	for _, b := range [][]byte{nil, {}, {128}, {255}, {255, 255, 255}, bytes.Repeat([]byte{128}, 9)} {
		checkGet(t, b, nil, 0, api.ErrShort)
	}
	tooMany := append(bytes.Repeat([]byte{255}, 9), 2)
	for _, b := range [][]byte{{128, 0}, {129, 0}, {255, 128, 0}, bytes.Repeat([]byte{128}, 10), tooMany} {
		for _, behind := range behinds() {
			checkGet(t, append(bytes.Clone(b), behind...), nil, 0, api.ErrForm)
		}
	}
	// The length 0 in two bytes, and all else as it should be.
	checkGet(t, []byte{128, 0, 0, 0, 0, 0}, nil, 0, api.ErrForm)
}

func TestP4_2GetOfTooGreatALength(t *testing.T) {
	for _, n := range []uint64{api.MaxFrame + 1, api.MaxFrame + 2, 1 << 21, 1 << 31, 1<<32 + 1, 1 << 63, math.MaxUint64 - 4, math.MaxUint64} {
		b := binary.AppendUvarint(nil, n)
		// It is too long, rather than short, or of another sum.
		checkGet(t, b, nil, 0, api.ErrLong)
		checkGet(t, append(b, make([]byte, 100)...), nil, 0, api.ErrLong)
	}
	body := mixed(api.MaxFrame+1, 2)
	checkGet(t, framed(body), nil, 0, api.ErrLong)
	checkScan(t, framed(body), nil, 0)
	// The greatest length that may be is short.
	checkGet(t, binary.AppendUvarint(nil, api.MaxFrame), nil, 0, api.ErrShort)
}

func TestP4_2GetOfAFrameThatIsCutOff(t *testing.T) {
	for _, body := range [][]byte{nil, {0}, []byte("123456789"), mixed(127, 4), mixed(128, 5), mixed(300, 6)} {
		b := framed(body)
		for length := range b {
			checkGet(t, b[:length], nil, 0, api.ErrShort)
			checkGet(t, bytes.Clone(b[:length]), nil, 0, api.ErrShort)
		}
	}
	b := framed(mixed(api.MaxFrame, 7))
	checkGet(t, b[:len(b)-1], nil, 0, api.ErrShort)
	// It is short, rather than of another sum.
	b[5] ^= 1
	checkGet(t, b[:len(b)-1], nil, 0, api.ErrShort)
}

func TestP4_2GetOfAnotherSum(t *testing.T) {
	for _, body := range [][]byte{nil, {0}, []byte("123456789"), mixed(128, 8), mixed(api.MaxFrame, 9)} {
		for i := range 4 {
			for _, by := range []byte{1, 128, 255} {
				b := framed(body)
				b[len(b)-4+i] ^= by
				checkGet(t, b, nil, 0, api.ErrSum)
				checkGet(t, append(b, 7), nil, 0, api.ErrSum)
				checkScan(t, b, nil, 0)
			}
		}
	}
	// The sum's bytes, the highest first.
	checkGet(t, []byte("\x09123456789\xcb\xf4\x39\x26"), nil, 0, api.ErrSum)
}

func TestP4_2OneOfMoreThanAFrame(t *testing.T) {
	for _, body := range [][]byte{nil, {0}, []byte("123456789"), mixed(128, 10), mixed(api.MaxFrame, 11)} {
		for _, behind := range behinds() {
			want := api.ErrForm
			if len(behind) == 0 {
				want = api.OK
			}
			got, e := frame.One(append(framed(body), behind...))
			if e != want || e == api.OK && !bytes.Equal(got, body) || e != api.OK && len(got) != 0 {
				t.Errorf("One of a frame of %d bytes with %.20x behind it: %d bytes, %v", len(body), behind, len(got), e)
			}
		}
	}
	// What lies in the room behind the end does not stand there.
	room := append(framed([]byte("123456789")), 1, 2, 3)
	if got, e := frame.One(room[:len(room)-3]); string(got) != "123456789" || e != api.OK {
		t.Errorf("%q %v", got, e)
	}
}

func TestP4_2AnswersAreNewLists(t *testing.T) {
	b := framed([]byte("123456789"))
	got, _, _ := frame.Get(b)
	one, _ := frame.One(b)
	before := bytes.Clone(b)
	for _, l := range [][]byte{got, one} {
		for i := range l[:cap(l)] {
			l[:cap(l)][i] = 'x'
		}
	}
	if !bytes.Equal(b, before) {
		t.Errorf("an answer lies in what was handed in: %q", b)
	}
	got, _, _ = frame.Get(b)
	one, _ = frame.One(b)
	clear(b)
	if string(got) != "123456789" || string(one) != "123456789" {
		t.Errorf("an answer changed with what was handed in: %q %q", got, one)
	}
}

func TestP4_3Scan(t *testing.T) {
	checkScan(t, nil, nil, 0)
	checkScan(t, []byte{}, nil, 0)
	checkScan(t, []byte{7}, nil, 0)
	checkScan(t, make([]byte, 5), [][]byte{{}}, 5)
	checkScan(t, make([]byte, 14), [][]byte{{}, {}}, 10)
	checkScan(t, make([]byte, 15), [][]byte{{}, {}, {}}, 15)
	var b []byte
	l := bodies()
	for i, body := range l {
		checkScan(t, b, l[:i], len(b))
		b = append(b, framed(body)...)
	}
	checkScan(t, b, l, len(b))
}

func TestP4_3ScanOfManyFrames(t *testing.T) {
	var b []byte
	var l [][]byte
	for i := range 5000 {
		l = append(l, mixed(i%200, uint32(i)))
		b = append(b, framed(l[i])...)
	}
	checkScan(t, b, l, len(b))
	checkScan(t, append(b, 128), l, len(b))
}

func TestP4_3ScanEndsAtTheFirstThatIsNoFrame(t *testing.T) {
	whole := append(framed([]byte("first")), framed(nil)...)
	l := [][]byte{[]byte("first"), {}}
	spoilt := framed([]byte("third"))
	spoilt[2] ^= 4
	tooGreat := binary.AppendUvarint(nil, api.MaxFrame+1)
	for _, b := range [][]byte{spoilt, tooGreat, {128, 0}, {128}, {1}, {0, 0, 0, 0}, {0, 0, 0, 0, 1}, {5, 'a'}} {
		checkScan(t, append(bytes.Clone(whole), b...), l, len(whole))
		// Frames behind it are none of those at the beginning.
		more := append(bytes.Clone(whole), b...)
		more = append(more, bytes.Repeat(framed([]byte("x")), 3)...)
		got, size := frame.Scan(more)
		if _, _, e := frame.Get(more[len(whole):]); e != api.OK && (len(got) != 2 || size != len(whole)) {
			t.Errorf("behind two frames %x, and then frames: %d frames of %d bytes", b, len(got), size)
		}
	}
	checkScan(t, append(spoilt, whole...), nil, 0)
}

func TestP4_3ScanAnswersNewLists(t *testing.T) {
	b := append(framed([]byte("first")), framed([]byte("second"))...)
	before := bytes.Clone(b)
	l, _ := frame.Scan(b)
	if len(l) != 2 {
		t.Fatalf("%q", l)
	}
	for i := range l[0][:cap(l[0])] {
		l[0][:cap(l[0])][i] = 'x'
	}
	if string(l[1]) != "second" || !bytes.Equal(b, before) {
		t.Errorf("the bodies share memory: %q %q", l[1], b)
	}
	clear(b)
	if string(l[1]) != "second" {
		t.Errorf("a body changed with what was handed in: %q", l[1])
	}
}

func TestP4_4WhatWasPutIsGot(t *testing.T) {
	var b []byte
	for _, body := range bodies() {
		one := put(t, body)
		checkGet(t, one, body, len(one), api.OK)
		if len(one) != frame.Size(len(body)) {
			t.Errorf("a body of %d bytes: a frame of %d, Size tells %d", len(body), len(one), frame.Size(len(body)))
		}
		at := len(b)
		b, _ = frame.Put(b, body)
		checkGet(t, b[at:], body, len(one), api.OK)
	}
	checkScan(t, b, bodies(), len(b))
}

func TestP4_5AFrameOfWhichOneByteIsAnotherOneIsNoFrame(t *testing.T) {
	for _, body := range [][]byte{nil, {0}, {5}, []byte("123456789"), make([]byte, 50), framed(nil), framed(framed(nil)), mixed(126, 1), mixed(127, 2), mixed(128, 3), mixed(140, 4)} {
		b := put(t, body)
		for at := range b {
			was := b[at]
			for x := range 256 {
				b[at] = byte(x)
				got, e := frame.One(b)
				if (e == api.OK) != (b[at] == was) || e != api.OK && len(got) != 0 {
					t.Errorf("the frame of %d bytes %.20x with byte %d %d instead of %d: %x, %v", len(body), body, at, x, was, got, e)
				}
			}
			b[at] = was
		}
	}
}

func TestP4_5AByteOfALongFrame(t *testing.T) {
	for _, length := range []int{16383, 16384, 65536, api.MaxFrame} {
		b := put(t, mixed(length, uint32(length)))
		for _, at := range []int{0, 1, 2, 3, 4, length / 2, length, length + 1, len(b) - 5, len(b) - 4, len(b) - 3, len(b) - 2, len(b) - 1} {
			for _, by := range []byte{1, 64, 128, 255} {
				b[at] ^= by
				if got, e := frame.One(b); e == api.OK || len(got) != 0 {
					t.Errorf("the frame of %d bytes with byte %d changed by %d: %d bytes, %v", length, at, by, len(got), e)
				}
				b[at] ^= by
			}
		}
	}
}

func TestP4_6ScanOfFramesThatAreCutOff(t *testing.T) {
	l := [][]byte{[]byte("first"), nil, mixed(130, 1), framed(nil), make([]byte, 9), []byte("last")}
	var b []byte
	var ends []int
	for _, body := range l {
		b, _ = frame.Put(b, body)
		ends = append(ends, len(b))
	}
	for length := range len(b) + 1 {
		whole, size := 0, 0
		for i, end := range ends {
			if end <= length {
				whole, size = i+1, end
			}
		}
		checkScan(t, b[:length], l[:whole], size)
		checkScan(t, bytes.Clone(b[:length]), l[:whole], size)
	}
}
