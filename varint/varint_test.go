package varint_test

import (
	"bytes"
	"math"
	mathbits "math/bits"
	"testing"

	"biscotti/api"
	"biscotti/varint"
)

// numbers are spread over all sizes, with both neighbours of each power of two.
func numbers() []uint64 {
	l := []uint64{0, 300, 0x0102030405060708, 0xfedcba9876543210, 0xaaaaaaaaaaaaaaaa, 0x5555555555555555}
	for i := range 64 {
		p := uint64(1) << i
		l = append(l, p-1, p, p+1)
	}
	return append(l, math.MaxUint64-1, math.MaxUint64)
}

// short tells n's short bytes by the chapter's words, with neither shifts nor the package's own calls.
func short(n uint64) []byte {
	b := []byte{byte(n % 128)}
	for n /= 128; n != 0; n /= 128 {
		b[len(b)-1] += 128
		b = append(b, byte(n%128))
	}
	return b
}

// folded tells 0, 1, 2, 3, 4 .. of 0, -1, 1, -2, 2 ...
func folded(n int64) uint64 {
	if n < 0 {
		return 2*uint64(-(n+1)) + 1
	}
	return 2 * uint64(n)
}

// wholes are whole numbers of all sizes, on both sides of 0.
func wholes() []int64 {
	var l []int64
	for _, n := range numbers() {
		l = append(l, int64(n), -int64(n))
	}
	return append(l, math.MinInt64, math.MinInt64+1, math.MaxInt64-1, math.MaxInt64)
}

// endless are so many bytes of which each says that another one follows.
func endless(x byte, length int) []byte {
	return bytes.Repeat([]byte{x | 0x80}, length)
}

func TestP2_1Put(t *testing.T) {
	cases := []struct {
		n    uint64
		want []byte
	}{
		{0, []byte{0}},
		{1, []byte{1}},
		{127, []byte{127}},
		{128, []byte{128, 1}},
		{300, []byte{172, 2}},
		{16383, []byte{255, 127}},
		{16384, []byte{128, 128, 1}},
		{1<<63 - 1, []byte{255, 255, 255, 255, 255, 255, 255, 255, 127}},
		{1 << 63, []byte{128, 128, 128, 128, 128, 128, 128, 128, 128, 1}},
		{math.MaxUint64, []byte{255, 255, 255, 255, 255, 255, 255, 255, 255, 1}},
	}
	for _, c := range cases {
		if got := varint.Put(nil, c.n); !bytes.Equal(got, c.want) {
			t.Errorf("Put(nil, %d): %v, not %v", c.n, got, c.want)
		}
	}
	for _, n := range numbers() {
		for _, ahead := range [][]byte{nil, {}, {7}, {128}, {255, 0, 255}, bytes.Repeat([]byte{9}, 1000)} {
			got := varint.Put(ahead, n)
			if want := append(bytes.Clone(ahead), short(n)...); !bytes.Equal(got, want) {
				t.Errorf("Put(%v, %d): %v, not %v", ahead, n, got, want)
			}
		}
	}
}

func TestP2_1PutInt(t *testing.T) {
	cases := []struct {
		n    int64
		want []byte
	}{
		{0, []byte{0}},
		{-1, []byte{1}},
		{1, []byte{2}},
		{-3, []byte{5}},
		{63, []byte{126}},
		{-64, []byte{127}},
		{64, []byte{128, 1}},
		{-65, []byte{129, 1}},
		{math.MaxInt64, []byte{254, 255, 255, 255, 255, 255, 255, 255, 255, 1}},
		{math.MinInt64, []byte{255, 255, 255, 255, 255, 255, 255, 255, 255, 1}},
	}
	for _, c := range cases {
		if got := varint.PutInt(nil, c.n); !bytes.Equal(got, c.want) {
			t.Errorf("PutInt(nil, %d): %v, not %v", c.n, got, c.want)
		}
	}
	for _, n := range wholes() {
		for _, ahead := range [][]byte{nil, {}, {128, 7}} {
			got := varint.PutInt(ahead, n)
			if want := append(bytes.Clone(ahead), short(folded(n))...); !bytes.Equal(got, want) {
				t.Errorf("PutInt(%v, %d): %v, not %v", ahead, n, got, want)
			}
		}
	}
}

func TestP2_1PutAnswersANewList(t *testing.T) {
	puts := map[string]func(b []byte) []byte{
		"Put":    func(b []byte) []byte { return varint.Put(b, math.MaxUint64) },
		"PutInt": func(b []byte) []byte { return varint.PutInt(b, math.MinInt64) },
	}
	for name, put := range puts {
		room := bytes.Repeat([]byte{42}, 64)
		first := put(room[:3])
		second := put(room[:3])
		if !bytes.Equal(room, bytes.Repeat([]byte{42}, 64)) {
			t.Errorf("%s changed the bytes, or the room behind them: %v", name, room)
		}
		want := bytes.Clone(first)
		clear(room)
		clear(second)
		if !bytes.Equal(first, want) {
			t.Errorf("%s: an answer changed with what was handed in, or with another answer: %v", name, first)
		}
		for i := range first[:cap(first)] {
			first[:cap(first)][i] = 1
		}
		if !bytes.Equal(room, make([]byte, 64)) || !bytes.Equal(second, make([]byte, len(second))) {
			t.Errorf("%s: the answer shares memory with what was handed in, or with another answer", name)
		}
	}
}

func TestP2_1Size(t *testing.T) {
	for i, least := range []uint64{0, 1 << 7, 1 << 14, 1 << 21, 1 << 28, 1 << 35, 1 << 42, 1 << 49, 1 << 56, 1 << 63} {
		if got := varint.Size(least); got != i+1 {
			t.Errorf("Size(%d): %d, not %d", least, got, i+1)
		}
		if got := varint.Size(least - 1); i > 0 && got != i {
			t.Errorf("Size(%d): %d, not %d", least-1, got, i)
		}
	}
	for _, n := range numbers() {
		if got, want := varint.Size(n), len(short(n)); got != want {
			t.Errorf("Size(%d): %d, not %d", n, got, want)
		}
		if got, want := varint.Size(n), max(1, (mathbits.Len64(n)+6)/7); got != want {
			t.Errorf("Size(%d): %d, not %d", n, got, want)
		}
	}
}

// checkGet holds Get and GetInt of b against what they should answer.
func checkGet(t *testing.T, b []byte, n uint64, size int, e api.Errno) {
	t.Helper()
	before := bytes.Clone(b)
	if gotN, gotSize, gotE := varint.Get(b); gotN != n || gotSize != size || gotE != e {
		t.Errorf("Get(%v): %d %d %v, not %d %d %v", b, gotN, gotSize, gotE, n, size, e)
	}
	gotN, gotSize, gotE := varint.GetInt(b)
	if folded(gotN) != n || gotSize != size || gotE != e {
		t.Errorf("GetInt(%v): %d %d %v, not the whole number of %d, %d %v", b, gotN, gotSize, gotE, n, size, e)
	}
	if !bytes.Equal(b, before) {
		t.Errorf("changed %v to %v", before, b)
	}
}

func TestP2_2Get(t *testing.T) {
	checkGet(t, []byte{0}, 0, 1, api.OK)
	checkGet(t, []byte{127}, 127, 1, api.OK)
	checkGet(t, []byte{128, 1}, 128, 2, api.OK)
	checkGet(t, []byte{172, 2}, 300, 2, api.OK)
	checkGet(t, []byte{172, 2, 128}, 300, 2, api.OK)
	checkGet(t, []byte{0, 0}, 0, 1, api.OK)
	checkGet(t, []byte{128, 128, 1}, 16384, 3, api.OK)
	checkGet(t, append(endless(0, 9), 1), 1<<63, 10, api.OK)
	checkGet(t, append(endless(127, 9), 1), math.MaxUint64, 10, api.OK)
	checkGet(t, append(endless(127, 8), 127), 1<<63-1, 9, api.OK)
}

func TestP2_2GetInt(t *testing.T) {
	cases := []struct {
		b    []byte
		want int64
		size int
	}{
		{[]byte{0}, 0, 1},
		{[]byte{1}, -1, 1},
		{[]byte{2, 255}, 1, 1},
		{[]byte{127}, -64, 1},
		{[]byte{128, 1}, 64, 2},
		{[]byte{129, 1}, -65, 2},
		{append(endless(126, 1), append(endless(127, 8), 1)...), math.MaxInt64, 10},
		{append(endless(127, 9), 1), math.MinInt64, 10},
	}
	for _, c := range cases {
		if n, size, e := varint.GetInt(c.b); n != c.want || size != c.size || e != api.OK {
			t.Errorf("GetInt(%v): %d %d %v, not %d %d", c.b, n, size, e, c.want, c.size)
		}
	}
}

func TestP2_2BytesThatEndTooEarly(t *testing.T) {
	checkGet(t, nil, 0, 0, api.ErrShort)
	checkGet(t, []byte{}, 0, 0, api.ErrShort)
	for length := 1; length <= 9; length++ {
		for _, x := range []byte{0, 1, 64, 127} {
			checkGet(t, endless(x, length), 0, 0, api.ErrShort)
		}
	}
	for _, n := range numbers() {
		b := short(n)
		for length := range b {
			checkGet(t, b[:length], 0, 0, api.ErrShort)
		}
	}
}

func TestP2_2WhatLiesBehindTheEndIsNotRead(t *testing.T) {
	room := []byte{128, 1, 0}
	checkGet(t, room[:1], 0, 0, api.ErrShort)
	checkGet(t, room[:0], 0, 0, api.ErrShort)
	if !bytes.Equal(room, []byte{128, 1, 0}) {
		t.Errorf("room changed: %v", room)
	}
}

func TestP2_2MoreBytesThanItNeeds(t *testing.T) {
	for length := 1; length <= 9; length++ {
		for _, x := range []byte{0, 1, 127} {
			for _, behind := range [][]byte{{0}, {0, 1}, {0, 128}} {
				checkGet(t, append(endless(x, length), behind...), 0, 0, api.ErrForm)
			}
		}
	}
}

func TestP2_2AboveTheGreatestNumber(t *testing.T) {
	for x := range 256 {
		for _, ahead := range []byte{0, 127} {
			b := append(endless(ahead, 9), byte(x))
			for _, behind := range [][]byte{nil, {0}, {1}, {255}} {
				if x == 1 {
					continue
				}
				checkGet(t, append(bytes.Clone(b), behind...), 0, 0, api.ErrForm)
			}
		}
	}
	// The tenth byte says it already, whether or not there are further ones.
	for _, length := range []int{10, 11, 12, 20, 1 << 16} {
		checkGet(t, endless(0, length), 0, 0, api.ErrForm)
		checkGet(t, endless(127, length), 0, 0, api.ErrForm)
	}
}

func TestP2_2AllOfTwoBytes(t *testing.T) {
	// All beginnings, of up to two bytes, of numbers that have at most three; those of greater ones are among them.
	begins := map[string]bool{"": true}
	numberOf := map[string]uint64{}
	for n := range uint64(1 << 21) {
		b := short(n)
		begins[string(b[:1])] = true
		if len(b) > 1 {
			begins[string(b[:2])] = true
		}
		if len(b) <= 2 {
			numberOf[string(b)] = n
		}
	}
	for i := range 1 << 16 {
		b := []byte{byte(i), byte(i >> 8)}
		if n, ok := numberOf[string(b[:1])]; ok {
			checkGet(t, b, n, 1, api.OK)
		} else if n, ok := numberOf[string(b)]; ok {
			checkGet(t, b, n, 2, api.OK)
		} else if begins[string(b)] {
			checkGet(t, b, 0, 0, api.ErrShort)
		} else {
			checkGet(t, b, 0, 0, api.ErrForm)
		}
	}
}

func TestP2_3WhatWasPutIsGot(t *testing.T) {
	behind := [][]byte{nil, {0}, {1}, {127}, {128}, {255}, {128, 0}, endless(127, 20)}
	for _, n := range numbers() {
		for _, x := range behind {
			b := varint.Put(nil, n)
			if got, size, e := varint.Get(append(b, x...)); got != n || size != len(b) || e != api.OK {
				t.Errorf("Get of Put(%d) with %v behind it: %d %d %v", n, x, got, size, e)
			}
		}
	}
	for _, n := range wholes() {
		for _, x := range behind {
			b := varint.PutInt(nil, n)
			if got, size, e := varint.GetInt(append(b, x...)); got != n || size != len(b) || e != api.OK {
				t.Errorf("GetInt of PutInt(%d) with %v behind it: %d %d %v", n, x, got, size, e)
			}
		}
	}
}

func TestP2_3WhatIsGotWasPutSo(t *testing.T) {
	edge := []byte{0, 1, 2, 63, 64, 127, 128, 129, 191, 192, 254, 255}
	checkPutSo := func(b []byte) {
		n, size, e := varint.Get(b)
		if e != api.OK {
			return
		}
		if put := varint.Put(nil, n); !bytes.Equal(put, b[:size]) {
			t.Errorf("Get(%v): %d of %d bytes, but Put of it: %v", b, n, size, put)
		}
		m, size, _ := varint.GetInt(b)
		if put := varint.PutInt(nil, m); !bytes.Equal(put, b[:size]) {
			t.Errorf("GetInt(%v): %d of %d bytes, but PutInt of it: %v", b, m, size, put)
		}
	}
	for length := range 11 {
		for _, fill := range edge {
			for _, x := range edge {
				for _, y := range edge {
					checkPutSo(append(endless(fill, length), x, y))
				}
			}
		}
	}
}

func TestP2_4TheLesserHasNoMoreBytes(t *testing.T) {
	l := numbers()
	for _, n := range l {
		for _, m := range l {
			if n < m && varint.Size(n) > varint.Size(m) {
				t.Errorf("%d has %d bytes, %d has %d", n, varint.Size(n), m, varint.Size(m))
			}
			if n < m && len(varint.Put(nil, n)) > len(varint.Put(nil, m)) {
				t.Errorf("Put of %d has more bytes than of %d", n, m)
			}
		}
	}
	before := 0
	for n := range uint64(1 << 16) {
		size := varint.Size(n)
		if size < before || size != len(varint.Put(nil, n)) {
			t.Errorf("%d has %d bytes, the one ahead %d", n, size, before)
		}
		before = size
	}
}
