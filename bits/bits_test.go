package bits_test

import (
	"bytes"
	"encoding/binary"
	"math"
	mathbits "math/bits"
	"testing"

	"biscotti/api"
	"biscotti/bits"
)

// numbers are spread over all widths, with both neighbours of each power of two.
func numbers() []uint64 {
	l := []uint64{0, 0x0102030405060708, 0xfedcba9876543210, 0xaaaaaaaaaaaaaaaa, 0x5555555555555555}
	for i := range 64 {
		p := uint64(1) << i
		l = append(l, p-1, p, p+1)
	}
	return append(l, math.MaxUint64-1, math.MaxUint64)
}

// ints are edges of an int's range, and numbers near what the chapter bounds.
func ints() []int {
	l := []int{math.MinInt, math.MinInt + 1, math.MinInt32, math.MaxInt32, math.MaxInt - 63, math.MaxInt - 1, math.MaxInt}
	for i := -70; i <= 70; i++ {
		l = append(l, i)
	}
	return l
}

func TestP1_1BytesOfEachWidth(t *testing.T) {
	cases := []struct {
		n     uint64
		width int
		want  []byte
	}{
		{258, 2, []byte{2, 1}},
		{0, 1, []byte{0}},
		{0, 8, []byte{0, 0, 0, 0, 0, 0, 0, 0}},
		{255, 1, []byte{255}},
		{256, 2, []byte{0, 1}},
		{0x010203, 3, []byte{3, 2, 1}},
		{0x010203, 4, []byte{3, 2, 1, 0}},
		{0xffffffff, 4, []byte{255, 255, 255, 255}},
		{0x0102030405, 5, []byte{5, 4, 3, 2, 1}},
		{0x010203040506, 6, []byte{6, 5, 4, 3, 2, 1}},
		{0x01020304050607, 7, []byte{7, 6, 5, 4, 3, 2, 1}},
		{0x8102030405060708, 8, []byte{8, 7, 6, 5, 4, 3, 2, 0x81}},
		{math.MaxUint64, 8, bytes.Repeat([]byte{255}, 8)},
	}
	for _, c := range cases {
		low, e := bits.Bytes(c.n, c.width)
		if e != api.OK || !bytes.Equal(low, c.want) {
			t.Errorf("Bytes(%d, %d): %v %v, not %v", c.n, c.width, low, e, c.want)
		}
		high, e := bits.High(c.n, c.width)
		if e != api.OK || len(high) != c.width {
			t.Fatalf("High(%d, %d): %v %v", c.n, c.width, high, e)
		}
		for i := range c.width {
			if high[i] != c.want[c.width-1-i] {
				t.Errorf("High(%d, %d): %v, not %v backwards", c.n, c.width, high, c.want)
				break
			}
		}
	}
}

func TestP1_1BytesInAllWidthsWithRoom(t *testing.T) {
	for _, n := range numbers() {
		var low, high [8]byte
		binary.LittleEndian.PutUint64(low[:], n)
		binary.BigEndian.PutUint64(high[:], n)
		least := max(1, (mathbits.Len64(n)+7)/8)
		for width := 1; width <= 8; width++ {
			b, e := bits.Bytes(n, width)
			h, f := bits.High(n, width)
			if width < least {
				if b != nil || h != nil || e != api.ErrRange || f != api.ErrRange {
					t.Errorf("%#x has no room in %d bytes: %v %v, %v %v", n, width, b, e, h, f)
				}
				continue
			}
			if e != api.OK || !bytes.Equal(b, low[:width]) {
				t.Errorf("Bytes(%#x, %d): %v %v", n, width, b, e)
			}
			if f != api.OK || !bytes.Equal(h, high[8-width:]) {
				t.Errorf("High(%#x, %d): %v %v", n, width, h, f)
			}
		}
	}
}

func TestP1_1WidthThatMayNotBe(t *testing.T) {
	for _, width := range ints() {
		if width >= 1 && width <= 8 {
			continue
		}
		for _, n := range []uint64{0, 1, math.MaxUint64} {
			if b, e := bits.Bytes(n, width); e != api.ErrRange || len(b) != 0 {
				t.Errorf("Bytes(%d, %d): %v %v", n, width, b, e)
			}
			if b, e := bits.High(n, width); e != api.ErrRange || len(b) != 0 {
				t.Errorf("High(%d, %d): %v %v", n, width, b, e)
			}
		}
	}
}

func TestP1_1Number(t *testing.T) {
	cases := []struct {
		b    []byte
		want uint64
		e    api.Errno
	}{
		{nil, 0, api.ErrShort},
		{[]byte{}, 0, api.ErrShort},
		{[]byte{0}, 0, api.OK},
		{[]byte{200}, 200, api.OK},
		{[]byte{2, 1}, 258, api.OK},
		{[]byte{1, 2, 3}, 0x030201, api.OK},
		{[]byte{0, 0, 0, 0x80}, 0x80000000, api.OK},
		{[]byte{5, 0, 0, 0, 0, 0, 0, 0}, 5, api.OK},
		{[]byte{8, 7, 6, 5, 4, 3, 2, 0x81}, 0x8102030405060708, api.OK},
		{bytes.Repeat([]byte{255}, 8), math.MaxUint64, api.OK},
		{make([]byte, 9), 0, api.ErrLong},
		{bytes.Repeat([]byte{255}, 9), 0, api.ErrLong},
		{make([]byte, 1<<16), 0, api.ErrLong},
	}
	for _, c := range cases {
		before := bytes.Clone(c.b)
		n, e := bits.Number(c.b)
		if n != c.want || e != c.e {
			t.Errorf("Number of %d bytes: %#x %v, not %#x %v", len(c.b), n, e, c.want, c.e)
		}
		if !bytes.Equal(c.b, before) {
			t.Errorf("Number changed %v to %v", before, c.b)
		}
	}
}

func TestP1_1NumberLeavesWhatLiesBehindTheEnd(t *testing.T) {
	room := []byte{1, 2, 99, 98}
	if n, e := bits.Number(room[:2]); n != 0x0201 || e != api.OK {
		t.Errorf("%#x %v", n, e)
	}
	if !bytes.Equal(room, []byte{1, 2, 99, 98}) {
		t.Errorf("room changed: %v", room)
	}
}

func TestP1_2Fold(t *testing.T) {
	for i := range 1000 {
		if got := bits.Fold(int64(i)); got != uint64(2*i) {
			t.Errorf("Fold(%d): %d", i, got)
		}
		if got := bits.Fold(int64(-i - 1)); got != uint64(2*i+1) {
			t.Errorf("Fold(%d): %d", -i-1, got)
		}
		if got := bits.Unfold(uint64(2 * i)); got != int64(i) {
			t.Errorf("Unfold(%d): %d", 2*i, got)
		}
		if got := bits.Unfold(uint64(2*i + 1)); got != int64(-i-1) {
			t.Errorf("Unfold(%d): %d", 2*i+1, got)
		}
	}
	edges := []struct {
		n int64
		f uint64
	}{
		{-3, 5},
		{math.MaxInt64, math.MaxUint64 - 1},
		{math.MinInt64, math.MaxUint64},
		{math.MaxInt64 - 1, math.MaxUint64 - 3},
		{math.MinInt64 + 1, math.MaxUint64 - 2},
		{math.MaxInt32, math.MaxUint32 - 1},
		{math.MinInt32, math.MaxUint32},
	}
	for _, c := range edges {
		if f := bits.Fold(c.n); f != c.f {
			t.Errorf("Fold(%d): %d, not %d", c.n, f, c.f)
		}
		if n := bits.Unfold(c.f); n != c.n {
			t.Errorf("Unfold(%d): %d, not %d", c.f, n, c.n)
		}
	}
}

// turnOnce moves each bit a place upwards, the highest to the lowest place.
func turnOnce(n uint32) uint32 {
	if n >= 1<<31 {
		return (n-1<<31)*2 + 1
	}
	return n * 2
}

func TestP1_2Turn(t *testing.T) {
	for _, n := range []uint32{0, 1, 3, 0x80000000, 0x80000001, 0x12345678, 0xdeadbeef, math.MaxUint32} {
		want := n
		for by := range 100 {
			if got := bits.Turn(n, by); got != want {
				t.Errorf("Turn(%#x, %d): %#x, not %#x", n, by, got, want)
			}
			if got := bits.Turn(n, by-128); got != want {
				t.Errorf("Turn(%#x, %d): %#x, not %#x", n, by-128, got, want)
			}
			want = turnOnce(want)
		}
	}
	for _, by := range ints() {
		places := (by%32 + 32) % 32
		if got, want := bits.Turn(0x12345678, by), mathbits.RotateLeft32(0x12345678, places); got != want {
			t.Errorf("Turn by %d: %#x, not %#x", by, got, want)
		}
	}
	if got := bits.Turn(0x12345678, -8); got != 0x78123456 {
		t.Errorf("downwards: %#x", got)
	}
}

func TestP1_2Width(t *testing.T) {
	if got := bits.Width(0); got != 0 {
		t.Errorf("Width(0): %d", got)
	}
	for i := range 64 {
		least := uint64(1) << i
		for _, n := range []uint64{least, least + (least-1)/2, least + (least - 1)} {
			if got := bits.Width(n); got != i+1 {
				t.Errorf("Width(%#x): %d, not %d", n, got, i+1)
			}
		}
	}
}

func TestP1_3Field(t *testing.T) {
	cases := []struct {
		n         uint64
		at, width int
		want      uint64
	}{
		{0xabcd, 4, 8, 0xbc},
		{0xabcd, 0, 4, 0xd},
		{0xabcd, 0, 1, 1},
		{0xabcd, 1, 1, 0},
		{0xabcd, 60, 4, 0},
		{1 << 63, 63, 1, 1},
		{math.MaxUint64, 63, 1, 1},
		{math.MaxUint64, 1, 63, math.MaxUint64 >> 1},
		{0xfedcba9876543210, 0, 64, 0xfedcba9876543210},
		{0xfedcba9876543210, 32, 32, 0xfedcba98},
		{0xfedcba9876543210, 60, 4, 0xf},
	}
	for _, c := range cases {
		if got, e := bits.Field(c.n, c.at, c.width); e != api.OK || got != c.want {
			t.Errorf("Field(%#x, %d, %d): %#x %v, not %#x", c.n, c.at, c.width, got, e, c.want)
		}
	}
}

func TestP1_3With(t *testing.T) {
	cases := []struct {
		n         uint64
		at, width int
		v, want   uint64
	}{
		{0xabcd, 4, 8, 0x12, 0xa12d},
		{0xabcd, 4, 8, 0, 0xa00d},
		{0xabcd, 4, 8, 0xff, 0xaffd},
		{0, 60, 4, 15, 0xf000000000000000},
		{math.MaxUint64, 63, 1, 0, math.MaxUint64 >> 1},
		{math.MaxUint64, 0, 1, 0, math.MaxUint64 - 1},
		{math.MaxUint64, 0, 64, 7, 7},
		{0, 0, 64, math.MaxUint64, math.MaxUint64},
		{1, 1, 63, math.MaxUint64 >> 1, math.MaxUint64},
	}
	for _, c := range cases {
		if got, e := bits.With(c.n, c.at, c.width, c.v); e != api.OK || got != c.want {
			t.Errorf("With(%#x, %d, %d, %#x): %#x %v, not %#x", c.n, c.at, c.width, c.v, got, e, c.want)
		}
	}
}

func TestP1_3PlaceThatMayNotBe(t *testing.T) {
	n := uint64(0xfedcba9876543210)
	for _, at := range ints() {
		for _, width := range ints() {
			want := api.ErrRange
			if at >= 0 && at <= 63 && width >= 1 && width <= 64-at {
				want = api.OK
			}
			if got, e := bits.Field(n, at, width); e != want || e != api.OK && got != 0 {
				t.Errorf("Field at %d, %d wide: %#x %v", at, width, got, e)
			}
			if got, e := bits.With(n, at, width, 0); e != want || e != api.OK && got != 0 {
				t.Errorf("With at %d, %d wide: %#x %v", at, width, got, e)
			}
		}
	}
}

func TestP1_3WithWhatHasNoRoom(t *testing.T) {
	for at := range 64 {
		for width := 1; width <= 64-at && width <= 63; width++ {
			least := uint64(1) << width
			for _, v := range []uint64{least, least + 1, math.MaxUint64} {
				if got, e := bits.With(0xabcd, at, width, v); e != api.ErrRange || got != 0 {
					t.Errorf("With at %d, %d wide, %#x: %#x %v", at, width, v, got, e)
				}
			}
			if _, e := bits.With(0xabcd, at, width, least-1); e != api.OK {
				t.Errorf("With at %d, %d wide, %#x: %v", at, width, least-1, e)
			}
		}
	}
}

func TestP1_4NumberOfBytes(t *testing.T) {
	for _, n := range numbers() {
		for width := 1; width <= 8; width++ {
			b, e := bits.Bytes(n, width)
			if e != api.OK {
				continue
			}
			if got, e := bits.Number(b); e != api.OK || got != n {
				t.Errorf("Number of Bytes(%#x, %d): %#x %v", n, width, got, e)
			}
		}
		if b, e := bits.Bytes(n, 8); e != api.OK || len(b) != 8 {
			t.Errorf("Bytes(%#x, 8): %v %v", n, b, e)
		}
	}
}

func TestP1_4UnfoldOfFold(t *testing.T) {
	for _, n := range numbers() {
		if got := bits.Unfold(bits.Fold(int64(n))); got != int64(n) {
			t.Errorf("Unfold of Fold(%d): %d", int64(n), got)
		}
		if got := bits.Fold(bits.Unfold(n)); got != n {
			t.Errorf("Fold of Unfold(%d): %d", n, got)
		}
	}
}

func TestP1_5WhatWasPutIsReadAndAllElseStays(t *testing.T) {
	for _, n := range []uint64{0, 0xfedcba9876543210, 0xaaaaaaaaaaaaaaaa, math.MaxUint64} {
		for at := range 64 {
			for width := 1; width <= 64-at; width++ {
				top := uint64(1) << (width - 1)
				for _, v := range []uint64{0, 1, top, top - 1 + top} {
					checkPut(t, n, at, width, v)
				}
			}
		}
	}
}

func checkPut(t *testing.T, n uint64, at, width int, v uint64) {
	t.Helper()
	m, e := bits.With(n, at, width, v)
	if e != api.OK {
		t.Errorf("With(%#x, %d, %d, %#x): %v", n, at, width, v, e)
		return
	}
	if got, e := bits.Field(m, at, width); e != api.OK || got != v {
		t.Errorf("Field of With(%#x, %d, %d, %#x): %#x %v", n, at, width, v, got, e)
	}
	for i := range 64 {
		if i >= at && i < at+width {
			continue
		}
		if (m^n)>>i&1 != 0 {
			t.Errorf("With(%#x, %d, %d, %#x): bit %d changed", n, at, width, v, i)
		}
	}
}
