package crc_test

import (
	"bytes"
	"hash/crc32"
	"math"
	"testing"

	"biscotti/api"
	"biscotti/crc"
)

// summed tells b's sum by the chapter's words, a bit at a time.
func summed(b []byte) uint32 {
	sum := uint32(math.MaxUint32)
	for _, x := range b {
		sum ^= uint32(x)
		for range 8 {
			out := sum % 2
			sum /= 2
			if out == 1 {
				sum ^= 0xedb88320
			}
		}
	}
	return math.MaxUint32 - sum
}

// mixed are so many bytes without an order that is easily seen, other ones for each seed.
func mixed(length int, seed uint32) []byte {
	b := make([]byte, length)
	for i := range b {
		seed = seed*1664525 + 1013904223
		b[i] = byte(seed >> 24)
	}
	return b
}

// texts are bytes of many lengths: none, each single byte, all of one kind, and mixed.
func texts() [][]byte {
	l := [][]byte{nil, {}, []byte("123456789"), []byte("biscotti")}
	for x := range 256 {
		l = append(l, []byte{byte(x)})
	}
	for length := range 70 {
		l = append(l, make([]byte, length), bytes.Repeat([]byte{255}, length), mixed(length, uint32(length)))
	}
	return append(l, mixed(1000, 1), mixed(1<<16, 2))
}

// ints are edges of an int's range, and numbers near what the chapter bounds.
func ints() []int {
	l := []int{math.MinInt, math.MinInt + 1, math.MinInt32, -api.MaxFrame, api.MaxFrame + 1, api.MaxFrame + 2, math.MaxInt32, math.MaxInt - 1, math.MaxInt}
	for i := -3; i <= 3; i++ {
		l = append(l, i)
	}
	return append(l, api.MaxFrame-2, api.MaxFrame-1, api.MaxFrame)
}

// mustChange tells Change of a place that may be.
func mustChange(t *testing.T, n, at int, by byte) uint32 {
	t.Helper()
	x, e := crc.Change(n, at, by)
	if e != api.OK {
		t.Fatalf("Change(%d, %d, %d): %v", n, at, by, e)
	}
	return x
}

func TestP3_1Sum(t *testing.T) {
	cases := []struct {
		b    string
		want uint32
	}{
		{"", 0},
		{"123456789", 0xcbf43926},
		{"The quick brown fox jumps over the lazy dog", 0x414fa339},
		{"a", 0xe8b7be43},
		{"abc", 0x352441c2},
		{"\x00", 0xd202ef8d},
		{"\x00\x00\x00\x00", 0x2144df1c},
		{"\xff\xff\xff\xff", 0xffffffff},
	}
	for _, c := range cases {
		if got := crc.Sum([]byte(c.b)); got != c.want {
			t.Errorf("Sum(%q): %08x, not %08x", c.b, got, c.want)
		}
	}
	for _, b := range texts() {
		got := crc.Sum(b)
		if want := summed(b); got != want {
			t.Errorf("Sum of %d bytes %.20x: %08x, not %08x", len(b), b, got, want)
		}
		if want := crc32.ChecksumIEEE(b); got != want {
			t.Errorf("Sum of %d bytes %.20x: %08x, not %08x", len(b), b, got, want)
		}
	}
}

func TestP3_1SumOfMoreThanAFrame(t *testing.T) {
	b := mixed(3*api.MaxFrame+1, 3)
	if got, want := crc.Sum(b), crc32.ChecksumIEEE(b); got != want {
		t.Errorf("%08x, not %08x", got, want)
	}
}

func TestP3_1SumOfParts(t *testing.T) {
	for _, b := range [][]byte{nil, []byte("123456789"), mixed(40, 4), make([]byte, 20)} {
		want := summed(b)
		for i := range len(b) + 1 {
			if got := crc.New().Add(b[:i]).Add(b[i:]).Sum(); got != want {
				t.Errorf("%x parted at %d: %08x, not %08x", b, i, got, want)
			}
			for j := i; j <= len(b); j++ {
				if got := crc.New().Add(b[:i]).Add(b[i:j]).Add(nil).Add(b[j:]).Sum(); got != want {
					t.Errorf("%x parted at %d and %d: %08x, not %08x", b, i, j, got, want)
				}
			}
		}
	}
	for _, part := range []int{1, 2, 3, 7, 64, 1000} {
		b := mixed(5000, 5)
		s := crc.New()
		for at := 0; at < len(b); at += part {
			s = s.Add(b[at:min(at+part, len(b))])
			if got, want := s.Sum(), summed(b[:min(at+part, len(b))]); got != want {
				t.Fatalf("parts of %d, up to %d: %08x, not %08x", part, at, got, want)
			}
		}
	}
}

func TestP3_1AStateThatNewDidNotMake(t *testing.T) {
	var s crc.State
	if s.Sum() != crc.New().Sum() || s.Sum() != 0 {
		t.Errorf("of no bytes: %08x, New's %08x", s.Sum(), crc.New().Sum())
	}
	if got := new(crc.State).Add([]byte("12345")).Add([]byte("6789")).Sum(); got != 0xcbf43926 {
		t.Errorf("of parts: %08x", got)
	}
	for _, b := range texts() {
		if got, want := (crc.State{}).Add(b).Sum(), summed(b); got != want {
			t.Errorf("of %.20x: %08x, not %08x", b, got, want)
		}
	}
}

func TestP3_1AStateStaysAsItWas(t *testing.T) {
	s := crc.New().Add([]byte("1234"))
	first := s.Add([]byte("56789")).Sum()
	other := s.Add([]byte("x")).Sum()
	again := s.Add([]byte("56789")).Sum()
	if first != 0xcbf43926 || again != first || other != summed([]byte("1234x")) || s.Sum() != summed([]byte("1234")) {
		t.Errorf("%08x %08x %08x %08x", first, again, other, s.Sum())
	}
}

func TestP3_1WhatIsHandedInStaysAndIsNotKept(t *testing.T) {
	room := []byte("123456789 and what lies behind")
	before := bytes.Clone(room)
	s := crc.New().Add(room[:4])
	sum := crc.Sum(room[:9])
	if !bytes.Equal(room, before) {
		t.Errorf("changed to %q", room)
	}
	clear(room)
	if got := s.Add([]byte("56789")).Sum(); got != 0xcbf43926 || sum != got {
		t.Errorf("%08x, %08x", got, sum)
	}
}

func TestP3_2Change(t *testing.T) {
	if x := mustChange(t, 9, 3, '4'^'x'); 0xcbf43926^x != summed([]byte("123x56789")) {
		t.Errorf("%08x", x)
	}
	for _, n := range []int{1, 2, 3, 4, 5, 8, 9, 33} {
		for _, b := range [][]byte{make([]byte, n), bytes.Repeat([]byte{255}, n), mixed(n, 6), mixed(n, 7)} {
			before := summed(b)
			for at := range n {
				for by := range 256 {
					b[at] ^= byte(by)
					if got, want := mustChange(t, n, at, byte(by)), before^summed(b); got != want {
						t.Fatalf("Change(%d, %d, %d): %08x, not %08x", n, at, by, got, want)
					}
					b[at] ^= byte(by)
				}
			}
		}
	}
}

func TestP3_2ChangeOfTheGreatestFrame(t *testing.T) {
	b := mixed(api.MaxFrame, 8)
	before := crc32.ChecksumIEEE(b)
	for _, at := range []int{0, 1, api.MaxFrame / 2, api.MaxFrame - 2, api.MaxFrame - 1} {
		for _, by := range []byte{0, 1, 128, 255} {
			b[at] ^= by
			if got, want := mustChange(t, api.MaxFrame, at, by), before^crc32.ChecksumIEEE(b); got != want {
				t.Errorf("at %d by %d: %08x, not %08x", at, by, got, want)
			}
			b[at] ^= by
		}
	}
}

func TestP3_2ChangeByNothing(t *testing.T) {
	for n := 1; n < 20; n++ {
		for at := range n {
			if x := mustChange(t, n, at, 0); x != 0 {
				t.Errorf("Change(%d, %d, 0): %08x", n, at, x)
			}
		}
	}
}

func TestP3_2ChangeOfAPlaceThatMayNotBe(t *testing.T) {
	places := append(ints(), 7, 8, 9)
	for _, n := range places {
		for _, at := range places {
			want := api.ErrRange
			if n >= 1 && n <= api.MaxFrame && at >= 0 && at <= n-1 {
				want = api.OK
			}
			for _, by := range []byte{0, 1, 255} {
				if x, e := crc.Change(n, at, by); e != want || e != api.OK && x != 0 {
					t.Errorf("Change(%d, %d, %d): %08x %v, not %v", n, at, by, x, e, want)
				}
			}
		}
	}
}

func TestP3_2Zeros(t *testing.T) {
	for _, b := range [][]byte{nil, {0}, {255}, []byte("ab"), []byte("123456789"), make([]byte, 30), mixed(50, 9)} {
		for n := range 100 {
			want := summed(append(bytes.Clone(b), make([]byte, n)...))
			if got, e := crc.Zeros(summed(b), n); e != api.OK || got != want {
				t.Errorf("Zeros of the sum of %x, %d: %08x %v, not %08x", b, n, got, e, want)
			}
		}
		for _, n := range []int{api.MaxFrame - 1, api.MaxFrame} {
			want := crc32.Update(summed(b), crc32.IEEETable, make([]byte, n))
			if got, e := crc.Zeros(summed(b), n); e != api.OK || got != want {
				t.Errorf("Zeros of the sum of %x, %d: %08x %v, not %08x", b, n, got, e, want)
			}
		}
	}
}

func TestP3_2ZerosOfAnySum(t *testing.T) {
	// Each number is some bytes' sum: four bytes can bring it to any.
	for _, sum := range []uint32{0, 1, 0x80000000, 0xdeadbeef, 0x12345678, math.MaxUint32 - 1, math.MaxUint32} {
		for _, n := range []int{0, 1, 2, 3, 4, 5, 17, 1000} {
			want := crc32.Update(sum, crc32.IEEETable, make([]byte, n))
			if got, e := crc.Zeros(sum, n); e != api.OK || got != want {
				t.Errorf("Zeros(%08x, %d): %08x %v, not %08x", sum, n, got, e, want)
			}
		}
		if got, e := crc.Zeros(sum, 0); e != api.OK || got != sum {
			t.Errorf("Zeros(%08x, 0): %08x %v", sum, got, e)
		}
	}
}

func TestP3_2ZerosOfANumberThatMayNotBe(t *testing.T) {
	for _, n := range ints() {
		want := api.ErrRange
		if n >= 0 && n <= api.MaxFrame {
			want = api.OK
		}
		for _, sum := range []uint32{0, 0xcbf43926, math.MaxUint32} {
			if got, e := crc.Zeros(sum, n); e != want || e != api.OK && got != 0 {
				t.Errorf("Zeros(%08x, %d): %08x %v, not %v", sum, n, got, e, want)
			}
		}
	}
}

func TestP3_3AByteThatIsChangedChangesTheSum(t *testing.T) {
	for _, b := range [][]byte{{0}, {255}, []byte("123456789"), make([]byte, 64), mixed(100, 10)} {
		before := crc.Sum(b)
		for at := range b {
			was := b[at]
			for x := range 256 {
				b[at] = byte(x)
				if sum := crc.Sum(b); (sum == before) != (b[at] == was) {
					t.Errorf("%x: byte %d, once %d: the sum was %08x, is %08x", b, at, was, before, sum)
				}
			}
			b[at] = was
		}
	}
	for _, n := range []int{1, 2, 100, 65536, api.MaxFrame} {
		for by := 1; by < 256; by++ {
			if x := mustChange(t, n, max(0, n-1000), byte(by)); x == 0 {
				t.Errorf("%d bytes, by %d: the sum stays", n, by)
			}
		}
		if x := mustChange(t, n, 0, 1); x == 0 {
			t.Errorf("%d bytes, the first by 1: the sum stays", n)
		}
	}
}

func TestP3_4ChangeHangsOnWhatStandsBehindAlone(t *testing.T) {
	for behind := range 20 {
		for _, by := range []byte{1, 2, 16, 128, 170, 255} {
			want := mustChange(t, behind+1, 0, by)
			for ahead := range 20 {
				if got := mustChange(t, ahead+1+behind, ahead, by); got != want {
					t.Errorf("%d ahead, %d behind, by %d: %08x, with none ahead %08x", ahead, behind, by, got, want)
				}
			}
			if got := mustChange(t, api.MaxFrame, api.MaxFrame-1-behind, by); got != want {
				t.Errorf("at the greatest frame's end, %d behind, by %d: %08x, with none ahead %08x", behind, by, got, want)
			}
			if other := mustChange(t, behind+2, 0, by); other == want {
				t.Errorf("%d and %d behind, by %d: both %08x", behind, behind+1, by, want)
			}
		}
	}
}
