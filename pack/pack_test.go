package pack_test

import (
	"bytes"
	"encoding/binary"
	"math"
	"slices"
	"strings"
	"testing"

	"biscotti/api"
	"biscotti/pack"
)

// packedNum, packedInt, packedText and packedFlags tell what is packed by the chapter's words, without the lower layers.
func packedNum(n uint64) []byte {
	return binary.AppendUvarint(nil, n)
}

func packedInt(n int64) []byte {
	return binary.AppendVarint(nil, n)
}

func packedText(s string) []byte {
	return append(packedNum(uint64(len(s))), s...)
}

func packedFlags(l []bool) []byte {
	sum := 0
	for k, on := range l {
		if on && k < 8 {
			sum += []int{1, 2, 4, 8, 16, 32, 64, 128}[k]
		}
	}
	return []byte{byte(sum)}
}

// nums are the least and the greatest numbers, and those at which the short bytes become more.
func nums() []uint64 {
	l := []uint64{0, 1, 2, 5, 100, 300, math.MaxUint64 - 1, math.MaxUint64}
	for width := range 64 {
		n := uint64(1) << width
		l = append(l, n-1, n, n+1)
	}
	return l
}

// ints are whole numbers of both signs, with the least and the greatest ones.
func ints() []int64 {
	l := []int64{0, math.MinInt64, math.MinInt64 + 1, math.MaxInt64 - 1, math.MaxInt64}
	for width := range 63 {
		n := int64(1) << width
		l = append(l, n-1, n, n+1, 1-n, -n, -n-1)
	}
	return l
}

func texts() []string {
	l := []string{"", "a", "xy", "\x00", "\xff\xfe", "\x80", "ä€𝄞", " \t\r\n", "\x02xy"}
	for _, length := range []int{126, 127, 128, 129, 1024, 16383, 16384, 100000} {
		l = append(l, strings.Repeat("z", length-1)+"!")
	}
	return l
}

// flags are all lists of at most 8 flags.
func flags() [][]bool {
	var all [][]bool
	for length := range 9 {
		for x := range 1 << length {
			l := make([]bool, length)
			for k := range l {
				l[k] = x>>k%2 == 1
			}
			all = append(all, l)
		}
	}
	return all
}

// behinds are what may stand behind something that is packed.
func behinds() [][]byte {
	return [][]byte{nil, {0}, {1}, {128}, {255, 255}, packedText("next")}
}

// noNumbers are bytes that begin with no number, with the error of each.
func noNumbers() map[string]api.Errno {
	return map[string]api.Errno{
		"":                              api.ErrShort,
		"\x80":                          api.ErrShort,
		"\xff\xff\xff":                  api.ErrShort,
		strings.Repeat("\x80", 9):       api.ErrShort,
		"\x80\x00":                      api.ErrForm,
		"\xff\x80\x00xyz":               api.ErrForm,
		strings.Repeat("\x80", 10):      api.ErrForm,
		strings.Repeat("\xff", 10):      api.ErrForm,
		strings.Repeat("\xff", 9) + "2": api.ErrForm,
	}
}

// checkBytes holds what a writer has against what it should have.
func checkBytes(t *testing.T, what string, w *pack.Writer, want []byte) {
	t.Helper()
	if got := w.Bytes(); !bytes.Equal(got, want) {
		t.Errorf("%s: %d bytes %.40x, not %d bytes %.40x", what, len(got), got, len(want), want)
	}
}

// checkReader holds how a reader stands against how it should stand.
func checkReader(t *testing.T, what string, r *pack.Reader, left int, e api.Errno) {
	t.Helper()
	end := e
	if e == api.OK && left > 0 {
		end = api.ErrForm
	}
	if r.Left() != left || r.Err() != e || r.End() != end {
		t.Errorf("%s: %d left, %v, end %v; not %d, %v, end %v", what, r.Left(), r.Err(), r.End(), left, e, end)
	}
	// Neither asking for the end nor for anything else changes it.
	if r.Left() != left || r.Err() != e {
		t.Errorf("%s: %d left, %v, behind the end; not %d, %v", what, r.Left(), r.Err(), left, e)
	}
}

// checkStays holds to it that a reader with the error e reads nothing any more, and errs with e.
func checkStays(t *testing.T, what string, r *pack.Reader, left int, e api.Errno) {
	t.Helper()
	checkReader(t, what, r, left, e)
	for range 2 {
		if n := r.Num(math.MaxUint64); n != 0 {
			t.Errorf("%s: then the number %d", what, n)
		}
		if n := r.Int(math.MaxInt64); n != 0 {
			t.Errorf("%s: then the whole number %d", what, n)
		}
		if s := r.Text(math.MaxInt); s != "" {
			t.Errorf("%s: then the text %.20q", what, s)
		}
		for n := -2; n <= 10; n++ {
			if l := r.Flags(n); len(l) != 0 {
				t.Errorf("%s: then the flags %v", what, l)
			}
		}
		r.Fail(api.ErrPeer)
		r.Fail(api.OK)
		checkReader(t, what+", then more", r, left, e)
	}
}

func TestP5_1ANewWriterHasNoBytes(t *testing.T) {
	checkBytes(t, "new", new(pack.Writer), nil)
	checkBytes(t, "another new one", &pack.Writer{}, nil)
}

func TestP5_1Num(t *testing.T) {
	for _, n := range nums() {
		w := new(pack.Writer)
		if w.Num(n) != w {
			t.Errorf("Num(%d) does not answer the writer", n)
		}
		checkBytes(t, "Num", w, packedNum(n))
	}
}

func TestP5_1Int(t *testing.T) {
	for n, want := range map[int64]string{0: "\x00", -1: "\x01", 1: "\x02", -3: "\x05", 63: "\x7e", -64: "\x7f", 64: "\x80\x01"} {
		checkBytes(t, "Int", new(pack.Writer).Int(n), []byte(want))
	}
	for _, n := range ints() {
		w := new(pack.Writer)
		if w.Int(n) != w {
			t.Errorf("Int(%d) does not answer the writer", n)
		}
		checkBytes(t, "Int", w, packedInt(n))
	}
}

func TestP5_1Text(t *testing.T) {
	for _, s := range texts() {
		w := new(pack.Writer)
		if w.Text(s) != w {
			t.Errorf("Text(%.20q) does not answer the writer", s)
		}
		checkBytes(t, "Text", w, packedText(s))
	}
}

func TestP5_1Flags(t *testing.T) {
	for _, l := range flags() {
		w := new(pack.Writer)
		if w.Flags(l...) != w {
			t.Errorf("Flags(%v) does not answer the writer", l)
		}
		checkBytes(t, "Flags", w, packedFlags(l))
	}
	checkBytes(t, "no flags", new(pack.Writer).Flags(), []byte{0})
	checkBytes(t, "flag 1", new(pack.Writer).Flags(false, true), []byte{2})
}

func TestP5_1FlagsBeyondThe8thAreNotPacked(t *testing.T) {
	for _, length := range []int{9, 10, 16, 17, 63, 64, 65, 1000} {
		for k := range length {
			l := make([]bool, length)
			l[k] = true
			before := slices.Clone(l)
			checkBytes(t, "Flags", new(pack.Writer).Flags(l...), packedFlags(l))
			if !slices.Equal(l, before) {
				t.Errorf("Flags changed the list %v", before)
			}
		}
	}
}

func TestP5_1WhatIsPackedStandsOneBehindTheOther(t *testing.T) {
	checkBytes(t, "the example", new(pack.Writer).Num(300).Text("a").Flags(false, true), []byte{172, 2, 1, 97, 2})
	w := new(pack.Writer)
	var want []byte
	for i, n := range nums() {
		k, s, l := ints()[i], texts()[i%len(texts())], flags()[i]
		w.Num(n).Int(k)
		want = append(append(want, packedNum(n)...), packedInt(k)...)
		checkBytes(t, "numbers", w, want)
		w.Text(s).Flags(l...)
		want = append(append(want, packedText(s)...), packedFlags(l)...)
		checkBytes(t, "all", w, want)
	}
}

func TestP5_1WritersAreApart(t *testing.T) {
	a, b := new(pack.Writer), new(pack.Writer)
	a.Num(1)
	b.Num(2)
	a.Text("a")
	b.Text("b")
	checkBytes(t, "one", a, []byte("\x01\x01a"))
	checkBytes(t, "the other one", b, []byte("\x02\x01b"))
}

func TestP5_1BytesAreNewMemory(t *testing.T) {
	w := new(pack.Writer).Text("first")
	first, second := w.Bytes(), w.Bytes()
	for i := range first[:cap(first)] {
		first[:cap(first)][i] = 'x'
	}
	if string(second) != "\x05first" {
		t.Errorf("two answers share memory: %q", second)
	}
	checkBytes(t, "the writer behind a change of what it answered", w, packedText("first"))
	w.Text("second")
	for i := range second[:cap(second)] {
		second[:cap(second)][i] = 'y'
	}
	checkBytes(t, "the writer that went on", w, append(packedText("first"), packedText("second")...))
	third := w.Bytes()
	w.Num(7)
	if want := append(packedText("first"), packedText("second")...); !bytes.Equal(third, want) {
		t.Errorf("an answer changed when the writer went on: %q", third)
	}
}

func TestP5_1ANilWriter(t *testing.T) {
	var w *pack.Writer
	if w.Num(1) != nil || w.Int(-1) != nil || w.Text("a") != nil || w.Text("") != nil || w.Flags(true) != nil || w.Flags() != nil {
		t.Error("a nil writer answers one that is not nil")
	}
	if w.Num(1).Int(2).Text("b").Flags(make([]bool, 9)...) != nil {
		t.Error("a nil writer answers one that is not nil")
	}
	checkBytes(t, "nil", w, nil)
}

func TestP5_2Num(t *testing.T) {
	for _, n := range nums() {
		for _, behind := range behinds() {
			for _, most := range []uint64{n, n + 1, math.MaxUint64 - 1, math.MaxUint64} {
				if most < n {
					continue
				}
				r := pack.Read(append(packedNum(n), behind...))
				if got := r.Num(most); got != n {
					t.Errorf("Num(%d) of %d: %d", most, n, got)
				}
				checkReader(t, "Num", r, len(behind), api.OK)
			}
		}
	}
}

func TestP5_2NumAboveWhatIsAsked(t *testing.T) {
	for _, n := range nums() {
		for _, most := range []uint64{0, n / 2, n - 1} {
			if most >= n {
				continue
			}
			b := append(packedNum(n), 7)
			r := pack.Read(b)
			if got := r.Num(most); got != 0 {
				t.Errorf("Num(%d) of %d: %d", most, n, got)
			}
			checkStays(t, "Num", r, len(b), api.ErrLong)
		}
	}
}

func TestP5_2Int(t *testing.T) {
	for _, n := range ints() {
		least := max(n, -n)
		if n == math.MinInt64 {
			continue
		}
		for _, behind := range behinds() {
			for _, most := range []int64{least, least + 1, math.MaxInt64} {
				if most < least {
					continue
				}
				r := pack.Read(append(packedInt(n), behind...))
				if got := r.Int(most); got != n {
					t.Errorf("Int(%d) of %d: %d", most, n, got)
				}
				checkReader(t, "Int", r, len(behind), api.OK)
			}
		}
	}
}

func TestP5_2IntAboveWhatIsAsked(t *testing.T) {
	for _, n := range ints() {
		amounts := []int64{0, math.MaxInt64}
		if n != math.MinInt64 {
			amounts = []int64{0, max(n, -n) / 2, max(n, -n) - 1}
		}
		for _, most := range append(amounts, -1, math.MinInt64) {
			if n == 0 || n != math.MinInt64 && max(n, -n) <= most {
				continue
			}
			b := append(packedInt(n), 7)
			r := pack.Read(b)
			if got := r.Int(most); got != 0 {
				t.Errorf("Int(%d) of %d: %d", most, n, got)
			}
			checkStays(t, "Int", r, len(b), api.ErrLong)
		}
	}
}

func TestP5_2MostBelow0(t *testing.T) {
	for _, most := range []int{-1, -2, -127, math.MinInt32, math.MinInt + 1, math.MinInt} {
		r := pack.Read([]byte{0, 0, 9})
		if n := r.Int(int64(most)); n != 0 {
			t.Errorf("Int(%d): %d", most, n)
		}
		checkReader(t, "Int", r, 2, api.OK)
		if s := r.Text(most); s != "" {
			t.Errorf("Text(%d): %q", most, s)
		}
		checkReader(t, "Text", r, 1, api.OK)
		r = pack.Read([]byte{1, 'a'})
		if s := r.Text(most); s != "" {
			t.Errorf("Text(%d): %q", most, s)
		}
		checkStays(t, "Text", r, 2, api.ErrLong)
		r = pack.Read([]byte{1})
		if n := r.Int(int64(most)); n != 0 {
			t.Errorf("Int(%d): %d", most, n)
		}
		checkStays(t, "Int", r, 1, api.ErrLong)
	}
}

func TestP5_2Text(t *testing.T) {
	for _, s := range texts() {
		for _, behind := range behinds() {
			for _, most := range []int{len(s), len(s) + 1, math.MaxInt} {
				r := pack.Read(append(packedText(s), behind...))
				if got := r.Text(most); got != s {
					t.Errorf("Text(%d) of %d bytes: %d bytes %.20q", most, len(s), len(got), got)
				}
				checkReader(t, "Text", r, len(behind), api.OK)
			}
		}
	}
}

func TestP5_2TextLongerThanIsAsked(t *testing.T) {
	for _, s := range texts() {
		b := append(packedText(s), 7)
		for _, most := range []int{-1, 0, len(s) / 2, len(s) - 1} {
			if len(s) == 0 || most >= len(s) {
				continue
			}
			// Whether it goes beyond the end is asked only of a text that may be so long.
			for _, bytesThere := range [][]byte{b, b[:len(b)-1], b[:len(b)-2], packedNum(uint64(len(s)))} {
				r := pack.Read(bytesThere)
				if got := r.Text(most); got != "" {
					t.Errorf("Text(%d) of %d bytes: %.20q", most, len(s), got)
				}
				checkStays(t, "Text", r, len(bytesThere), api.ErrLong)
			}
		}
	}
	for _, n := range []uint64{1 << 31, 1 << 32, 1<<32 + 1, math.MaxInt64 + 1, math.MaxInt64 + 3, math.MaxUint64 - 1, math.MaxUint64} {
		b := append(packedNum(n), "abc"...)
		for _, most := range []int{0, 1, 3, math.MaxInt32} {
			r := pack.Read(b)
			if got := r.Text(most); got != "" {
				t.Errorf("Text(%d) of %d bytes: %q", most, n, got)
			}
			checkStays(t, "Text", r, len(b), api.ErrLong)
		}
	}
}

func TestP5_2TextBeyondTheEnd(t *testing.T) {
	for _, s := range texts() {
		whole := packedText(s)
		for there := range min(len(s), 200) {
			b := whole[:len(whole)-1-there]
			r := pack.Read(b)
			if got := r.Text(len(s)); got != "" {
				t.Errorf("Text of %d bytes, %d of them missing: %.20q", len(s), there+1, got)
			}
			checkStays(t, "Text", r, len(b), api.ErrShort)
		}
	}
	// Lengths that no list has, or that would come out below 0, or in range, when they were added to.
	for _, n := range []uint64{4, 1 << 31, 1 << 32, 1<<32 + 1, math.MaxInt64 - 9, math.MaxInt64 - 1, math.MaxInt64} {
		b := append(packedNum(n), "abc"...)
		r := pack.Read(b)
		if got := r.Text(math.MaxInt); got != "" {
			t.Errorf("Text of %d bytes: %q", n, got)
		}
		checkStays(t, "Text", r, len(b), api.ErrShort)
	}
}

func TestP5_2NoNumber(t *testing.T) {
	for b, e := range noNumbers() {
		for what, read := range map[string]func(*pack.Reader) bool{
			"Num":  func(r *pack.Reader) bool { return r.Num(0) == 0 },
			"Int":  func(r *pack.Reader) bool { return r.Int(0) == 0 },
			"Text": func(r *pack.Reader) bool { return r.Text(0) == "" },
		} {
			r := pack.Read([]byte(b))
			if !read(r) {
				t.Errorf("%s of %x", what, b)
			}
			checkStays(t, what, r, len(b), e)
			// Behind something that could be read.
			r = pack.Read(append([]byte{5}, b...))
			if r.Num(5) != 5 || !read(r) {
				t.Errorf("%s of %x behind a number", what, b)
			}
			checkStays(t, what+" behind a number", r, len(b), e)
		}
	}
}

func TestP5_2Flags(t *testing.T) {
	for _, l := range flags() {
		for _, behind := range behinds() {
			r := pack.Read(append(packedFlags(l), behind...))
			if got := r.Flags(len(l)); !slices.Equal(got, l) {
				t.Errorf("Flags(%d) of %v: %v", len(l), l, got)
			}
			checkReader(t, "Flags", r, len(behind), api.OK)
		}
	}
}

func TestP5_2FlagsOfEachByte(t *testing.T) {
	for x := range 256 {
		for n := range 9 {
			r := pack.Read([]byte{byte(x), 7})
			l := r.Flags(n)
			if x >= 1<<n {
				if len(l) != 0 {
					t.Errorf("Flags(%d) of %d: %v", n, x, l)
				}
				checkStays(t, "Flags", r, 2, api.ErrForm)
				continue
			}
			if len(l) != n || packedFlags(l)[0] != byte(x) {
				t.Errorf("Flags(%d) of %d: %v", n, x, l)
			}
			checkReader(t, "Flags", r, 1, api.OK)
		}
	}
}

func TestP5_2FlagsBeyondTheEnd(t *testing.T) {
	for n := range 9 {
		r := pack.Read(nil)
		if l := r.Flags(n); len(l) != 0 {
			t.Errorf("Flags(%d) of nothing: %v", n, l)
		}
		checkStays(t, "Flags", r, 0, api.ErrShort)
		r = pack.Read([]byte{3})
		if r.Num(3) != 3 || len(r.Flags(n)) != 0 {
			t.Errorf("Flags(%d) at the end", n)
		}
		checkStays(t, "Flags", r, 0, api.ErrShort)
	}
}

func TestP5_2FlagsInANumberThatMayNotBe(t *testing.T) {
	for _, n := range []int{math.MinInt, math.MinInt32, -256, -9, -8, -2, -1, 9, 10, 16, 64, 256, 257, math.MaxInt32, math.MaxInt} {
		// It comes ahead of the end, and of flags that may not be.
		for _, b := range [][]byte{nil, {}, {0}, {1}, {255}, {0, 0}} {
			r := pack.Read(b)
			if l := r.Flags(n); len(l) != 0 {
				t.Errorf("Flags(%d) of %x: %v", n, b, l)
			}
			checkStays(t, "Flags", r, len(b), api.ErrRange)
		}
		// But the first error stays.
		r := pack.Read([]byte{1})
		r.Num(0)
		if l := r.Flags(n); len(l) != 0 {
			t.Errorf("Flags(%d) behind an error: %v", n, l)
		}
		checkStays(t, "Flags", r, 1, api.ErrLong)
	}
}

func TestP5_2FlagsAreNewMemory(t *testing.T) {
	b := []byte{3, 3}
	r := pack.Read(b)
	first := r.Flags(2)
	second := r.Flags(2)
	clear(first[:cap(first)])
	if !slices.Equal(second, []bool{true, true}) || !bytes.Equal(b, []byte{3, 3}) {
		t.Errorf("%v %v", second, b)
	}
}

func TestP5_2TheReadersBytesAreNotChanged(t *testing.T) {
	const length = 64
	room := bytes.Repeat([]byte{42}, length)
	copy(room, "\x05\x07\x02xy\x05\x09")
	before := bytes.Clone(room)
	r := pack.Read(room[:7])
	if r.Num(5) != 5 || r.Int(4) != -4 {
		t.Error("no numbers")
	}
	s := r.Text(2)
	l := r.Flags(3)
	r.Num(9)
	// What lies in the room behind the list's end is none of its bytes.
	if n := r.Num(1000); n != 0 {
		t.Errorf("%d behind the end", n)
	}
	checkStays(t, "the end", r, 0, api.ErrShort)
	if !bytes.Equal(room, before) {
		t.Errorf("changed to %v", room)
	}
	clear(room)
	if s != "xy" || !slices.Equal(l, []bool{true, false, true}) {
		t.Errorf("what was read changed with the reader's bytes: %q %v", s, l)
	}
	r = pack.Read(room[:2])
	if s := r.Text(0); s != "" {
		t.Errorf("%q", s)
	}
	r = pack.Read(append(make([]byte, 0, 9), "\x03ab"...))
	if s := r.Text(3); s != "" {
		t.Errorf("%q", s)
	}
	checkStays(t, "a text into the room", r, 3, api.ErrShort)
}

func TestP5_2ReadersOfTheSameBytesAreApart(t *testing.T) {
	b := []byte{1, 2, 3}
	first, second := pack.Read(b), pack.Read(b)
	if first == second || first.Num(9) != 1 || first.Num(9) != 2 {
		t.Error("the first reader")
	}
	first.Fail(api.ErrSum)
	checkReader(t, "the second reader", second, 3, api.OK)
	if second.Num(9) != 1 {
		t.Error("the second reader is not at the beginning")
	}
	checkReader(t, "the first reader", first, 1, api.ErrSum)
	checkReader(t, "the second reader", second, 2, api.OK)
}

func TestP5_2LeftAndEnd(t *testing.T) {
	for _, b := range [][]byte{nil, {}} {
		r := pack.Read(b)
		if r == nil {
			t.Fatal("Read answers nil")
		}
		checkReader(t, "no bytes", r, 0, api.OK)
	}
	b := bytes.Repeat([]byte{5}, 100)
	r := pack.Read(b)
	for i := range b {
		checkReader(t, "on the way", r, len(b)-i, api.OK)
		// Asking for the end too early is no error that stays.
		if e := r.End(); e != api.ErrForm {
			t.Errorf("End with %d bytes left: %v", len(b)-i, e)
		}
		if n := r.Num(5); n != 5 {
			t.Errorf("number %d: %d", i, n)
		}
	}
	checkReader(t, "at the end", r, 0, api.OK)
	if n := r.Num(5); n != 0 {
		t.Errorf("a number at the end: %d", n)
	}
	checkStays(t, "beyond the end", r, 0, api.ErrShort)
}

func TestP5_2Fail(t *testing.T) {
	errs := []api.Errno{api.ErrNil, math.MinInt, -1, 99, math.MaxInt}
	for e := api.ErrForm; e < api.ErrNil; e++ {
		errs = append(errs, e)
	}
	for _, e := range errs {
		r := pack.Read([]byte{1, 2, 3})
		r.Fail(api.OK)
		checkReader(t, "Fail(OK)", r, 3, api.OK)
		if n := r.Num(1); n != 1 {
			t.Errorf("%d behind Fail(OK)", n)
		}
		r.Fail(e)
		checkStays(t, "Fail", r, 2, e)
		r = pack.Read(nil)
		r.Fail(e)
		checkStays(t, "Fail of no bytes", r, 0, e)
		// The first error stays.
		r = pack.Read([]byte{1, 2, 3})
		r.Num(0)
		r.Fail(e)
		checkStays(t, "Fail behind an error", r, 3, api.ErrLong)
		// That bytes are left is none that stays.
		r = pack.Read([]byte{1, 2, 3})
		r.End()
		r.Fail(e)
		checkStays(t, "Fail behind End", r, 3, e)
	}
}

func TestP5_2ANilReader(t *testing.T) {
	var r *pack.Reader
	r.Fail(api.ErrSum)
	checkStays(t, "nil", r, 0, api.ErrNil)
}

func TestP5_3WhatWasPackedIsRead(t *testing.T) {
	w := new(pack.Writer)
	for i, n := range nums() {
		w.Num(n).Flags(flags()[2*i]...).Int(ints()[i]).Text(texts()[i%len(texts())])
	}
	for _, l := range flags() {
		w.Flags(l...)
	}
	for _, n := range ints()[1:] {
		w.Int(max(n, -math.MaxInt64))
	}
	b := w.Bytes()
	r := pack.Read(b)
	for i, want := range nums() {
		if n := r.Num(want); n != want {
			t.Errorf("%d: %d, not %d", i, n, want)
		}
		if want := flags()[2*i]; !slices.Equal(r.Flags(len(want)), want) {
			t.Errorf("%d: not the flags %v", i, want)
		}
		if want := ints()[i]; want == math.MinInt64 {
			// No amount that can be asked is so great: it is read as a number instead.
			if n := r.Num(math.MaxUint64); n != math.MaxUint64 {
				t.Errorf("%d: %d", i, n)
			}
		} else if n := r.Int(max(want, -want)); n != want {
			t.Errorf("%d: %d, not %d", i, n, want)
		}
		if want := texts()[i%len(texts())]; r.Text(len(want)) != want {
			t.Errorf("%d: not the text %.20q", i, want)
		}
	}
	for _, want := range flags() {
		if l := r.Flags(len(want)); !slices.Equal(l, want) {
			t.Errorf("%v, not %v", l, want)
		}
	}
	for _, want := range ints()[1:] {
		want = max(want, -math.MaxInt64)
		if n := r.Int(math.MaxInt64); n != want {
			t.Errorf("%d, not %d", n, want)
		}
	}
	checkReader(t, "all that was packed", r, 0, api.OK)
}

func TestP5_3WhatWasPackedIsReadInAllOrders(t *testing.T) {
	// Four kinds, of which each sequence of five is tried.
	for order := range 4 * 4 * 4 * 4 * 4 {
		w := new(pack.Writer)
		for at, rest := 0, order; at < 5; at, rest = at+1, rest/4 {
			switch rest % 4 {
			case 0:
				w.Num(uint64(100 * at))
			case 1:
				w.Int(int64(-100 * at))
			case 2:
				w.Text(strings.Repeat("\x80", 40*at))
			case 3:
				w.Flags(make([]bool, at)...)
			}
		}
		r := pack.Read(w.Bytes())
		for at, rest := 0, order; at < 5; at, rest = at+1, rest/4 {
			right := true
			switch rest % 4 {
			case 0:
				right = r.Num(400) == uint64(100*at)
			case 1:
				right = r.Int(400) == int64(-100*at)
			case 2:
				right = r.Text(160) == strings.Repeat("\x80", 40*at)
			case 3:
				right = slices.Equal(r.Flags(at), make([]bool, at))
			}
			if !right {
				t.Errorf("order %d: part %d was not read as it was packed", order, at)
			}
		}
		checkReader(t, "an order", r, 0, api.OK)
	}
}
