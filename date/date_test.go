package date_test

import (
	"math"
	"math/big"
	"regexp"
	"strconv"
	"strings"
	"testing"
	"time"

	"biscotti/api"
	"biscotti/date"
)

// The first and the last day that there are, and the times at both ends.
const (
	firstDay  = -134774
	lastDay   = 2932896
	firstTime = firstDay * 86400
	lastTime  = lastDay*86400 + 86399
)

// ints are edges of an int's range, and numbers near what the chapter bounds.
func ints() []int {
	l := []int{math.MinInt, math.MinInt + 1, math.MinInt32, math.MaxInt32, math.MaxInt - 1, math.MaxInt, 1 << 40, -1 << 40}
	for i := -40; i <= 40; i++ {
		l = append(l, i, 1601+i, 9999+i, firstDay+i, lastDay+i, firstTime+i, lastTime+i)
	}
	for i := range 63 {
		l = append(l, 1<<i, -1<<i, math.MaxInt-i, math.MinInt+i)
	}
	return l
}

// leaps tells by the chapter's words whether a year is a leap year.
func leaps(year int) bool {
	fourth, hundredth, fourHundredth := year%4 == 0, year%100 == 0, year%400 == 0
	return fourHundredth || fourth && !hundredth
}

// longest tells by the chapter's words how many days a month has, and 0 of one that there is not.
func longest(year, month int) int {
	switch month {
	case 1, 3, 5, 7, 8, 10, 12:
		return 31
	case 4, 6, 9, 11:
		return 30
	case 2:
		if leaps(year) {
			return 29
		}
		return 28
	}
	return 0
}

// there tells whether there is such a day, in a year that may be.
func there(year, month, day int) bool {
	return year >= 1601 && year <= 9999 && day >= 1 && day <= longest(year, month)
}

// numbered tells the day's number of a day that there is.
func numbered(year, month, day int) int {
	return int(time.Date(year, time.Month(month), day, 0, 0, 0, 0, time.UTC).Unix() / 86400)
}

func TestP7_1DaysAndCivilOfEachDay(t *testing.T) {
	number := firstDay
	for year := 1601; year <= 9999; year++ {
		for month := 1; month <= 12; month++ {
			most := longest(year, month)
			for day := 1; day <= most; day++ {
				if n, e := date.Days(year, month, day); n != number || e != api.OK {
					t.Fatalf("Days(%d, %d, %d): %d %v, not %d", year, month, day, n, e, number)
				}
				if y, m, d, e := date.Civil(number); y != year || m != month || d != day || e != api.OK {
					t.Fatalf("Civil(%d): %d %d %d %v, not %d %d %d", number, y, m, d, e, year, month, day)
				}
				number++
			}
		}
	}
	if number != lastDay+1 {
		t.Errorf("%d is behind the last day", number)
	}
}

func TestP7_1Days(t *testing.T) {
	for _, c := range []struct{ year, month, day, want int }{
		{1970, 1, 1, 0},
		{1970, 1, 2, 1},
		{1969, 12, 31, -1},
		{1970, 2, 1, 31},
		{1970, 12, 31, 364},
		{1972, 2, 29, 789},
		{1994, 11, 6, 9075},
		{2000, 2, 29, 11016},
		{2000, 3, 1, 11017},
		{2026, 11, 18, 20775},
		// The calendar of today also holds of years that had another one.
		{1601, 1, 1, firstDay},
		{1700, 2, 28, -98557},
		{1752, 9, 3, -79377},
		{1900, 3, 1, -25508},
		{9999, 12, 31, lastDay},
	} {
		if n, e := date.Days(c.year, c.month, c.day); n != c.want || e != api.OK {
			t.Errorf("Days(%d, %d, %d): %d %v, not %d", c.year, c.month, c.day, n, e, c.want)
		}
	}
}

func TestP7_1DaysThatThereAreNot(t *testing.T) {
	for _, c := range [][3]int{
		{1600, 12, 31}, {1600, 1, 1}, {10000, 1, 1}, {0, 1, 1}, {-1970, 1, 1}, {70, 1, 1}, {99, 1, 1},
		{1970, 0, 1}, {1970, 13, 1}, {1970, -1, 1}, {1970, 1, 0}, {1970, 1, -1}, {1970, 1, 32},
		{1970, 2, 29}, {1970, 2, 30}, {1972, 2, 30}, {1900, 2, 29}, {2100, 2, 29}, {2000, 2, 30},
		{1970, 4, 31}, {1970, 6, 31}, {1970, 9, 31}, {1970, 11, 31}, {9999, 12, 32}, {1601, 1, 0}, {2000, 0, 0},
		{math.MinInt, 1, 1}, {math.MaxInt, 12, 31}, {1970, math.MinInt, 1}, {1970, math.MaxInt, 1}, {1970, 1, math.MinInt}, {1970, 1, math.MaxInt},
		{math.MaxInt, math.MaxInt, math.MaxInt}, {math.MinInt, math.MinInt, math.MinInt},
	} {
		if n, e := date.Days(c[0], c[1], c[2]); n != 0 || e != api.ErrRange {
			t.Errorf("Days(%d, %d, %d): %d %v", c[0], c[1], c[2], n, e)
		}
	}
}

func TestP7_1DaysOfAllKindsOfNumbers(t *testing.T) {
	years := append(ints(), 1700, 1800, 1900, 1970, 1996, 2000, 2100, 2400)
	days := append(ints(), 1970)
	for _, year := range years {
		for month := -2; month <= 15; month++ {
			for day := -2; day <= 34; day++ {
				checkDays(t, year, month, day)
			}
		}
		for _, n := range days {
			checkDays(t, year, n, 1)
			checkDays(t, year, 2, n)
			checkDays(t, year, 12, n)
		}
	}
}

// checkDays holds one call of Days against the chapter's words.
func checkDays(t *testing.T, year, month, day int) {
	t.Helper()
	want, wrong := 0, api.ErrRange
	if there(year, month, day) {
		want, wrong = numbered(year, month, day), api.OK
	}
	if n, e := date.Days(year, month, day); n != want || e != wrong {
		t.Fatalf("Days(%d, %d, %d): %d %v, not %d %v", year, month, day, n, e, want, wrong)
	}
}

func TestP7_1Civil(t *testing.T) {
	for days, want := range map[int][3]int{
		0:        {1970, 1, 1},
		-1:       {1969, 12, 31},
		58:       {1970, 2, 28},
		59:       {1970, 3, 1},
		364:      {1970, 12, 31},
		365:      {1971, 1, 1},
		789:      {1972, 2, 29},
		1095:     {1972, 12, 31},
		11016:    {2000, 2, 29},
		-25509:   {1900, 2, 28},
		-25508:   {1900, 3, 1},
		firstDay: {1601, 1, 1},
		lastDay:  {9999, 12, 31},
	} {
		if y, m, d, e := date.Civil(days); [3]int{y, m, d} != want || e != api.OK {
			t.Errorf("Civil(%d): %d %d %d %v, not %v", days, y, m, d, e, want)
		}
	}
	for _, days := range append(ints(), firstDay-1, lastDay+1, firstDay-366, lastDay+366) {
		y, m, d, e := date.Civil(days)
		if days < firstDay || days > lastDay {
			if y != 0 || m != 0 || d != 0 || e != api.ErrRange {
				t.Errorf("Civil(%d): %d %d %d %v", days, y, m, d, e)
			}
			continue
		}
		if e != api.OK || !there(y, m, d) || numbered(y, m, d) != days {
			t.Errorf("Civil(%d): %d %d %d %v", days, y, m, d, e)
		}
	}
}

func TestP7_1Week(t *testing.T) {
	for days, want := range map[int]int{
		-5: 6, -4: 0, -3: 1, -2: 2, -1: 3, 0: 4, 1: 5, 2: 6, 3: 0, 4: 1, 10: 0, 11: 1, -11: 0, -12: 6,
		9075:     0,
		11016:    2,
		20775:    3,
		firstDay: 1,
		lastDay:  5,
	} {
		if w := date.Week(days); w != want {
			t.Errorf("Week(%d): %d, not %d", days, w, want)
		}
	}
	// Weeks go on beyond the years that may be.
	for _, days := range ints() {
		behind := new(big.Int).Add(big.NewInt(int64(days)), big.NewInt(4))
		want := int(behind.Mod(behind, big.NewInt(7)).Int64())
		if w := date.Week(days); w != want {
			t.Errorf("Week(%d): %d, not %d", days, w, want)
		}
	}
	for days := firstDay; days <= lastDay; days++ {
		if w := date.Week(days); w != int(time.Unix(int64(days)*86400, 0).UTC().Weekday()) {
			t.Fatalf("Week(%d): %d", days, w)
		}
	}
}

func TestP7_1Leap(t *testing.T) {
	for year, want := range map[int]bool{
		1600: true, 1601: false, 1604: true, 1700: false, 1800: false, 1900: false, 1970: false, 1972: true,
		1996: true, 1998: false, 2000: true, 2004: true, 2100: false, 2400: true, 9999: false, 10000: true,
		0: true, 4: true, 100: false, 400: true, -1: false, -4: true, -100: false, -400: true, -2: false,
	} {
		if date.Leap(year) != want {
			t.Errorf("Leap(%d): not %v", year, want)
		}
	}
	l := ints()
	for year := -1000; year <= 11000; year++ {
		l = append(l, year)
	}
	for _, year := range l {
		if want := leaps(year); date.Leap(year) != want {
			t.Errorf("Leap(%d): not %v", year, want)
		}
	}
}

// at tells the time's number of a time that there is.
func at(year, month, day, hour, minute, second int) int {
	return numbered(year, month, day)*86400 + hour*3600 + minute*60 + second
}

// checkParse holds one call of Parse of a text that is a date against its time.
func checkParse(t *testing.T, s string, want int) {
	t.Helper()
	if n, e := date.Parse(s); n != want || e != api.OK {
		t.Errorf("Parse(%.80q): %d %v, not %d", s, n, e, want)
	}
}

// checkNone holds one call of Parse of a text that is none against the chapter.
func checkNone(t *testing.T, s string) {
	t.Helper()
	if n, e := date.Parse(s); n != 0 || e != api.ErrForm {
		t.Errorf("Parse(%.80q): %d %v", s, n, e)
	}
}

func TestP7_2Parse(t *testing.T) {
	checkParse(t, "Sun, 06 Nov 1994 08:49:37 GMT", 784111777)
	for s, want := range map[string]int{
		"Sunday, 06-Nov-94 08:49:37 GMT":    784111777,
		"Sun Nov  6 08:49:37 1994":          784111777,
		"1994/Nov/6/8:49:37":                at(1994, 11, 6, 8, 49, 37),
		"1 jan 1970 0:0:0":                  0,
		"1 Jan 1970 00:00:01":               1,
		"31 Dec 1969 23:59:59":              -1,
		"1 jan 1601 0:0:0":                  firstTime,
		"31 dec 9999 23:59:59":              lastTime,
		"29 Feb 2000 12:00:00":              at(2000, 2, 29, 12, 0, 0),
		"29 Feb 1972 1:2:3":                 at(1972, 2, 29, 1, 2, 3),
		"Wed, 18 Nov 2026 19:49:05 GMT":     at(2026, 11, 18, 19, 49, 5),
		"Wed, 18 Nov 2026 19:49:05 +0200":   at(2026, 11, 18, 19, 49, 5),
		"Wed Nov 18 19:49:05 CET 2026":      at(2026, 11, 18, 19, 49, 5),
		"\t 1 \t jan\t1970 0:0:0 ~~":        0,
		"1 January 1970 0:0:0":              0,
		"18th Nov 2026AD 19:49:05Z":         at(2026, 11, 18, 19, 49, 5),
		"Monday the 18 of Sept 2026 9:9:9":  at(2026, 9, 18, 9, 9, 9),
		"1 marching 2001 1:1:1":             at(2001, 3, 1, 1, 1, 1),
		"0:0:0 1 jan 1970":                  0,
		"1970 0:0:0 jan 1":                  0,
		"jan 0:0:0 1 1970":                  0,
		"1\xffx jan\xc3\xa4 1970\x80 0:0:0": 0,
		"1 jan 1970 0:0:0\x00":              0,
		"1 jan 1970 0:0:0 \x00 \x7f \xff":   0,
	} {
		checkParse(t, s, want)
	}
}

func TestP7_2FourPartsAreAsked(t *testing.T) {
	parts := []string{"8:49:37", "6", "Nov", "1994"}
	for bits := range 16 {
		var l []string
		for i, p := range parts {
			if bits>>i&1 == 1 {
				l = append(l, p)
			}
		}
		s := strings.Join(l, " ")
		if bits == 15 {
			checkParse(t, s, 784111777)
			continue
		}
		checkNone(t, s)
		checkNone(t, "Sun, "+s+" GMT")
		if bits&3 != 1 {
			// A part that comes twice does not stand for another one, but a time, which begins as a day does.
			checkNone(t, s+" "+s)
		}
	}
	for _, s := range []string{"", " ", ";", "\x00", "GMT", "06 Nov 1994", "06Nov1994 08:49:37", "6 Nov 1994 8:49", "6.Nov.199408:49:37",
		"6 Nov 1994T08:49:37", "6 11 1994 8:49:37", "1994-11-06T08:49:37Z", "1994-11-06 08:49:37", strings.Repeat("6 ", 1000), strings.Repeat("9", 1<<16)} {
		checkNone(t, s)
	}
}

func TestP7_2WhatThereIsNot(t *testing.T) {
	for _, s := range []string{
		"1 jan 2000 24:00:00", "1 jan 2000 25:0:0", "1 jan 2000 99:0:0", "1 jan 2000 0:60:0", "1 jan 2000 1:99:0", "1 jan 2000 1:0:60", "1 jan 2000 23:59:61",
		"0 jan 2000 1:1:1", "00 jan 2000 1:1:1", "32 jan 2000 1:1:1", "99 jan 2000 1:1:1", "31 apr 2000 1:1:1", "31 jun 2000 1:1:1", "31 sep 2000 1:1:1", "31 nov 2000 1:1:1",
		"30 feb 2000 1:1:1", "31 Feb 2000 1:1:1", "29 feb 2001 1:1:1", "29 feb 1900 1:1:1", "29 feb 2100 1:1:1", "29 feb 01 1:1:1",
		"1 jan 1600 1:1:1", "31 dec 1600 23:59:59", "1 jan 0100 1:1:1", "1 jan 100 1:1:1", "1 jan 999 1:1:1", "1 jan 1000 1:1:1",
		"1 jan 20000 1:1:1", "1 jan 10000 1:1:1", "1 jan 5 1:1:1", "1 jan 00001970 1:1:1",
	} {
		checkNone(t, s)
	}
	// What stands first counts, though there is none such, and a right one behind it.
	checkNone(t, "24:00:00 1 jan 2000 23:00:00")
	checkNone(t, "32 jan 2000 1:1:1 31")
	checkNone(t, "1 jan 1600 1:1:1 2000")
	checkNone(t, "31 feb 2000 1:1:1 mar")
}

func TestP7_2EachHourMinuteSecond(t *testing.T) {
	for n := range 100 {
		digits := []string{strconv.Itoa(n)}
		if n < 10 {
			digits = append(digits, "0"+digits[0])
		}
		for _, d := range digits {
			for i, most := range []int{23, 59, 59} {
				clock := []string{"1", "02", "3"}
				clock[i] = d
				s := "5 Jun 2007 " + strings.Join(clock, ":")
				if n > most {
					checkNone(t, s)
					continue
				}
				told := []int{1, 2, 3}
				told[i] = n
				checkParse(t, s, at(2007, 6, 5, told[0], told[1], told[2]))
			}
		}
	}
}

func TestP7_2EachDay(t *testing.T) {
	for month, name := range []string{"jan", "feb", "mar", "apr", "may", "jun", "jul", "aug", "sep", "oct", "nov", "dec"} {
		for day := range 100 {
			for _, year := range []int{1601, 1900, 1999, 2000, 2004, 2100, 9999} {
				s := strconv.Itoa(day) + " " + name + " " + strconv.Itoa(year) + " 23:58:57"
				if there(year, month+1, day) {
					checkParse(t, s, at(year, month+1, day, 23, 58, 57))
				} else {
					checkNone(t, s)
				}
			}
		}
	}
}

func TestP7_2EachYear(t *testing.T) {
	for n := range 10000 {
		digits := strconv.Itoa(n)
		for len(digits) <= 4 {
			year := n
			switch {
			case n < 70:
				year = 2000 + n
			case n < 100:
				year = 1900 + n
			}
			s := "2 Feb " + digits + " 0:0:0"
			if len(digits) < 2 || year < 1601 {
				checkNone(t, s)
			} else {
				checkParse(t, s, at(year, 2, 2, 0, 0, 0))
				// With a fifth digit it is none, whatever stands in it.
				checkNone(t, "2 Feb 0"+strings.Repeat("0", 4-len(digits))+digits+" 0:0:0")
			}
			digits = "0" + digits
		}
	}
}

func TestP7_2Months(t *testing.T) {
	names := []string{"jan", "feb", "mar", "apr", "may", "jun", "jul", "aug", "sep", "oct", "nov", "dec"}
	of := func(token string) (int, bool) {
		for i, name := range names {
			if len(token) >= 3 && strings.ToLower(token[:3]) == name {
				return i + 1, true
			}
		}
		return 0, false
	}
	var tokens []string
	for _, name := range names {
		for bits := range 8 {
			b := []byte(name)
			for i := range b {
				if bits>>i&1 == 1 {
					b[i] -= 32
				}
			}
			s := string(b)
			tokens = append(tokens, s, s+"uary", s+"9", s+":", s+"\xff", s[:2], s[1:], "x"+s, "1"+s, ":"+s, s[:2]+"x", "x"+s[1:], s[:1]+"\x01"+s[2:])
		}
		for _, bit := range []byte{1, 32 | 1, 128, 64, 16} {
			for i := range 3 {
				b := []byte(name)
				b[i] ^= bit
				tokens = append(tokens, string(b))
			}
		}
	}
	// The sign of degrees Kelvin, and a long s, are no letters.
	tokens = append(tokens, "o\u212at", "\u017fep", "Mon", "janv", "mai", "okt", "dez", "julie")
	for _, token := range tokens {
		s := "7 2010 4:5:6 " + token
		month, is := of(token)
		if is {
			checkParse(t, s, at(2010, month, 7, 4, 5, 6))
		} else {
			checkNone(t, s)
		}
	}
}

// parted tells by the chapter's words whether tokens are parted by that byte.
func parted(x int) bool {
	return x == 9 || x >= 32 && x <= 47 || x >= 59 && x <= 64 || x >= 91 && x <= 96 || x >= 123 && x <= 126
}

func TestP7_2EachByteBetweenTokens(t *testing.T) {
	for x := range 256 {
		by := string([]byte{byte(x)})
		// Between the year and the time it is one token, if it does not part them.
		for _, s := range []string{"1 jan 1970" + by + "0:0:0", "1 jan 1970" + by + by + "0:0:0" + by, by + "1" + by + "jan" + by + "1970" + by + "0:0:0" + by} {
			if parted(x) {
				checkParse(t, s, 0)
			} else {
				checkNone(t, s)
			}
		}
		// Behind what is a whole part, anything but a digit may stand.
		if digit := x >= 48 && x <= 57; !digit {
			checkParse(t, "1 jan 1970 0:0:0"+by, 0)
			checkParse(t, "1 jan 1970 0:0:0"+by+"5", 0)
			checkParse(t, "1"+by+" jan 1970 0:0:0", 0)
			checkParse(t, "1"+by+"9th jan 1970"+by+" 0:0:00", 0)
			checkParse(t, "1 jan"+by+" 1970"+by+" 0:0:0", 0)
		} else {
			checkParse(t, "1 jan 1970 0:0:0"+by, x-48)
			checkNone(t, "1 jan 1970"+by+" 0:0:0")
			checkNone(t, "1 jan 1970 0:0:00"+by)
			checkNone(t, "01"+by+" jan 1970 0:0:0")
		}
	}
}

func TestP7_2WhatColonsMayBe(t *testing.T) {
	for token, want := range map[string]int{
		"1:2:3":      3723,
		"01:02:03":   3723,
		"1:2:3x":     3723,
		"1:2:3:4":    3723,
		"1:2:3:":     3723,
		"1:2:3a4":    3723,
		"1:2:3\x004": 3723,
	} {
		checkParse(t, token+" 1 jan 1970", want)
		checkParse(t, "1 jan 1970 "+token, want)
	}
	for _, token := range []string{"1:2", "1:2:", "1::3", ":1:2:3", "::", "1:2:003", "1:2:345", "001:2:3", "1:002:3", "100:2:3", "x1:2:3", "1x:2:3",
		"1:x2:3", "1:2x:3", "1:2:x3", "1.2.3", "1:2.3", "1", "12", "123", "\xef\xbc\x91:2:3", "1\u02d02\u02d03", "1:-2:3", "1:+2:3"} {
		checkNone(t, "1 jan 1970 "+token)
		checkNone(t, "1 jan "+token+" 1970")
	}
}

func TestP7_2WhatATokenIsFirst(t *testing.T) {
	for s, want := range map[string]int{
		// A second time is a day, if none was met: it begins with its digits.
		"8:49:37 6:49:37 Nov 1994":     at(1994, 11, 6, 8, 49, 37),
		"08:49:37 06:11 Nov 94":        at(1994, 11, 6, 8, 49, 37),
		"1:2:3 4:5:6 jul 17:8:9":       at(2017, 7, 4, 1, 2, 3),
		"6 Nov 94 8:49:37":             at(1994, 11, 6, 8, 49, 37),
		"8:49:37 6 94 Nov":             at(1994, 11, 6, 8, 49, 37),
		"11 12 jan 1:2:3":              at(2012, 1, 11, 1, 2, 3),
		"12 11 jan 1:2:3":              at(2011, 1, 12, 1, 2, 3),
		"1994 6 Nov 8:49:37":           at(1994, 11, 6, 8, 49, 37),
		"007 6 Nov 8:49:37":            at(2007, 11, 6, 8, 49, 37),
		"1:2:345 12 jan 1999 4:5:6":    at(2012, 1, 1, 4, 5, 6),
		"1:2:345 jan 1999 4:5:6 12":    at(1999, 1, 1, 4, 5, 6),
		"0070:1:1 12 jan 6:7:8":        at(1970, 1, 12, 6, 7, 8),
		"3x 44x feb 9:9:9":             at(2044, 2, 3, 9, 9, 9),
		"1 jan 1970 0:0:0 2":           0,
		"1 jan feb 1970 0:0:0":         0,
		"1 jan 1970 2000 0:0:0":        0,
		"1 jan 1970 0:0:0 1:1:1 1:1:1": 0,
		"1 2 3 4 jan 70 5 0:0:0":       0,
	} {
		checkParse(t, s, want)
	}
	// A year that is below 1601 is met all the same.
	checkNone(t, "123:4:5 12 jan 6:7:8 1999")
}

// What a token may be, by RFC 6265's grammar; what is behind is anything that does not begin with a digit.
var (
	aTime  = regexp.MustCompile(`(?s)^([0-9]{1,2}):([0-9]{1,2}):([0-9]{1,2})([^0-9].*)?$`)
	aDay   = regexp.MustCompile(`(?s)^([0-9]{1,2})([^0-9].*)?$`)
	aMonth = regexp.MustCompile(`(?s)^(?:([jJ][aA][nN])|([fF][eE][bB])|([mM][aA][rR])|([aA][pP][rR])|([mM][aA][yY])|([jJ][uU][nN])|([jJ][uU][lL])|([aA][uU][gG])|([sS][eE][pP])|([oO][cC][tT])|([nN][oO][vV])|([dD][eE][cC])).*$`)
	aYear  = regexp.MustCompile(`(?s)^([0-9]{2,4})([^0-9].*)?$`)
	parts  = regexp.MustCompile("[\\x00-\\x08\\x0a-\\x1f0-9:A-Za-z\\x7f]+")
)

// number tells the number whose digits these are.
func number(s string) int {
	n, _ := strconv.Atoi(s)
	return n
}

// parsed tells by the chapter's words which time a text of small signs is, and whether it is one.
func parsed(s string) (int, bool) {
	var clock, day, month, year []string
	for _, token := range parts.FindAllString(s, -1) {
		if m := aTime.FindStringSubmatch(token); m != nil && clock == nil {
			clock = m
		} else if m := aDay.FindStringSubmatch(token); m != nil && day == nil {
			day = m
		} else if m := aMonth.FindStringSubmatch(token); m != nil && month == nil {
			month = m
		} else if m := aYear.FindStringSubmatch(token); m != nil && year == nil {
			year = m
		}
	}
	if clock == nil || day == nil || month == nil || year == nil {
		return 0, false
	}
	y, m, d := number(year[1]), 0, number(day[1])
	if y >= 70 && y <= 99 {
		y += 1900
	} else if y <= 69 {
		y += 2000
	}
	for i := 1; i <= 12; i++ {
		if month[i] != "" {
			m = i
		}
	}
	hour, minute, second := number(clock[1]), number(clock[2]), number(clock[3])
	if hour > 23 || minute > 59 || second > 59 || !there(y, m, d) {
		return 0, false
	}
	return at(y, m, d, hour, minute, second), true
}

func TestP7_2MixedTokens(t *testing.T) {
	tokens := []string{"8:49:37", "08:49:37x", "23:59:59", "24:0:0", "1:60:1", "1:1:60", "1:2:345", "1:2", "0:0:0:1", "6", "06", "31", "30th", "29", "0", "00", "12", "68", "69", "70", "99", "069", "100", "123",
		"1994", "1600", "1601", "9999", "2000AD", "20000", "0094", "jan", "Feb", "MARCH", "aprilis", "june", "nov", "dec", "ja", "xjan", "1jan", "jan1", "Sun", "GMT", "T1:1:1", ":", "1:", "x", "\x00", "7\x7f"}
	between := []string{" ", "-", ", ", "\t", "/", ";", "@", "[", "`", "{", "~", "  ", "", "", ":", "\n"}
	seed := uint32(7)
	next := func(most int) int {
		seed = seed*1664525 + 1013904223
		return int(seed>>8) % most
	}
	dates := 0
	for range 300000 {
		var b strings.Builder
		for range 3 + next(5) {
			b.WriteString(tokens[next(len(tokens))])
			b.WriteString(between[next(len(between))])
		}
		s := b.String()
		want, is := parsed(s)
		if !is {
			checkNone(t, s)
			continue
		}
		dates++
		checkParse(t, s, want)
	}
	if dates < 3000 {
		t.Errorf("only %d of the texts are dates", dates)
	}
}

func TestP7_2LongTexts(t *testing.T) {
	checkParse(t, strings.Repeat("; ", 1<<18)+"1 jan 1970 0:0:0"+strings.Repeat(" 9:9:9", 1<<16), 0)
	checkParse(t, strings.Repeat("x", 1<<18)+" 1 jan 1970 0:0:0 "+strings.Repeat("9", 1<<18), 0)
	checkParse(t, "1"+strings.Repeat("x", 1<<18)+" jan"+strings.Repeat("0", 1<<18)+" 1970 0:0:0", 0)
	checkNone(t, strings.Repeat("0:", 1<<18)+" 1 jan "+strings.Repeat("0", 1<<18))
}

func TestP7_2Text(t *testing.T) {
	for n, want := range map[int]string{
		784111777:      "Sun, 06 Nov 1994 08:49:37 GMT",
		0:              "Thu, 01 Jan 1970 00:00:00 GMT",
		1:              "Thu, 01 Jan 1970 00:00:01 GMT",
		59:             "Thu, 01 Jan 1970 00:00:59 GMT",
		60:             "Thu, 01 Jan 1970 00:01:00 GMT",
		3599:           "Thu, 01 Jan 1970 00:59:59 GMT",
		3600:           "Thu, 01 Jan 1970 01:00:00 GMT",
		86399:          "Thu, 01 Jan 1970 23:59:59 GMT",
		86400:          "Fri, 02 Jan 1970 00:00:00 GMT",
		-1:             "Wed, 31 Dec 1969 23:59:59 GMT",
		-86400:         "Wed, 31 Dec 1969 00:00:00 GMT",
		-86401:         "Tue, 30 Dec 1969 23:59:59 GMT",
		951782400:      "Tue, 29 Feb 2000 00:00:00 GMT",
		firstTime:      "Mon, 01 Jan 1601 00:00:00 GMT",
		lastTime:       "Fri, 31 Dec 9999 23:59:59 GMT",
		lastTime - 1:   "Fri, 31 Dec 9999 23:59:58 GMT",
		firstTime + 61: "Mon, 01 Jan 1601 00:01:01 GMT",
	} {
		if s, e := date.Text(n); s != want || e != api.OK {
			t.Errorf("Text(%d): %q %v, not %q", n, s, e, want)
		}
	}
}

// times are spread over all that may be, with each second of some days, and each month's ends.
func times() []int {
	var l []int
	for n := firstTime; n <= lastTime; n += 86400*3 + 12347 {
		l = append(l, n)
	}
	for _, day := range []int{firstDay, -1, 0, 11016, lastDay} {
		for second := range 86400 {
			l = append(l, day*86400+second)
		}
	}
	for year := 1601; year <= 9999; year += 33 {
		for month := 1; month <= 12; month++ {
			n := numbered(year, month, 1) * 86400
			l = append(l, n, numbered(year, month, longest(year, month))*86400+86399)
		}
	}
	return l
}

func TestP7_2TextOfAllKindsOfTimes(t *testing.T) {
	for _, n := range times() {
		want := time.Unix(int64(n), 0).UTC().Format("Mon, 02 Jan 2006 15:04:05 GMT")
		if s, e := date.Text(n); s != want || e != api.OK {
			t.Fatalf("Text(%d): %q %v, not %q", n, s, e, want)
		}
	}
	for _, n := range ints() {
		s, e := date.Text(n)
		if n >= firstTime && n <= lastTime {
			if s == "" || e != api.OK {
				t.Errorf("Text(%d): %q %v", n, s, e)
			}
		} else if s != "" || e != api.ErrRange {
			t.Errorf("Text(%d): %q %v", n, s, e)
		}
	}
}

func TestP7_3TheNextDayIsOneMore(t *testing.T) {
	year, month, day := 1601, 1, 1
	for days := firstDay; days <= lastDay; days++ {
		y, m, d, e := date.Civil(days)
		if e != api.OK || y != year || m != month || d != day {
			t.Fatalf("Civil(%d): %d %d %d %v, behind the day ahead it is %d %d %d", days, y, m, d, e, year, month, day)
		}
		if back, e := date.Days(y, m, d); back != days || e != api.OK {
			t.Fatalf("Days of Civil(%d): %d %v", days, back, e)
		}
		if date.Week(days+1) != (date.Week(days)+1)%7 {
			t.Fatalf("behind the weekday %d comes %d", date.Week(days), date.Week(days+1))
		}
		switch day++; {
		case day <= longest(year, month):
		case month < 12:
			month, day = month+1, 1
		default:
			year, month, day = year+1, 1, 1
		}
	}
}

func TestP7_4TextIsParsedAsThatTime(t *testing.T) {
	for _, n := range times() {
		s, e := date.Text(n)
		if e != api.OK {
			t.Fatalf("Text(%d): %v", n, e)
		}
		if back, e := date.Parse(s); back != n || e != api.OK {
			t.Fatalf("Parse of Text(%d), %q: %d %v", n, s, back, e)
		}
	}
}
