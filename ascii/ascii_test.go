package ascii_test

import (
	"bytes"
	"math"
	"math/big"
	"slices"
	"strings"
	"testing"

	"biscotti/ascii"
)

// greatest is the greatest number that is told of digits.
const greatest = 1 << 40

// each is a text of each single byte.
func each() []string {
	var l []string
	for x := range 256 {
		l = append(l, string([]byte{byte(x)}))
	}
	return l
}

// short are all texts of at most that many bytes of a few.
func short(of string, most int) []string {
	all, last := []string{""}, []string{""}
	for range most {
		var longer []string
		for _, s := range last {
			for i := range len(of) {
				longer = append(longer, s+of[i:i+1])
			}
		}
		all, last = append(all, longer...), longer
	}
	return all
}

// texts are short ones of what the chapter has a word for, each single byte, pairs, and longer ones.
func texts() []string {
	l := append(short("aZ \t0-;\x00\x80", 4), each()...)
	var every []byte
	for x := range 256 {
		every = append(every, byte(x))
		l = append(l, "a"+string([]byte{byte(x)}), string([]byte{byte(x)})+"0", " "+string([]byte{byte(x)})+"\t")
	}
	l = append(l, string(every), "Ärger ÄÖÜ\xff\xfe", "Sun, 06 Nov 1994 08:49:37 GMT", "a=b; Path=/x; Secure")
	return append(l, strings.Repeat("aB; ", 1<<12), strings.Repeat(";", 1<<10), strings.Repeat(" ", 1<<10))
}

// numbers are spread over an int's range, with both neighbours of each power of two and of ten.
func numbers() []int {
	l := []int{math.MinInt, math.MinInt + 1, math.MaxInt, math.MaxInt - 1}
	for i := range 63 {
		p := 1 << i
		l = append(l, p-1, p, p+1, -p-1, -p, -p+1)
	}
	for p := 1; p <= math.MaxInt/10; p *= 10 {
		l = append(l, p-1, p, p+1, -p-1, -p, -p+1)
	}
	return l
}

// capitals and smalls stand at one place in both.
const (
	capitals = "ABCDEFGHIJKLMNOPQRSTUVWXYZ"
	smalls   = "abcdefghijklmnopqrstuvwxyz"
)

// madeSmall tells by the chapter's words what s is, made small.
func madeSmall(s string) string {
	var b []byte
	for i := range len(s) {
		if at := strings.IndexByte(capitals, s[i]); at >= 0 {
			b = append(b, smalls[at])
		} else {
			b = append(b, s[i])
		}
	}
	return string(b)
}

func TestP6_1Lower(t *testing.T) {
	for s, want := range map[string]string{
		"":                        "",
		"a":                       "a",
		"A":                       "a",
		"@AZ[`az{":                "@az[`az{",
		capitals + smalls:         smalls + smalls,
		"HTTPS://Shop.Test:8443/": "https://shop.test:8443/",
		"A1-_.B\x00\x7fC":         "a1-_.b\x00\x7fc",
		// Bytes beyond the letters of ASCII, and what would be a letter less a bit, stay.
		"\xc1\xc4\xda\xe1":       "\xc1\xc4\xda\xe1",
		"ÄÖÜ ΑΒΓ \u212a\u0130 X": "ÄÖÜ ΑΒΓ \u212a\u0130 x",
		"\xff\xfeA\x80":          "\xff\xfea\x80",
	} {
		if got := ascii.Lower(s); got != want {
			t.Errorf("Lower(%q): %q, not %q", s, got, want)
		}
	}
	for _, s := range texts() {
		if got, want := ascii.Lower(s), madeSmall(s); got != want {
			t.Errorf("Lower(%.40q): %.40q, not %.40q", s, got, want)
		}
	}
}

func TestP6_1Same(t *testing.T) {
	for _, a := range each() {
		for _, b := range each() {
			want := a == b || madeSmall(a) == madeSmall(b)
			if ascii.Same(a, b) != want || ascii.Same("x"+a, "X"+b) != want || ascii.Same(a+"x", b+"X") != want {
				t.Errorf("Same(%q, %q): not %v", a, b, want)
			}
		}
	}
	for _, c := range []struct {
		a, b string
		want bool
	}{
		{"", "", true},
		{"", "a", false},
		{"", "\x00", false},
		{"", " ", false},
		{"HoSt", "hOsT", true},
		{"host", "host", true},
		{"host", "hosts", false},
		{"host", "host ", false},
		{"Max-Age", "max-age", true},
		{"Max-Age", "max_age", false},
		{"ÄA", "Äa", true},
		// The sign of degrees Kelvin, and a long s, are no letters.
		{"k", "\u212a", false},
		{"s", "\u017f", false},
		{"Ä", "ä", false},
		{"\xff", "\xfe", false},
		{capitals, smalls, true},
	} {
		if got := ascii.Same(c.a, c.b); got != c.want {
			t.Errorf("Same(%q, %q): %v", c.a, c.b, got)
		}
		if got := ascii.Same(c.b, c.a); got != c.want {
			t.Errorf("Same(%q, %q): %v", c.b, c.a, got)
		}
	}
}

func TestP6_1SameOfShortTexts(t *testing.T) {
	l := short("aAb@", 4)
	for _, a := range l {
		for _, b := range l {
			if got, want := ascii.Same(a, b), madeSmall(a) == madeSmall(b); got != want {
				t.Errorf("Same(%q, %q): %v", a, b, got)
			}
		}
	}
}

func TestP6_1Trim(t *testing.T) {
	for s, want := range map[string]string{
		"":                     "",
		" ":                    "",
		"\t":                   "",
		" \t \t\t  ":           "",
		"a":                    "a",
		" a":                   "a",
		"a ":                   "a",
		"\ta\t":                "a",
		" a b ":                "a b",
		"\t  x \t y\t ":        "x \t y",
		" \n a \r ":            "\n a \r",
		"\u00a0 a\u2003":       "\u00a0 a\u2003",
		"\x80 ":                "\x80",
		" \xff":                "\xff",
		"; ;":                  "; ;",
		" \x00\t":              "\x00",
		" \v\f ":               "\v\f",
		"  " + capitals + "\t": capitals,
	} {
		if got := ascii.Trim(s); got != want {
			t.Errorf("Trim(%q): %q, not %q", s, got, want)
		}
	}
}

func TestP6_1TrimOfEachByte(t *testing.T) {
	for x, s := range each() {
		want := s
		if x == 32 || x == 9 {
			want = ""
		}
		for _, around := range []string{s, " " + s, s + "\t", "\t " + s + " \t"} {
			if got := ascii.Trim(around); got != want {
				t.Errorf("Trim(%q): %q, not %q", around, got, want)
			}
		}
		// Between other signs all stay.
		if got := ascii.Trim(" a" + s + "b "); got != "a"+s+"b" {
			t.Errorf("Trim of a, %q and b: %q", s, got)
		}
	}
	for _, s := range texts() {
		if got, want := ascii.Trim(s), strings.Trim(s, "\x20\x09"); got != want {
			t.Errorf("Trim(%.40q): %.40q, not %.40q", s, got, want)
		}
	}
}

func TestP6_1Control(t *testing.T) {
	if ascii.Control("") {
		t.Error("no bytes have a control")
	}
	for x, s := range each() {
		want := x <= 31 && x != 9 || x == 127
		for _, with := range []string{s, s + "ab", "a" + s + "b", "ab" + s, "\t" + s + " ", strings.Repeat("é~", 500) + s} {
			if got := ascii.Control(with); got != want {
				t.Errorf("Control(%.40q): %v", with, got)
			}
		}
		if !ascii.Control(s+"\x00") || !ascii.Control("\x7f"+s) {
			t.Errorf("a control beside %q is not met", s)
		}
	}
	for s, want := range map[string]bool{
		"a=b; Path=/x": false,
		"a\tb":         false,
		"\t \t":        false,
		"a\r\nb":       true,
		"\x1f":         true,
		"\x7f":         true,
		// Bytes beyond 127 are none, though some are the controls of other tables.
		"\x80\x85\x9f\xff": false,
		"\u0085":           false,
	} {
		if got := ascii.Control(s); got != want {
			t.Errorf("Control(%q): %v", s, got)
		}
	}
}

func TestP6_2Cut(t *testing.T) {
	for _, c := range []struct {
		s             string
		at            byte
		ahead, behind string
		is            bool
	}{
		{"", '=', "", "", false},
		{"", 0, "", "", false},
		{"a", '=', "a", "", false},
		{"=", '=', "", "", true},
		{"a=", '=', "a", "", true},
		{"=b", '=', "", "b", true},
		{"k=v", '=', "k", "v", true},
		{"k=v=w", '=', "k", "v=w", true},
		{"==", '=', "", "=", true},
		{"a;b=c", '=', "a;b", "c", true},
		{" k = v ", '=', " k ", " v ", true},
		{"a\x00b", 0, "a", "b", true},
		{"a\xffb", 255, "a", "b", true},
		// A byte is looked for, not a sign of several.
		{"Ä", 0x84, "\xc3", "", true},
		{"Ä", 0xc4, "Ä", "", false},
		{"a\xc4b", 0xc4, "a", "b", true},
		{"kK", 'K', "k", "", true},
	} {
		if a, b, is := ascii.Cut(c.s, c.at); a != c.ahead || b != c.behind || is != c.is {
			t.Errorf("Cut(%q, %q): %q %q %v", c.s, c.at, a, b, is)
		}
	}
}

func TestP6_2CutAtEachByte(t *testing.T) {
	for x, s := range each() {
		c := byte(x)
		for _, around := range [][2]string{{"", ""}, {"", "aa"}, {"aa", ""}, {"ab", "cd"}} {
			if c >= 'a' && c <= 'd' {
				continue
			}
			ahead, behind := around[0], around[1]
			if a, b, is := ascii.Cut(ahead+s+behind, c); a != ahead || b != behind || !is {
				t.Errorf("Cut(%q, %d): %q %q %v", ahead+s+behind, x, a, b, is)
			}
			if a, b, is := ascii.Cut(ahead+behind, c); a != ahead+behind || b != "" || is {
				t.Errorf("Cut(%q, %d): %q %q %v", ahead+behind, x, a, b, is)
			}
		}
	}
	for _, s := range texts() {
		for _, c := range []byte("aZ 0;\x00\x80\xc3") {
			ahead, behind, found := strings.Cut(s, string([]byte{c}))
			if a, b, is := ascii.Cut(s, c); a != ahead || b != behind || is != found {
				t.Errorf("Cut(%.40q, %d): %.40q %.40q %v", s, c, a, b, is)
			}
		}
	}
}

func TestP6_2Split(t *testing.T) {
	for _, c := range []struct {
		s    string
		at   byte
		want []string
	}{
		{"", ';', []string{""}},
		{"", 0, []string{""}},
		{"a", ';', []string{"a"}},
		{";", ';', []string{"", ""}},
		{";;", ';', []string{"", "", ""}},
		{"a;", ';', []string{"a", ""}},
		{";a", ';', []string{"", "a"}},
		{"a;b", ';', []string{"a", "b"}},
		{"a;;b;", ';', []string{"a", "", "b", ""}},
		{"a; b ;c", ';', []string{"a", " b ", "c"}},
		{"a.b.example", '.', []string{"a", "b", "example"}},
		{"a,b;c", ',', []string{"a", "b;c"}},
		{"a\x00b\x00", 0, []string{"a", "b", ""}},
		{"\xff\xff", 255, []string{"", "", ""}},
		{"ÄÖ", 0xc3, []string{"", "\x84", "\x96"}},
		{"ÄÖ", 0xc4, []string{"ÄÖ"}},
		{"aAa", 'A', []string{"a", "a"}},
	} {
		if l := ascii.Split(c.s, c.at); !slices.Equal(l, c.want) {
			t.Errorf("Split(%q, %q): %q, not %q", c.s, c.at, l, c.want)
		}
	}
}

func TestP6_2SplitHasOnePartMoreThanThereAreBytes(t *testing.T) {
	for _, s := range texts() {
		for x := range 256 {
			if len(s) > 300 && x > 70 {
				continue
			}
			c := byte(x)
			l := ascii.Split(s, c)
			if want := 1 + bytes.Count([]byte(s), []byte{c}); len(l) != want {
				t.Fatalf("Split(%.40q, %d): %d parts, not %d", s, x, len(l), want)
			}
			rest := s
			for i, part := range l {
				ahead, behind, _ := strings.Cut(rest, string([]byte{c}))
				if part != ahead {
					t.Fatalf("Split(%.40q, %d): part %d is %.40q, not %.40q", s, x, i, part, ahead)
				}
				rest = behind
			}
		}
	}
}

func TestP6_2SplitAnswersNewMemory(t *testing.T) {
	s := "a;b;c"
	first, second := ascii.Split(s, ';'), ascii.Split(s, ';')
	clear(first[:cap(first)])
	if !slices.Equal(second, []string{"a", "b", "c"}) || !slices.Equal(ascii.Split(s, ';'), second) {
		t.Errorf("%q", second)
	}
}

func TestP6_3Digits(t *testing.T) {
	for s, want := range map[string]int{
		"":           0,
		"0":          1,
		"9":          1,
		"0123456789": 10,
		"12a3":       2,
		"a12":        0,
		" 1":         0,
		"1 ":         1,
		"-1":         0,
		"+1":         0,
		"08:49:37":   2,
		"1/":         1,
		"1:":         1,
		"/1":         0,
		":1":         0,
		"1\x00":      1,
		"1.5":        1,
		"1_000":      1,
		// Digits of other writings, and bytes that have a digit's lowest bits, are none.
		"\u0661":      0,
		"1\uff11":     1,
		"1\xb1\xb2":   1,
		"00000000000": 11,
	} {
		if got := ascii.Digits(s); got != want {
			t.Errorf("Digits(%q): %d, not %d", s, got, want)
		}
	}
	for x, s := range each() {
		for n := range 20 {
			want := n
			if x >= 48 && x <= 57 {
				want += 2
			}
			if got := ascii.Digits(strings.Repeat("7", n) + s + "5a"); got != want {
				t.Errorf("Digits of %d digits and %q: %d, not %d", n, s, got, want)
			}
		}
	}
	if got := ascii.Digits(strings.Repeat("0", 1<<20)); got != 1<<20 {
		t.Errorf("of 2^20 digits: %d", got)
	}
}

func TestP6_3Number(t *testing.T) {
	for s, want := range map[string]int{
		"0":                    0,
		"-0":                   0,
		"00":                   0,
		"-000":                 0,
		"7":                    7,
		"-7":                   -7,
		"07":                   7,
		"-07":                  -7,
		"0012":                 12,
		"1234567890":           1234567890,
		"-1234567890":          -1234567890,
		"1099511627775":        greatest - 1,
		"1099511627776":        greatest,
		"1099511627777":        greatest,
		"-1099511627775":       -greatest + 1,
		"-1099511627776":       -greatest,
		"-1099511627777":       -greatest,
		"0001099511627775":     greatest - 1,
		"10995116277750":       greatest,
		"9999999999999":        greatest,
		"-9999999999999":       -greatest,
		"9223372036854775807":  greatest,
		"9223372036854775808":  greatest,
		"-9223372036854775808": -greatest,
		"-9223372036854775809": -greatest,
		// Numbers that, in 64 bits, would come out as 0, as 1, and below 0.
		"18446744073709551616":   greatest,
		"18446744073709551617":   greatest,
		"-18446744073709551617":  -greatest,
		"18446744073709551615":   greatest,
		"36893488147419103232":   greatest,
		"99999999999999999999":   greatest,
		"-99999999999999999999":  -greatest,
		"1" + zeros(100):         greatest,
		"-1" + zeros(1<<20):      -greatest,
		zeros(1<<20) + "5":       5,
		"-" + zeros(1<<20) + "5": -5,
	} {
		if n, is := ascii.Number(s); n != want || !is {
			t.Errorf("Number(%.40q): %d %v, not %d", s, n, is, want)
		}
	}
}

// zeros are so many digits 0.
func zeros(n int) string {
	return strings.Repeat("0", n)
}

func TestP6_3WhatIsNoNumber(t *testing.T) {
	l := []string{"", "-", "--", "--1", "+1", "+", "1-", "-1-", "1-2", " 1", "1 ", "\t1", "1\n", "- 1", "-+1", "+-1",
		"1x", "x1", "0x10", "1e3", "1.0", "1,000", "1_000", "a", "-a", "1\x00", "\u0661", "\uff11", "\u22121", "\xb1", "Ä",
		"99999999999999999999x", "-99999999999999999999 ", zeros(1000) + "-", "99999999999999999999-1"}
	for x, s := range each() {
		if x >= 48 && x <= 57 {
			continue
		}
		l = append(l, s, "12"+s, "1"+s+"2", "-"+s, "-1"+s)
		if x != 45 {
			l = append(l, s+"12", s+"-12")
		}
	}
	for _, s := range l {
		if n, is := ascii.Number(s); n != 0 || is {
			t.Errorf("Number(%.40q): %d %v", s, n, is)
		}
	}
}

// told tells by the chapter's words which number s is, and whether it is one.
func told(s string) (int, bool) {
	n, is := new(big.Int).SetString(s, 10)
	if !is || strings.Trim(s, "-0123456789") != "" {
		return 0, false
	}
	if bound := big.NewInt(greatest); n.CmpAbs(bound) > 0 {
		return greatest * n.Sign(), true
	}
	return int(n.Int64()), true
}

func TestP6_3NumberOfShortAndLongTexts(t *testing.T) {
	l := append(texts(), short("019-+ ", 6)...)
	for _, n := range numbers() {
		digits := big.NewInt(int64(n)).String()
		l = append(l, digits, "0"+digits, digits+"0", "-"+digits, "-0"+digits)
	}
	for _, s := range l {
		want, right := told(s)
		if n, is := ascii.Number(s); n != want || is != right {
			t.Errorf("Number(%.40q): %d %v, not %d %v", s, n, is, want, right)
		}
	}
}

func TestP6_3Text(t *testing.T) {
	for n, want := range map[int]string{
		0:                    "0",
		7:                    "7",
		-7:                   "-7",
		10:                   "10",
		-100:                 "-100",
		1234567890:           "1234567890",
		greatest:             "1099511627776",
		-greatest:            "-1099511627776",
		greatest + 1:         "1099511627777",
		math.MaxInt64:        "9223372036854775807",
		math.MinInt64:        "-9223372036854775808",
		math.MinInt64 + 1:    "-9223372036854775807",
		-1000000000000000000: "-1000000000000000000",
	} {
		if got := ascii.Text(n); got != want {
			t.Errorf("Text(%d): %q", n, got)
		}
	}
	for _, n := range numbers() {
		if got, want := ascii.Text(n), big.NewInt(int64(n)).String(); got != want {
			t.Errorf("Text: %q, not %q", got, want)
		}
	}
}

func TestP6_4PartsJoinedAreTheText(t *testing.T) {
	for _, s := range texts() {
		for x, by := range each() {
			if len(s) > 300 && x > 70 {
				continue
			}
			if got := strings.Join(ascii.Split(s, byte(x)), by); got != s {
				t.Fatalf("parts of %.40q, joined by %q: %.40q", s, by, got)
			}
			a, b, is := ascii.Cut(s, byte(x))
			if is && a+by+b != s || !is && a+b != s {
				t.Fatalf("%.40q, cut at %q: %.40q, %.40q", s, by, a, b)
			}
		}
	}
}

func TestP6_5LowerTwiceIsLowerOnce(t *testing.T) {
	for _, s := range texts() {
		once := ascii.Lower(s)
		if twice := ascii.Lower(once); twice != once {
			t.Errorf("%.40q: once %.40q, twice %.40q", s, once, twice)
		}
		if !ascii.Same(s, once) {
			t.Errorf("%.40q is not the same as %.40q", s, once)
		}
	}
}

func TestP6_6NumberOfText(t *testing.T) {
	l := numbers()
	for n := -5000; n <= 5000; n++ {
		l = append(l, n, greatest-5000+n, -greatest+5000+n)
	}
	for _, n := range l {
		want := max(-greatest, min(n, greatest))
		if got, is := ascii.Number(ascii.Text(n)); got != want || !is {
			t.Errorf("Number of Text(%d): %d %v", n, got, is)
		}
	}
}
