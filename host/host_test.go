package host_test

import (
	"math/rand"
	"regexp"
	"slices"
	"strconv"
	"strings"
	"testing"

	"biscotti/api"
	"biscotti/host"
)

// What the chapter's words say of texts, as expressions; (?s) and \z let no end of a line by.
var (
	labels    = regexp.MustCompile(`(?s)\A[a-z0-9_](?:[a-z0-9_-]{0,61}[a-z0-9_])?(?:\.[a-z0-9_](?:[a-z0-9_-]{0,61}[a-z0-9_])?)*\z`)
	four      = regexp.MustCompile(`(?s)\A(?:0|[1-9][0-9]{0,2})(?:\.(?:0|[1-9][0-9]{0,2})){3}\z`)
	bracketed = regexp.MustCompile(`(?s)\A\[[0-9a-f:.]{2,45}\]\z`)
)

// addressed tells by the chapter's words whether s is an address.
func addressed(s string) bool {
	if bracketed.MatchString(s) {
		return true
	}
	if !four.MatchString(s) {
		return false
	}
	for _, digits := range strings.Split(s, ".") {
		if n, err := strconv.Atoi(digits); err != nil || n > 255 {
			return false
		}
	}
	return true
}

// named tells by the chapter's words whether s is a name, which an address is not.
func named(s string) bool {
	return len(s) <= 256 && labels.MatchString(s) && !addressed(s)
}

// canonical tells by the chapter's words whether s is canonical.
func canonical(s string) bool {
	return named(s) || addressed(s)
}

// madeSmall answers s with its capital letters of ASCII made small.
func madeSmall(s string) string {
	b := []byte(s)
	for i, x := range b {
		if x >= 65 && x <= 90 {
			b[i] = x + 32
		}
	}
	return string(b)
}

// matched tells by the chapter's words whether a host matches a domain.
func matched(h, domain string) bool {
	if !canonical(h) || !canonical(domain) {
		return false
	}
	if h == domain {
		return true
	}
	return named(h) && len(h) > len(domain) && h[len(h)-len(domain)-1:] == "."+domain
}

// each is a text of each single byte.
func each() []string {
	var l []string
	for x := range 256 {
		l = append(l, string([]byte{byte(x)}))
	}
	return l
}

// short are all texts of at most that many parts of a few.
func short(most int, of ...string) []string {
	all, last := []string{""}, []string{""}
	for range most {
		var longer []string
		for _, s := range last {
			for _, part := range of {
				longer = append(longer, s+part)
			}
		}
		all, last = append(all, longer...), longer
	}
	return all
}

// longName is a name of n bytes: labels of one byte each, the last one of two where n is even.
func longName(n int) string {
	s := strings.Repeat("a.", (n-1)/2) + "a"
	if n%2 == 0 {
		s += "b"
	}
	return s
}

// edges are texts at what the chapter bounds, on both sides.
func edges() []string {
	var l []string
	for n := range 70 {
		l = append(l, strings.Repeat("a", n), strings.Repeat("7", n), "x."+strings.Repeat("_", n)+".y", strings.Repeat("Z", n)+".test")
		l = append(l, "["+strings.Repeat("f", n)+"]", "["+strings.Repeat(":", n)+"]", "["+strings.Repeat("A", n)+"]", "["+strings.Repeat("0.", n)+"]")
		l = append(l, "a"+strings.Repeat("-", n)+"b", strings.Repeat("0", n)+"1.2.3.4")
	}
	for n := 1; n < 270; n++ {
		l = append(l, longName(n), strings.ToUpper(longName(n)), strings.Repeat(".", n))
	}
	whole := strings.Repeat("a", 63)
	l = append(l, strings.Repeat(whole+".", 3)+whole, strings.Repeat(whole+".", 4)+"a", strings.Repeat(whole+".", 4), strings.Repeat("a.", 300))
	for n := range 1002 {
		digits := strconv.Itoa(n)
		l = append(l, digits+".0.0.0", "0."+digits+".0.0", "0.0."+digits+".0", "0.0.0."+digits)
	}
	return append(l, strings.Repeat("x", 1<<20), strings.Repeat(".", 1<<20), "1.2.3.4"+strings.Repeat("0", 1<<20), "["+strings.Repeat("0", 1<<20)+"]")
}

// spoilt are good texts with each byte in each place, instead of a byte, and ahead of it.
func spoilt() []string {
	var l []string
	for _, good := range []string{"a", "ab", "a-b.c_d", "www.shop.test", "1.2.3.4", "250.0.10.99", "[::1]", "[fe80::1.2.3.4]"} {
		for i := range len(good) + 1 {
			for _, x := range each() {
				l = append(l, good[:i]+x+good[i:])
				if i < len(good) {
					l = append(l, good[:i]+x+good[i+1:])
				}
			}
		}
		for i := range len(good) {
			l = append(l, good[:i], good[i:], good[:i]+good[i+1:])
		}
	}
	return l
}

// texts are all that are held against the chapter's words.
func texts() []string {
	l := append(short(5, "a", "g", "A", "0", "-", "_", ".", ":"), each()...)
	l = append(l, short(6, "1", "0", ".", "25", "x", "-")...)
	l = append(l, short(6, "[", "]", "a", ":", "g")...)
	l = append(l, edges()...)
	return append(l, spoilt()...)
}

// few are texts of which each is held against each.
func few() []string {
	l := short(5, "a", "b", ".", "1")
	l = append(l, "1.2.3.4", "2.3.4", "3.4", "4", "a.1.2.3.4", "b.a.1.2.3.4", "01.2.3.4", "1.2.3.256", "0.1.2.3.4", "1.1.2.3.4")
	l = append(l, "[::1]", "[::2]", "a.[::1]", "[a.b]", "a.b]", "b]", "[", "", ".", "A.b", "a.B", "-a.b", "a.-b", "a-.b", "a..b", ".b", "b.", "a.b.", ".a.b")
	return append(l, longName(256), longName(255), longName(254), longName(257), "x."+longName(255), "x."+longName(254))
}

func TestP8_1Canon(t *testing.T) {
	for s, want := range map[string]string{
		"a":                      "a",
		"Z":                      "z",
		"_":                      "_",
		"0":                      "0",
		"9-9":                    "9-9",
		"WWW.Shop.TEST":          "www.shop.test",
		"a_b.c-d":                "a_b.c-d",
		"_dmarc.example":         "_dmarc.example",
		"x_._y":                  "x_._y",
		"a--b":                   "a--b",
		"xn--bcher-kva.example":  "xn--bcher-kva.example",
		"localhost":              "localhost",
		"1.2.3.4":                "1.2.3.4",
		"0.0.0.0":                "0.0.0.0",
		"255.255.255.255":        "255.255.255.255",
		"[::1]":                  "[::1]",
		"[::]":                   "[::]",
		"[FE80::AB.CD]":          "[fe80::ab.cd]",
		"[2001:DB8::192.0.2.33]": "[2001:db8::192.0.2.33]",
		// What is no address may be a name of digits.
		"256.1.1.1":   "256.1.1.1",
		"01.2.3.4":    "01.2.3.4",
		"1.2.3.00":    "1.2.3.00",
		"1.2.3":       "1.2.3",
		"1.2.3.4.5":   "1.2.3.4.5",
		"1.2.3.4x":    "1.2.3.4x",
		"0x7F.0.0.1":  "0x7f.0.0.1",
		"999.999.999": "999.999.999",
		// Signs between brackets need not make an address of any other kind.
		"[..]": "[..]",
		"[Ab]": "[ab]",
	} {
		if got, e := host.Canon(s); got != want || e != api.OK {
			t.Errorf("Canon(%q): %q %v, not %q", s, got, e, want)
		}
	}
}

func TestP8_1CanonOfWrongTexts(t *testing.T) {
	for _, s := range []string{
		"", ".", "..", "a.", ".a", "a..b", "a.b.", ".a.b", "-", "-a", "a-", "a.-b", "a-.b", "--", "a.-.b",
		" ", "a b", " a", "a ", "a\tb", "a\n", "\na", "a\x00", "a/b", "a:80", "a,b", "a*", "*.a", "!a", "a@b", "a%41", "a+b",
		"1.2.3.", ".1.2.3", "1..2.3.4", "-1.2.3.4", "1.2.3.-4", "1.2.3.4:80", "1.2.3.4.",
		"[]", "[:]", "[a]", "[x]", "[::g]", "[::1", "::1]", "::1", "[[::1]]", "[::1]]", "[[::1]", "[::1]:80", "[::1].a", "a.[::1]", "a[::1]", "[ ::1]", "[::1 ]", "[fe80::1%1]", "[a-b]", "[a_b]", "[", "]", "][", "[::1][::1]",
		"bücher.example", "\u212a.example", "a\xff", "\x80", "a。b", "\u0130",
	} {
		if got, e := host.Canon(s); got != "" || e != api.ErrForm {
			t.Errorf("Canon(%q): %q %v", s, got, e)
		}
	}
}

func TestP8_1CanonAtTheLimits(t *testing.T) {
	label, inside := strings.Repeat("a", 63), strings.Repeat("F", 45)
	for _, c := range []struct {
		s    string
		want api.Errno
	}{
		{label, api.OK},
		{label + "a", api.ErrForm},
		{label + "." + label + ".a", api.OK},
		{"a." + label + "a", api.ErrForm},
		{label + "a.a", api.ErrForm},
		{"a." + label + "a.a", api.ErrForm},
		{strings.ToUpper(label), api.OK},
		{label[:62] + "-", api.ErrForm},
		{"-" + label[:62], api.ErrForm},
		{"a" + strings.Repeat("-", 61) + "b", api.OK},
		{"a" + strings.Repeat("-", 62) + "b", api.ErrForm},
		{longName(255), api.OK},
		{longName(256), api.OK},
		{longName(257), api.ErrLong},
		{strings.Repeat(label+".", 3) + label, api.OK},
		{strings.Repeat(label+".", 4) + "a", api.ErrLong},
		{strings.Repeat(label+".", 4), api.ErrForm},
		// Beyond the limit it does not matter what else is wrong, nor what they might be.
		{strings.Repeat(".", 256), api.ErrForm},
		{strings.Repeat(".", 257), api.ErrLong},
		{strings.Repeat(" ", 257), api.ErrLong},
		{strings.Repeat("a", 257), api.ErrLong},
		{strings.Repeat("\xff", 256), api.ErrForm},
		{strings.Repeat("\xff", 1<<20), api.ErrLong},
		{"[" + strings.Repeat("0", 255) + "]", api.ErrLong},
		{"[" + inside + "]", api.OK},
		{"[" + inside + "0]", api.ErrForm},
		{"[" + inside[:44] + "]", api.OK},
		{"[" + inside[:3] + "]", api.OK},
		{"[" + inside[:2] + "]", api.OK},
		{"[" + inside[:1] + "]", api.ErrForm},
		{"[" + inside[:0] + "]", api.ErrForm},
	} {
		want := ""
		if c.want == api.OK {
			want = madeSmall(c.s)
		}
		if got, e := host.Canon(c.s); got != want || e != c.want {
			t.Errorf("Canon(%.80q) of %d bytes: %.80q %v, not %v", c.s, len(c.s), got, e, c.want)
		}
	}
}

func TestP8_1CanonOfAllKindsOfTexts(t *testing.T) {
	for _, s := range texts() {
		want, wrong := "", api.ErrForm
		switch {
		case len(s) > 256:
			wrong = api.ErrLong
		case canonical(madeSmall(s)):
			want, wrong = madeSmall(s), api.OK
		}
		if got, e := host.Canon(s); got != want || e != wrong {
			t.Errorf("Canon(%.80q): %.80q %v, not %.80q %v", s, got, e, want, wrong)
		}
	}
}

func TestP8_1CanonOfEachByte(t *testing.T) {
	const inLabel = "abcdefghijklmnopqrstuvwxyzABCDEFGHIJKLMNOPQRSTUVWXYZ0123456789_-"
	const inBrackets = "0123456789abcdefABCDEF:."
	for x, s := range each() {
		within, ends := strings.Contains(inLabel, s), strings.Contains(inLabel, s) && s != "-"
		for text, want := range map[string]bool{
			s:                    ends,
			s + "a":              ends,
			"a" + s:              ends,
			"b." + s:             ends,
			s + ".b":             ends,
			"a" + s + "b":        within || s == ".",
			"a.b" + s + "c.d":    within || s == ".",
			"[" + s + "0]":       strings.Contains(inBrackets, s),
			"[0" + s + "]":       strings.Contains(inBrackets, s),
			"[0" + s + "0" + "]": strings.Contains(inBrackets, s),
		} {
			if got, e := host.Canon(text); (e == api.OK) != want || want && got != madeSmall(text) || !want && got != "" {
				t.Errorf("byte %d: Canon(%q): %q %v", x, text, got, e)
			}
		}
	}
}

func TestP8_1Address(t *testing.T) {
	for s, want := range map[string]bool{
		"1.2.3.4":              true,
		"0.0.0.0":              true,
		"0.0.0.255":            true,
		"255.255.255.255":      true,
		"10.100.200.249":       true,
		"127.0.0.1":            true,
		"256.0.0.0":            false,
		"0.0.0.256":            false,
		"0.999.0.0":            false,
		"0.0.1000.0":           false,
		"01.2.3.4":             false,
		"1.02.3.4":             false,
		"1.2.003.4":            false,
		"1.2.3.04":             false,
		"00.0.0.0":             false,
		"0.0.0.00":             false,
		"1.2.3":                false,
		"1.2.3.4.5":            false,
		"1234":                 false,
		"1.2.3.":               false,
		".1.2.3":               false,
		"1..3.4":               false,
		"1.2.3.4.":             false,
		".1.2.3.4":             false,
		"-1.2.3.4":             false,
		"-0.2.3.4":             false,
		"1.2.3.-0":             false,
		"+1.2.3.4":             false,
		" 1.2.3.4":             false,
		"1.2.3.4 ":             false,
		"1.2.3.4\n":            false,
		"1.2.3.a":              false,
		"0x1.2.3.4":            false,
		"1,2,3,4":              false,
		"1.2.3.4/8":            false,
		"":                     false,
		"...":                  false,
		"a":                    false,
		"a.b.c.d":              false,
		"[::]":                 true,
		"[::1]":                true,
		"[1.2.3.4]":            true,
		"[0123456789abcdef:.]": true,
		"[..]":                 true,
		"[ab]":                 true,
		"[]":                   false,
		"[:]":                  false,
		"[::1":                 false,
		"::1]":                 false,
		"::1":                  false,
		"(::1)":                false,
		"[::x]":                false,
		"[::-]":                false,
		"[::_]":                false,
		"[[::]]":               false,
		"[::1]\n":              false,
		// A capital letter is not of a to f, made small as it may be.
		"[::A]":    false,
		"[FE80::]": false,
		// Four numbers that no int of 64 bits can hold, and such as would come out as 1 and as 0 in fewer bits.
		"99999999999999999999.1.1.1":  false,
		"1.1.1.257":                   false,
		"1.1.1.65536":                 false,
		"4294967297.1.1.1":            false,
		"18446744073709551617.1.1.1":  false,
		"1.1.18446744073709551616.1":  false,
		"1.1.1.١":                     false,
		"٠.٠.٠.٠":                     false,
		"1。2。3。4":                     false,
		"1.2.3.4\x00":                 false,
		"255.255.255.255255.255.255":  false,
		"255.255.255.255.255.255.255": false,
	} {
		if got := host.Address(s); got != want {
			t.Errorf("Address(%q): %v", s, got)
		}
	}
}

func TestP8_1AddressOfAllKindsOfTexts(t *testing.T) {
	for _, s := range texts() {
		if got, want := host.Address(s), addressed(s); got != want {
			t.Errorf("Address(%.80q): %v", s, got)
		}
	}
}

func TestP8_2Match(t *testing.T) {
	for _, c := range []struct {
		host, domain string
		want         bool
	}{
		{"a.b.example", "b.example", true},
		{"ab.example", "b.example", false},
		{"b.example", "b.example", true},
		{"example", "b.example", false},
		{"b.example", "a.b.example", false},
		{"a.b.example", "example", true},
		{"a.b.example", "a.b.example", true},
		{"a.b.example", "a.b", false},
		{"a.b.example", "b", false},
		{"a.b.example", "xample", false},
		{"a.b.example", "a.example", false},
		{"a.a.a", "a.a", true},
		{"a", "a", true},
		{"a", "b", false},
		{"a_b.c-d", "c-d", true},
		{"a-b.c", "b.c", false},
		{"a_b.c", "b.c", false},
		// An address has no domains but itself.
		{"1.2.3.4", "1.2.3.4", true},
		{"1.2.3.4", "2.3.4", false},
		{"1.2.3.4", "3.4", false},
		{"1.2.3.4", "4", false},
		{"1.2.3.4", "11.2.3.4", false},
		{"11.2.3.4", "1.2.3.4", false},
		{"[::1]", "[::1]", true},
		{"[::1]", "[::2]", false},
		{"[::a.b]", "b]", false},
		{"[::a.b]", "b", false},
		{"a.[::1]", "[::1]", false},
		// A host that is a name may end with what is an address, and match it.
		{"a.1.2.3.4", "1.2.3.4", true},
		{"0.1.2.3.4", "1.2.3.4", true},
		{"a.1.2.3.4", "2.3.4", true},
		{"a1.2.3.4", "1.2.3.4", false},
		{"01.2.3.4", "2.3.4", true},
		{"1.2.3.256", "3.256", true},
		// What is not canonical matches nothing, not itself either.
		{"A.b", "b", false},
		{"a.B", "B", false},
		{"a.b", "B", false},
		{"A", "A", false},
		{"A", "a", false},
		{"", "", false},
		{"a", "", false},
		{"a.", "", false},
		{"", "a", false},
		{".", ".", false},
		{"a.b", ".b", false},
		{".b", "b", false},
		{"a..b", "b", false},
		{"a.b.", "b.", false},
		{"a.b", "b.", false},
		{"-a.b", "b", false},
		{"a-.b", "b", false},
		{"a.-b", "-b", false},
		{" a.b", "b", false},
		{"a.b\x00", "b\x00", false},
		{"[::A]", "[::A]", false},
		{"[x]", "[x]", false},
		{"é.b", "b", false},
		// At MaxName bytes, and beyond.
		{longName(256), "ab", true},
		{longName(256), longName(254), true},
		{longName(256), longName(256), true},
		{longName(255), longName(253), true},
		{longName(257), "a", false},
		{longName(257), longName(255), false},
		{longName(257), longName(257), false},
		{"a", longName(257), false},
		{strings.Repeat("a", 64) + ".b", "b", false},
		{strings.Repeat("a", 63) + ".b", "b", true},
		{"b." + strings.Repeat("a", 64), strings.Repeat("a", 64), false},
	} {
		if got := host.Match(c.host, c.domain); got != c.want {
			t.Errorf("Match(%.40q, %.40q): %v", c.host, c.domain, got)
		}
	}
}

func TestP8_2MatchOfFewTexts(t *testing.T) {
	l := few()
	for _, h := range l {
		// As matched, but asked once a host: there are some millions of pairs.
		is, ofName := canonical(h), named(h)
		for _, domain := range l {
			want := is && (h == domain || ofName && len(h) > len(domain) && h[len(h)-len(domain)-1:] == "."+domain && canonical(domain))
			if got := host.Match(h, domain); got != want {
				t.Errorf("Match(%.40q, %.40q): %v", h, domain, got)
			}
		}
	}
}

func TestP8_2MatchOfTheEndsOfAllKindsOfTexts(t *testing.T) {
	for _, s := range texts() {
		if len(s) > 64 {
			continue
		}
		for i := range len(s) + 1 {
			for _, domain := range []string{s[i:], s[:i]} {
				if got, want := host.Match(s, domain), matched(s, domain); got != want {
					t.Errorf("Match(%q, %q): %v", s, domain, got)
				}
			}
		}
	}
}

func TestP8_2Labels(t *testing.T) {
	for s, want := range map[string][]string{
		"a":                             {"a"},
		"a.b":                           {"a", "b"},
		"www.shop.test":                 {"www", "shop", "test"},
		"a.a.a":                         {"a", "a", "a"},
		"a_b.c-d":                       {"a_b", "c-d"},
		"1.2.3":                         {"1", "2", "3"},
		"1.2.3.256":                     {"1", "2", "3", "256"},
		"01.2.3.4":                      {"01", "2", "3", "4"},
		"a.1.2.3.4":                     {"a", "1", "2", "3", "4"},
		"1.2.3.4":                       nil,
		"0.0.0.0":                       nil,
		"[::1]":                         nil,
		"[a.b]":                         nil,
		"":                              nil,
		".":                             nil,
		"a.":                            nil,
		".a":                            nil,
		"a..b":                          nil,
		"-a":                            nil,
		"a-.b":                          nil,
		"A":                             nil,
		"a.B":                           nil,
		"a b":                           nil,
		"a:80":                          nil,
		"ä.b":                           nil,
		longName(257):                   nil,
		longName(1 << 16):               nil,
		"aa." + strings.Repeat("a", 64): nil,
	} {
		if got := host.Labels(s); !slices.Equal(got, want) {
			t.Errorf("Labels(%.80q): %q", s, got)
		}
	}
	if l := host.Labels(longName(256)); len(l) != 128 || l[0] != "a" || l[127] != "ab" {
		t.Errorf("of 256 bytes: %q", l)
	}
}

func TestP8_2LabelsOfAllKindsOfTexts(t *testing.T) {
	for _, s := range texts() {
		var want []string
		if named(s) {
			want = strings.Split(s, ".")
		}
		if got := host.Labels(s); !slices.Equal(got, want) {
			t.Errorf("Labels(%.80q): %q", s, got)
		}
	}
}

func TestP8_2LabelsAnswersNewMemory(t *testing.T) {
	first, second := host.Labels("a.b.c"), host.Labels("a.b.c")
	clear(first[:cap(first)])
	if want := []string{"a", "b", "c"}; !slices.Equal(second, want) || !slices.Equal(host.Labels("a.b.c"), want) {
		t.Errorf("%q", second)
	}
}

func TestP8_2Up(t *testing.T) {
	for s, want := range map[string]string{
		"a.b":           "b",
		"a.b.c":         "b.c",
		"www.shop.test": "shop.test",
		"a.a.a":         "a.a",
		"a_b.c-d.e":     "c-d.e",
		"1.2.3":         "2.3",
		"1.2.3.256":     "2.3.256",
		"01.2.3.4":      "2.3.4",
		// What comes of a name may be an address, above which there is nothing.
		"a.1.2.3.4":                    "1.2.3.4",
		longName(256):                  longName(254),
		strings.Repeat("a", 63) + ".b": "b",
	} {
		if got, is := host.Up(s); got != want || !is {
			t.Errorf("Up(%.80q): %.80q %v", s, got, is)
		}
	}
	for _, s := range []string{
		"", "a", "test", strings.Repeat("a", 63), ".", ".a", "a.", "a.b.", ".a.b", "a..b", "..",
		"A.b", "a.B", "-a.b", "a-.b", "a.-b", "a b.c", "a.b\x00", "ä.b", "a.b:80", "*.b",
		"1.2.3.4", "0.0.0.0", "255.255.255.255", "[::1]", "[a.b]", "[::1].a", "a.[::1]",
		longName(257), strings.Repeat("a", 64) + ".b", "b." + strings.Repeat("a", 64),
	} {
		if got, is := host.Up(s); got != "" || is {
			t.Errorf("Up(%.80q): %.80q %v", s, got, is)
		}
	}
}

func TestP8_2UpOfAllKindsOfTexts(t *testing.T) {
	for _, s := range texts() {
		want, has := "", false
		if named(s) {
			_, want, has = strings.Cut(s, ".")
		}
		if got, is := host.Up(s); got != want || is != has {
			t.Errorf("Up(%.80q): %.80q %v", s, got, is)
		}
	}
}

func TestP8_2UpGoesOverAllLabels(t *testing.T) {
	s, l := longName(256), host.Labels(longName(256))
	for i := range l {
		if want := strings.Join(l[i:], "."); s != want {
			t.Fatalf("%d labels up: %q, not %q", i, s, want)
		}
		up, is := host.Up(s)
		if is != (i < len(l)-1) {
			t.Fatalf("Up(%q): %v", s, is)
		}
		s = up
	}
}

func TestP8_3CanonicalTextsAreCanonicalAsTheyAre(t *testing.T) {
	met := 0
	for _, s := range texts() {
		c, e := host.Canon(s)
		if e != api.OK {
			continue
		}
		met++
		if again, e := host.Canon(c); again != c || e != api.OK {
			t.Errorf("Canon(%.80q): %.80q %v", c, again, e)
		}
		// It is taken as canonical by the other calls, too: as an address, or as a name.
		if host.Address(c) == (len(host.Labels(c)) > 0) || !host.Match(c, c) {
			t.Errorf("%.80q is not one of both", c)
		}
		if s != c && (host.Address(s) || host.Labels(s) != nil || host.Match(s, s)) {
			t.Errorf("%.80q is not canonical", s)
		}
	}
	if met < 10000 {
		t.Errorf("of %d texts only", met)
	}
}

func TestP8_4HostsMatchThemselves(t *testing.T) {
	for _, s := range append(texts(), few()...) {
		if got, want := host.Match(s, s), canonical(s); got != want {
			t.Errorf("%.80q matches itself: %v", s, got)
		}
	}
}

func TestP8_4WhatADomainMatchesTheHostMatches(t *testing.T) {
	l := few()
	matches := map[string][]string{}
	for _, h := range l {
		for _, domain := range l {
			if host.Match(h, domain) {
				matches[h] = append(matches[h], domain)
			}
		}
	}
	chains := 0
	for h, domains := range matches {
		for _, domain := range domains {
			for _, other := range matches[domain] {
				chains++
				if !host.Match(h, other) {
					t.Errorf("%.40q matches %.40q, which matches %.40q", h, domain, other)
				}
			}
		}
	}
	if chains < 1000 {
		t.Errorf("%d chains only", chains)
	}
}

func TestP8_5AsManyDomainsAsLabels(t *testing.T) {
	r := rand.New(rand.NewSource(8))
	parts := []string{"a", "b", "ab", "1", "2", "255", "x-y", "_", "test"}
	l := []string{longName(255), longName(256), "a.1.2.3.4", "1.2.3.256", "01.2.3.4"}
	for range 400 {
		var some []string
		for range 1 + r.Intn(12) {
			some = append(some, parts[r.Intn(len(parts))])
		}
		l = append(l, strings.Join(some, "."))
	}
	for _, s := range l {
		if !named(s) {
			continue
		}
		domains := map[string]bool{}
		for i := range len(s) {
			for j := i; j <= len(s); j++ {
				if host.Match(s, s[i:j]) {
					domains[s[i:j]] = true
				}
			}
		}
		if len(domains) != len(host.Labels(s)) {
			t.Errorf("%.80q matches %d domains, and has %d labels", s, len(domains), len(host.Labels(s)))
		}
		for up, is := s, true; is; up, is = host.Up(up) {
			if !domains[up] {
				t.Errorf("%.80q does not match %.80q", s, up)
			}
		}
	}
}
