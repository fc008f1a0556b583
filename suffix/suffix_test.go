package suffix_test

import (
	"math/rand"
	"regexp"
	"slices"
	"strings"
	"testing"

	"biscotti/api"
	"biscotti/host"
	"biscotti/suffix"
)

// What the chapter's words say of texts, as expressions; (?s) and \z let no end of a line by.
var (
	labels = regexp.MustCompile(`(?s)\A[a-z0-9_](?:[a-z0-9_-]{0,61}[a-z0-9_])?(?:\.[a-z0-9_](?:[a-z0-9_-]{0,61}[a-z0-9_])?)*\z`)
	four   = regexp.MustCompile(`\A(?:(?:25[0-5]|2[0-4][0-9]|1[0-9]{2}|[1-9]?[0-9])\.){4}\z`)
)

// named tells by the words of layer 8 whether s is a canonical name.
func named(s string) bool {
	// Four numbers are an address; the point behind makes them alike.
	return len(s) <= 256 && labels.MatchString(s) && !four.MatchString(s+".")
}

// ruled tells by the chapter's words whether s is a rule.
func ruled(s string) bool {
	switch {
	case strings.HasPrefix(s, "*."):
		return named(s[2:])
	case strings.HasPrefix(s, "!"):
		return named(s[1:]) && strings.Contains(s, ".")
	}
	return named(s)
}

// checked answers by the chapter's words what Check answers.
func checked(rules []string) api.Errno {
	if len(rules) > 256 {
		return api.ErrLong
	}
	for _, s := range rules {
		if !ruled(s) {
			return api.ErrForm
		}
	}
	return api.OK
}

// ends are the ends of a name from the whole of it on, each without one label more.
func ends(name string) []string {
	l := []string{name}
	for i := range len(name) {
		if name[i] == '.' {
			l = append(l, name[i+1:])
		}
	}
	return l
}

// suffixed answers by the chapter's words the public suffix of a name, by rules that are good: what each rule says is asked of the name's ends, from the longest one on, but for the not rules, which come first.
func suffixed(rules []string, name string) string {
	l := ends(name)
	for i, end := range l {
		if slices.Contains(rules, "!"+end) {
			return l[i+1]
		}
	}
	for i, end := range l {
		if slices.Contains(rules, end) {
			return end
		}
		// An end is of an any rule, if it is the rule's name and one label more.
		if i+1 < len(l) && slices.Contains(rules, "*."+l[i+1]) {
			return end
		}
	}
	return l[len(l)-1]
}

// owned answers by the chapter's words what Own answers of a name, by rules that are good.
func owned(rules []string, name string) (string, bool) {
	public := suffixed(rules, name)
	for i, end := range ends(name) {
		if end == public && i > 0 {
			return ends(name)[i-1], true
		}
	}
	return "", false
}

// short are all texts of at most that many parts of a few.
func short(most int, of ...string) []string {
	all, last := []string{""}, []string{""}
	for range most {
		var longer []string
		for _, s := range last {
			for _, part := range of {
				longer = append(longer, s+part)
			}
		}
		all, last = append(all, longer...), longer
	}
	return all
}

// names are all names of at most that many labels of a few.
func names(most int, of ...string) []string {
	var l []string
	last := []string{""}
	for range most {
		var longer []string
		for _, s := range last {
			for _, label := range of {
				longer = append(longer, label+s)
			}
		}
		l, last = append(l, longer...), nil
		for _, s := range longer {
			last = append(last, "."+s)
		}
	}
	return l
}

// longName is a name of n bytes: labels of one byte each, the last one of two where n is even.
func longName(n int) string {
	s := strings.Repeat("a.", (n-1)/2) + "a"
	if n%2 == 0 {
		s += "b"
	}
	return s
}

// many are n rules that are good, and not the same.
func many(n int) []string {
	l := make([]string, n)
	for i := range l {
		label := string([]byte{'a' + byte(i/26/26%26), 'a' + byte(i/26%26), 'a' + byte(i%26)})
		l[i] = []string{label, label + ".test", "*." + label, "!" + label + ".test"}[i%4]
	}
	return l
}

// wrong are texts that are no rules.
func wrong() []string {
	return []string{
		"", "*", "*.", "!", "!a", "!test", ".", "..", "a.", ".a", "a..b", ".a.b", "a.b.", "*..a", "*.a.", "*.a..b", "!.", "!.a", "!a.", "!a..b", "!a.b.", "!.a.b",
		"A", "a.B", "*.A", "*.a.B", "!A.b", "!a.B", "TEST", "!A",
		"*.*.a", "*.*", "**.a", "**", "*a", "*a.b", "a.*", "a.*.b", "a*.b", "*.a*", "*.!a", "*.!a.b", "!*.a", "!*.a.b", "!*", "!!a.b", "!!", "a!b", "a.!b", "a.!b.c",
		" ", " a", "a ", "a b", "* .a", "*. a", " *.a", "*.a ", "! a.b", " !a.b", "!a.b ", "a\n", "*.a\n", "!a.b\n", "a\x00", "// a", "a/b", "a:80", "a,b",
		"-a", "a-", "-a.b", "a.-b", "*.-a", "*.a-", "*.-", "!-a.b", "!a.b-", "!a-.b", "-", "?", "+a.b", "#a",
		"1.2.3.4", "0.0.0.0", "255.255.255.255", "*.1.2.3.4", "!1.2.3.4", "[::1]", "*.[::1]", "![::1]", "[a.b]", "*.[a.b]", "![a.b]",
		"bücher.example", "*.é", "!é.b", "a\xff", "\x80", "*\u3002a", "\u212a",
		longName(257), "*." + longName(257), "!" + longName(257), longName(258), longName(259), "*" + longName(255), "*" + longName(256),
		strings.Repeat("a", 64), "*." + strings.Repeat("a", 64), "!" + strings.Repeat("a", 64) + ".b", "!a." + strings.Repeat("a", 64), "!" + strings.Repeat("a", 63),
		strings.Repeat("a", 1<<20), strings.Repeat("*.", 1<<20), strings.Repeat("!", 1<<20), "*." + strings.Repeat("a.", 1<<20), "!" + strings.Repeat("a.", 1<<20) + "a",
	}
}

// right are texts that are rules.
func right() []string {
	label := strings.Repeat("z", 63)
	return []string{
		"a", "test", "co.test", "a.b.c.d.e", "_", "a_b", "a-b.c", "xn--bcher-kva", "0", "1.2", "4", "2.3.4", "1.2.3.4.5", "1.2.3.256", "01.2.3.4", "a.1.2.3.4", label, label + "." + label,
		"*.a", "*.test", "*.co.test", "*._", "*.0", "*.2.3.4", "*.1.2.3.256", "*.a.1.2.3.4", "*." + label, "*.xn--a",
		"!a.b", "!own.city", "!a.b.c.d", "!_._", "!0.1", "!2.3.4", "!01.2.3.4", "!a.1.2.3.4", "!a." + label, "!" + label + ".a",
		longName(255), longName(256), "*." + longName(255), "*." + longName(256), "!" + longName(255), "!" + longName(256),
	}
}

func TestP9_1Check(t *testing.T) {
	for _, s := range right() {
		if e := suffix.Check([]string{s}); e != api.OK {
			t.Errorf("Check(%.80q): %v", s, e)
		}
	}
	for _, l := range [][]string{nil, {}, {"test", "co.test", "*.city", "!own.city"}, right(), {"a", "a", "*.a", "*.a", "!a.a", "!a.a"}, {"!a.b"}, {"*.a"}} {
		if e := suffix.Check(l); e != api.OK {
			t.Errorf("Check(%.80q): %v", l, e)
		}
	}
}

func TestP9_1CheckOfWrongRules(t *testing.T) {
	for _, s := range wrong() {
		for _, l := range [][]string{{s}, {s, "a"}, {"a", s}, {"test", s, "*.city"}, {"!own.city", "*.city", s}, {s, s}} {
			if e := suffix.Check(l); e != api.ErrForm {
				t.Errorf("Check(%.40q): %v", l, e)
			}
		}
	}
}

func TestP9_1CheckOfEachByte(t *testing.T) {
	for _, good := range []string{"a", "ab", "test.b", "*.a", "*.ab.c", "!a.b", "!ab.c"} {
		for i := range len(good) + 1 {
			for x := range 256 {
				l := []string{good[:i] + string([]byte{byte(x)}) + good[i:]}
				if i < len(good) {
					l = append(l, good[:i]+string([]byte{byte(x)})+good[i+1:])
				}
				for _, s := range l {
					if got, want := suffix.Check([]string{s}), checked([]string{s}); got != want {
						t.Errorf("Check(%q): %v, not %v", s, got, want)
					}
				}
			}
		}
	}
}

func TestP9_1CheckOfShortTexts(t *testing.T) {
	l := append(short(6, "*", ".", "!", "a", "-"), short(5, "*.", "!", "a.", "1", ".2.3.4", "A")...)
	good := 0
	for _, s := range l {
		got, want := suffix.Check([]string{s}), checked([]string{s})
		if got != want {
			t.Errorf("Check(%q): %v, not %v", s, got, want)
		}
		if got == api.OK {
			good++
		}
	}
	if good < 100 {
		t.Errorf("%d good ones only", good)
	}
}

func TestP9_1CheckOfManyRules(t *testing.T) {
	for n, want := range map[int]api.Errno{0: api.OK, 1: api.OK, 255: api.OK, 256: api.OK, 257: api.ErrLong, 258: api.ErrLong, 512: api.ErrLong, 1 << 16: api.ErrLong} {
		if e := suffix.Check(many(n)); e != want {
			t.Errorf("%d rules: %v, not %v", n, e, want)
		}
		if n == 0 {
			continue
		}
		if want == api.OK {
			want = api.ErrForm
		}
		// ErrLong is ahead of ErrForm, wherever the rule stands that is none.
		for _, at := range []int{0, n / 2, n - 1} {
			l := many(n)
			l[at] = "!a"
			if e := suffix.Check(l); e != want {
				t.Errorf("%d rules, and a wrong one at %d: %v, not %v", n, at, e, want)
			}
		}
	}
	// As often as it stands there, a rule counts.
	if e := suffix.Check(slices.Repeat([]string{"a"}, 257)); e != api.ErrLong {
		t.Errorf("%v", e)
	}
	if e := suffix.Check(make([]string, 257)); e != api.ErrLong {
		t.Errorf("%v", e)
	}
	if e := suffix.Check(make([]string, 256)); e != api.ErrForm {
		t.Errorf("%v", e)
	}
}

// told is what is said of one name, by one list of rules.
type told struct {
	rules             string // with blanks between
	name, suffix, own string
}

// cases are names with their public suffixes and, where they have one, their own domains.
func cases() []told {
	const some = "test co.test *.city !own.city"
	return []told{
		{some, "test", "test", ""},
		{some, "a.test", "test", "a.test"},
		{some, "b.a.test", "test", "a.test"},
		{some, "co.test", "co.test", ""},
		{some, "a.co.test", "co.test", "a.co.test"},
		{some, "a.b.co.test", "co.test", "b.co.test"},
		{some, "aco.test", "test", "aco.test"},
		{some, "x.aco.test", "test", "aco.test"},
		{some, "atest", "atest", ""},
		{some, "x.atest", "atest", "x.atest"},
		{some, "test.a", "a", "test.a"},
		{some, "city", "city", ""},
		{some, "b.city", "b.city", ""},
		{some, "a.b.city", "b.city", "a.b.city"},
		{some, "x.a.b.city", "b.city", "a.b.city"},
		{some, "own.city", "city", "own.city"},
		{some, "x.own.city", "city", "own.city"},
		{some, "y.x.own.city", "city", "own.city"},
		{some, "town.city", "town.city", ""},
		{some, "x.town.city", "town.city", "x.town.city"},
		{some, "acity", "acity", ""},
		{some, "b.acity", "acity", "b.acity"},
		{some, "a.b.acity", "acity", "b.acity"},
		{some, "own.city.test", "test", "city.test"},
		{some, "example", "example", ""},
		{some, "a.example", "example", "a.example"},
		{some, "b.a.example", "example", "a.example"},
		// Without a rule the last label is everybody's.
		{"", "a", "a", ""},
		{"", "a.b", "b", "a.b"},
		{"", "a.b.c", "c", "b.c"},
		{"", "1.2.3", "3", "2.3"},
		// The longest one counts, wherever it stands.
		{"a b.a c.b.a", "d.c.b.a", "c.b.a", "d.c.b.a"},
		{"c.b.a b.a a", "d.c.b.a", "c.b.a", "d.c.b.a"},
		{"b.a c.b.a a", "d.c.b.a", "c.b.a", "d.c.b.a"},
		{"b.a c.b.a a", "c.b.a", "c.b.a", ""},
		{"b.a c.b.a a", "d.b.a", "b.a", "d.b.a"},
		{"b.a c.b.a a", "d.a", "a", "d.a"},
		{"c.b.a", "b.a", "a", "b.a"},
		{"c.b.a", "d.b.a", "a", "b.a"},
		{"longlabel a.b", "x.a.b", "a.b", "x.a.b"},
		{"b.longlabel", "a.b.longlabel", "b.longlabel", "a.b.longlabel"},
		// A label more than its name has: an any rule may be longer, as long, or shorter than another one.
		{"*.a", "a", "a", ""},
		{"*.a", "b.a", "b.a", ""},
		{"*.a", "c.b.a", "b.a", "c.b.a"},
		{"*.a", "d.c.b.a", "b.a", "c.b.a"},
		{"*.b.a", "a", "a", ""},
		{"*.b.a", "b.a", "a", "b.a"},
		{"*.b.a", "c.b.a", "c.b.a", ""},
		{"*.b.a", "d.c.b.a", "c.b.a", "d.c.b.a"},
		{"*.b.a", "c.x.a", "a", "x.a"},
		{"*.b.a b.a", "b.a", "b.a", ""},
		{"*.b.a b.a", "c.b.a", "c.b.a", ""},
		{"*.a b.a", "b.a", "b.a", ""},
		{"*.a b.a", "c.b.a", "b.a", "c.b.a"},
		{"b.a *.a", "c.b.a", "b.a", "c.b.a"},
		{"*.a c.b.a", "d.c.b.a", "c.b.a", "d.c.b.a"},
		{"c.b.a *.a", "d.c.b.a", "c.b.a", "d.c.b.a"},
		{"*.a *.b.a", "d.c.b.a", "c.b.a", "d.c.b.a"},
		{"*.b.a *.a", "d.c.b.a", "c.b.a", "d.c.b.a"},
		{"*.b.a *.a", "b.a", "b.a", ""},
		{"*.b.a a", "d.c.b.a", "c.b.a", "d.c.b.a"},
		{"a *.b.a", "d.c.b.a", "c.b.a", "d.c.b.a"},
		{"*.a", "ba", "ba", ""},
		{"*.a", "c.ba", "ba", "c.ba"},
		{"*.a", "a.a", "a.a", ""},
		{"*.a", "a.a.a", "a.a", "a.a.a"},
		{"*.a.a", "a.a", "a", "a.a"},
		{"*.a.a", "a.a.a.a", "a.a.a", "a.a.a.a"},
		// A not rule is ahead of all others, longer ones too.
		{"!b.a", "b.a", "a", "b.a"},
		{"!b.a", "c.b.a", "a", "b.a"},
		{"!b.a", "a", "a", ""},
		{"!b.a", "c.a", "a", "c.a"},
		{"!b.a", "cb.a", "a", "cb.a"},
		{"!c.b.a", "c.b.a", "b.a", "c.b.a"},
		{"!c.b.a", "d.c.b.a", "b.a", "c.b.a"},
		{"!c.b.a", "b.a", "a", "b.a"},
		{"!c.b.a", "dc.b.a", "a", "b.a"},
		{"!b.a b.a", "b.a", "a", "b.a"},
		{"b.a !b.a", "b.a", "a", "b.a"},
		{"!b.a b.a", "c.b.a", "a", "b.a"},
		{"!b.a c.b.a", "d.c.b.a", "a", "b.a"},
		{"c.b.a !b.a", "d.c.b.a", "a", "b.a"},
		{"d.c.b.a !b.a", "d.c.b.a", "a", "b.a"},
		{"!b.a *.c.b.a", "d.c.b.a", "a", "b.a"},
		{"*.c.b.a !b.a", "e.d.c.b.a", "a", "b.a"},
		{"*.b.a !c.b.a", "c.b.a", "b.a", "c.b.a"},
		{"*.b.a !c.b.a", "x.b.a", "x.b.a", ""},
		// Of not rules the longest one counts.
		{"!b.a !c.b.a", "d.c.b.a", "b.a", "c.b.a"},
		{"!c.b.a !b.a", "d.c.b.a", "b.a", "c.b.a"},
		{"!c.b.a !b.a", "c.b.a", "b.a", "c.b.a"},
		{"!c.b.a !b.a", "x.b.a", "a", "b.a"},
		{"!b.a !d.c.b.a !c.b.a", "d.c.b.a", "c.b.a", "d.c.b.a"},
		{"!b.a !d.c.b.a !c.b.a x.d.c.b.a", "x.d.c.b.a", "c.b.a", "d.c.b.a"},
		// Rules that stand there twice.
		{"a a", "b.a", "a", "b.a"},
		{"*.a *.a", "c.b.a", "b.a", "c.b.a"},
		{"!b.a !b.a", "c.b.a", "a", "b.a"},
		// A name may end with an address, which is none by itself; its last numbers are names again.
		{"", "a.1.2.3.4", "4", "3.4"},
		{"2.3.4", "a.1.2.3.4", "2.3.4", "1.2.3.4"},
		{"3.4", "a.1.2.3.4", "3.4", "2.3.4"},
		{"*.3.4", "a.1.2.3.4", "2.3.4", "1.2.3.4"},
		{"*.2.3.4", "a.1.2.3.4", "1.2.3.4", "a.1.2.3.4"},
		{"*.2.3.4", "b.a.1.2.3.4", "1.2.3.4", "a.1.2.3.4"},
		{"!2.3.4", "a.1.2.3.4", "3.4", "2.3.4"},
		{"!a.1.2.3.4", "a.1.2.3.4", "1.2.3.4", "a.1.2.3.4"},
		{"!a.1.2.3.4", "b.a.1.2.3.4", "1.2.3.4", "a.1.2.3.4"},
		{"a.1.2.3.4", "a.1.2.3.4", "a.1.2.3.4", ""},
		{"a.1.2.3.4 4", "b.a.1.2.3.4", "a.1.2.3.4", "b.a.1.2.3.4"},
		{"3.256", "1.2.3.256", "3.256", "2.3.256"},
		// The longest names there are.
		{"", longName(256), "ab", "a.ab"},
		{"*.ab", longName(256), "a.ab", "a.a.ab"},
		{longName(256), longName(256), longName(256), ""},
		{longName(254), longName(256), longName(254), longName(256)},
		{"*." + longName(254), longName(256), longName(256), ""},
		{"*." + longName(256), longName(256), "ab", "a.ab"},
		{"!" + longName(256), longName(256), longName(254), longName(256)},
		{"!a.ab ab", longName(256), "ab", "a.ab"},
		{"", "a." + strings.Repeat("b", 63), strings.Repeat("b", 63), "a." + strings.Repeat("b", 63)},
		{strings.Repeat("b", 63), strings.Repeat("b", 63), strings.Repeat("b", 63), ""},
	}
}

func TestP9_2Of(t *testing.T) {
	for _, c := range cases() {
		if got, e := suffix.Of(strings.Fields(c.rules), c.name); got != c.suffix || e != api.OK {
			t.Errorf("Of(%.80q, %.80q): %.80q %v, not %.80q", c.rules, c.name, got, e, c.suffix)
		}
	}
}

func TestP9_2Public(t *testing.T) {
	for _, c := range cases() {
		if got := suffix.Public(strings.Fields(c.rules), c.name); got != (c.name == c.suffix) {
			t.Errorf("Public(%.80q, %.80q): %v", c.rules, c.name, got)
		}
	}
}

func TestP9_2Own(t *testing.T) {
	for _, c := range cases() {
		if got, is := suffix.Own(strings.Fields(c.rules), c.name); got != c.own || is != (c.own != "") {
			t.Errorf("Own(%.80q, %.80q): %.80q %v, not %.80q", c.rules, c.name, got, is, c.own)
		}
	}
}

// errs holds the three calls to an error of Of.
func errs(t *testing.T, rules []string, name string, want api.Errno) {
	t.Helper()
	if got, e := suffix.Of(rules, name); got != "" || e != want {
		t.Errorf("Of(%.40q, %.40q): %.40q %v, not %v", rules, name, got, e, want)
	}
	if suffix.Public(rules, name) {
		t.Errorf("Public(%.40q, %.40q)", rules, name)
	}
	if got, is := suffix.Own(rules, name); got != "" || is {
		t.Errorf("Own(%.40q, %.40q): %.40q %v", rules, name, got, is)
	}
}

func TestP9_2WrongNames(t *testing.T) {
	l := []string{
		"", ".", "..", "a.", ".a", "a..b", "a.test.", ".a.test", "a..test", ".test", "test.",
		"A", "TEST", "a.Test", "A.test", "Own.city", "-a.test", "a-.test", "a.-test", "-",
		" ", " a.test", "a.test ", "a b.test", "a.test\n", "a.test\x00", "a.test:80", "a/test", "*", "*.city", "!own.city", "*.test", "!a", "a.*", "a@test",
		"1.2.3.4", "0.0.0.0", "255.255.255.255", "[::1]", "[a.b]", "[::1].test", "a.[::1]",
		"bücher.test", "a\xff.test", "\u212a.test", "a。test",
		longName(257), longName(258), strings.Repeat("a", 64), strings.Repeat("a", 64) + ".test", "test." + strings.Repeat("a", 64), "." + longName(255), strings.Repeat("a.", 1<<20) + "test", strings.Repeat("a", 1<<20),
	}
	for _, rules := range [][]string{nil, {}, {"test", "co.test", "*.city", "!own.city"}, {"a", "4", "*.3.4", "!2.3.4"}, many(256)} {
		for _, name := range l {
			errs(t, rules, name, api.ErrForm)
		}
	}
}

func TestP9_2WrongRules(t *testing.T) {
	for _, s := range wrong() {
		for _, rules := range [][]string{{s}, {"test", s}, {s, "test"}, {"test", "a.test", "!a.test", s}} {
			for _, name := range []string{"a.test", "test", "b", s, ""} {
				errs(t, rules, name, api.ErrForm)
			}
		}
	}
	// Too many of them are ahead of all else.
	for _, name := range []string{"a.test", "test", "aaa", "1.2.3.4", "A", "", longName(257)} {
		errs(t, many(257), name, api.ErrLong)
		errs(t, make([]string, 257), name, api.ErrLong)
		errs(t, slices.Repeat([]string{"test"}, 1<<12), name, api.ErrLong)
		errs(t, make([]string, 256), name, api.ErrForm)
	}
}

func TestP9_2AtTheMostRules(t *testing.T) {
	for _, n := range []int{255, 256} {
		for at := range n {
			rules := slices.Repeat([]string{"other"}, n)
			for rule, want := range map[string]string{"co.test": "co.test", "*.co.test": "b.co.test", "!b.co.test": "co.test", "test": "test"} {
				rules[at] = rule
				if got, e := suffix.Of(rules, "a.b.co.test"); got != want || e != api.OK {
					t.Fatalf("%q at %d of %d: %q %v", rule, at, n, got, e)
				}
			}
		}
	}
}

// agrees holds the three calls to the chapter's words.
func agrees(t *testing.T, rules []string, name string) {
	t.Helper()
	want := suffixed(rules, name)
	if got, e := suffix.Of(rules, name); got != want || e != api.OK {
		t.Errorf("Of(%q, %q): %q %v, not %q", rules, name, got, e, want)
	}
	if got := suffix.Public(rules, name); got != (name == want) {
		t.Errorf("Public(%q, %q): %v", rules, name, got)
	}
	wanted, has := owned(rules, name)
	if got, is := suffix.Own(rules, name); got != wanted || is != has {
		t.Errorf("Own(%q, %q): %q %v, not %q", rules, name, got, is, wanted)
	}
}

// rulesOf are all rules that names give.
func rulesOf(names []string) []string {
	var l []string
	for _, name := range names {
		for _, s := range []string{name, "*." + name, "!" + name} {
			if ruled(s) {
				l = append(l, s)
			}
		}
	}
	return l
}

func TestP9_2AllShortNamesByAllPairsOfRules(t *testing.T) {
	l := names(4, "a", "b")
	rules := rulesOf(names(3, "a", "b"))
	for _, name := range l {
		agrees(t, nil, name)
	}
	for _, first := range rules {
		for _, second := range rules {
			for _, name := range l {
				agrees(t, []string{first, second}, name)
			}
		}
	}
}

func TestP9_2AllEndsOfANameByAllSetsOfItsRules(t *testing.T) {
	l := names(4, "a")
	rules := rulesOf(l)
	for set := range 1 << len(rules) {
		var some []string
		for i, s := range rules {
			if set>>i&1 == 1 {
				some = append(some, s)
			}
		}
		for _, name := range append(l, "a.a.a.a.a", "b.a.a.a", "aa.a", "a.aa.a") {
			agrees(t, some, name)
		}
	}
}

// drawn are some rules and some names, of few labels, so that they fit each other often.
func drawn(r *rand.Rand) ([]string, []string) {
	labels := []string{"a", "b", "ab", "1", "2", "3", "a-b", "_"}[:2+r.Intn(7)]
	draw := func(most int) string {
		var l []string
		for range 1 + r.Intn(most) {
			l = append(l, labels[r.Intn(len(labels))])
		}
		return strings.Join(l, ".")
	}
	var rules, names []string
	for range r.Intn(24) {
		if s := []string{"", "", "*.", "!"}[r.Intn(4)] + draw(4); ruled(s) {
			rules = append(rules, s)
		}
	}
	for range 24 {
		if s := draw(7); named(s) {
			names = append(names, s)
		}
	}
	return rules, names
}

func TestP9_2DrawnNamesByDrawnRules(t *testing.T) {
	r := rand.New(rand.NewSource(9))
	for range 2000 {
		rules, names := drawn(r)
		for _, name := range names {
			agrees(t, rules, name)
		}
	}
}

func TestP9_2WhatIsHandedInStays(t *testing.T) {
	room := []string{"test", "co.test", "*.city", "!own.city", "A", "", "!x"}
	rules, before := room[:4], slices.Clone(room)
	for range 2 {
		if e := suffix.Check(rules); e != api.OK {
			t.Errorf("%v", e)
		}
		for _, name := range []string{"a.co.test", "test", "x.own.city", "a.b.city", "A", "1.2.3.4"} {
			suffix.Of(rules, name)
			suffix.Public(rules, name)
			suffix.Own(rules, name)
		}
		if !slices.Equal(room, before) {
			t.Fatalf("%q", room)
		}
	}
	// Nor is it kept: the same list with other rules has other answers.
	rules[1] = "other"
	if got, e := suffix.Of(rules, "a.co.test"); got != "test" || e != api.OK {
		t.Errorf("%q %v", got, e)
	}
}

func TestP9_3NamesMatchTheirSuffixAndTheirOwn(t *testing.T) {
	r := rand.New(rand.NewSource(93))
	owns := 0
	follows := func(rules []string, name string) {
		public, e := suffix.Of(rules, name)
		if e != api.OK || !host.Match(name, public) {
			t.Errorf("%.80q, by %.80q, does not match %.80q: %v", name, rules, public, e)
		}
		own, has := suffix.Own(rules, name)
		if has == (name == public) {
			t.Errorf("%.80q, by %.80q, has an own: %v", name, rules, has)
		}
		if !has {
			return
		}
		owns++
		front, ends := strings.CutSuffix(own, "."+public)
		if !host.Match(name, own) || !ends || len(host.Labels(front)) != 1 {
			t.Errorf("%.80q, by %.80q, has the own %.80q over %.80q", name, rules, own, public)
		}
	}
	for range 2000 {
		rules, names := drawn(r)
		for _, name := range names {
			follows(rules, name)
		}
	}
	for _, c := range cases() {
		follows(strings.Fields(c.rules), c.name)
	}
	if owns < 1000 {
		t.Errorf("%d owns only", owns)
	}
}

func TestP9_4NamesOfOneOwnHaveOneSuffix(t *testing.T) {
	r := rand.New(rand.NewSource(94))
	met := 0
	for range 2000 {
		rules, names := drawn(r)
		suffixes := map[string]string{}
		for _, name := range names {
			own, has := suffix.Own(rules, name)
			if !has {
				continue
			}
			// What is between the name and its own has that own, too, but for an address.
			for _, up := range ends(name) {
				if !named(up) || len(up) < len(own) {
					continue
				}
				if again, is := suffix.Own(rules, up); again != own || !is {
					t.Errorf("by %q %q has the own %q, %q has %q", rules, name, own, up, again)
				}
				public, e := suffix.Of(rules, up)
				first, is := suffixes[own]
				if e != api.OK || is && first != public {
					t.Errorf("by %q %q, of %q, has %q, others %q: %v", rules, up, own, public, first, e)
				}
				if is {
					met++
				}
				suffixes[own] = public
			}
		}
	}
	if met < 1000 {
		t.Errorf("%d names only", met)
	}
}

func TestP9_5InWhateverOrderRulesStand(t *testing.T) {
	r := rand.New(rand.NewSource(95))
	for range 1000 {
		rules, names := drawn(r)
		other := slices.Clone(rules)
		slices.Reverse(other)
		for range 4 {
			for _, name := range names {
				first, e := suffix.Of(rules, name)
				second, again := suffix.Of(other, name)
				if first != second || e != again {
					t.Errorf("%q by %q: %q; by %q: %q", name, rules, first, other, second)
				}
			}
			r.Shuffle(len(other), func(i, j int) { other[i], other[j] = other[j], other[i] })
		}
	}
}

func TestP9_5AllOrdersOfFourRules(t *testing.T) {
	rules := []string{"b.a", "*.b.a", "!c.b.a", "!b.a"}
	for set := range 256 {
		l := []string{rules[set&3], rules[set>>2&3], rules[set>>4&3], rules[set>>6]}
		for _, name := range []string{"a", "b.a", "c.b.a", "d.c.b.a", "x.b.a", "y.x.b.a", "y.a"} {
			sorted := slices.Sorted(slices.Values(l))
			first, e := suffix.Of(l, name)
			second, again := suffix.Of(sorted, name)
			if first != second || e != api.OK || again != api.OK {
				t.Errorf("%q by %q: %q; sorted: %q", name, l, first, second)
			}
			agrees(t, l, name)
		}
	}
}
