package path_test

import (
	"math/rand"
	"regexp"
	"slices"
	"strings"
	"testing"

	"biscotti/path"
)

// What the chapter's words say of a path with a directory other than "/", as an expression; (?s) and \z let no end of a line by.
var inDirectory = regexp.MustCompile(`(?s)\A(/.*)/[^/]*\z`)

// directory answers by the chapter's words what Default answers.
func directory(s string) string {
	if part := inDirectory.FindStringSubmatch(s); part != nil {
		return part[1]
	}
	return "/"
}

// fitted are by the chapter's words all paths of cookies that s fits: its beginnings that end in a place where they may.
func fitted(s string) []string {
	list := []string{s}
	for i := range len(s) {
		if s[i] == '/' || i > 0 && s[i-1] == '/' {
			list = append(list, s[:i])
		}
	}
	return list
}

// directories answers by the chapter's words what Parts answers: what stands ahead of each / but the first, from behind.
func directories(s string) []string {
	if !strings.HasPrefix(s, "/") {
		return nil
	}
	var list []string
	for i := len(s) - 1; i > 0; i-- {
		if s[i] == '/' && s[:i] != "/" {
			list = append(list, s[:i])
		}
	}
	return append(list, "/")
}

// hold holds what is answered of one path against the chapter's words.
func hold(t *testing.T, s string) {
	t.Helper()
	if got, want := path.Default(s), directory(s); got != want {
		t.Errorf("Default(%.80q) of %d bytes: %.80q, not %.80q", s, len(s), got, want)
	}
	if got, want := path.Parts(s), directories(s); !slices.Equal(got, want) {
		t.Errorf("Parts(%.80q) of %d bytes: %.80q, not %.80q", s, len(s), got, want)
	}
	if got, want := path.Depth(s), strings.Count(s, "/"); got != want {
		t.Errorf("Depth(%.80q) of %d bytes: %d, not %d", s, len(s), got, want)
	}
}

// holdMatch holds what Match answers against the chapter's words, and tells whether the path fits.
func holdMatch(t *testing.T, s, cookie string) bool {
	t.Helper()
	want := slices.Contains(fitted(s), cookie)
	if got := path.Match(s, cookie); got != want {
		t.Errorf("Match(%.80q, %.80q) of %d and %d bytes: %v", s, cookie, len(s), len(cookie), got)
	}
	return want
}

// short are all texts of at most that many parts of a few.
func short(most int, of ...string) []string {
	all, last := []string{""}, []string{""}
	for range most {
		var longer []string
		for _, s := range last {
			for _, part := range of {
				longer = append(longer, s+part)
			}
		}
		all, last = append(all, longer...), longer
	}
	return all
}

// spoilt are all texts that are s but for one byte that is another one, is left out, or stands there too.
func spoilt(s string) []string {
	var all []string
	for i := range len(s) + 1 {
		for x := range 256 {
			b := string([]byte{byte(x)})
			all = append(all, s[:i]+b+s[i:])
			if i < len(s) {
				all = append(all, s[:i]+b+s[i+1:])
			}
		}
		if i < len(s) {
			all = append(all, s[:i]+s[i+1:])
		}
	}
	return all
}

// drawn answers a text of at most that many signs, many of which are /.
func drawn(r *rand.Rand, most int) string {
	const signs = "////aab.%2F?#\x00\n\x80\xff"
	b := make([]byte, r.Intn(most+1))
	for i := range b {
		b[i] = signs[r.Intn(len(signs))]
	}
	if r.Intn(3) > 0 {
		return "/" + string(b)
	}
	return string(b)
}

// huge are long paths of each shape.
func huge() []string {
	name, deep := strings.Repeat("a", 1<<20), strings.Repeat("/a", 10000)
	return []string{name, "/" + name, name + "/", "/" + name + "/", "/" + name + "/" + name, name + "/" + name, deep, deep + "/", "a" + deep, strings.Repeat("/", 10000)}
}

func TestP11_1Default(t *testing.T) {
	for s, want := range map[string]string{
		"":              "/",
		"a":             "/",
		"a/":            "/",
		"a/b/c":         "/",
		"./a/b":         "/",
		" /a/b":         "/",
		"\\a/b":         "/",
		"%2Fa/b":        "/",
		"/":             "/",
		"/a":            "/",
		"/a\\b":         "/",
		"/a%2Fb":        "/",
		"/a%2fb":        "/",
		"/\u2215\uff0f": "/",
		"/\xaf":         "/",
		"/a/":           "/a",
		"/a/b":          "/a",
		"/A/b":          "/A",
		"/a/b/":         "/a/b",
		"/a/b/c":        "/a/b",
		"//":            "/",
		"//a":           "/",
		"///":           "//",
		"//a/":          "//a",
		"/a//":          "/a/",
		"/a//b":         "/a/",
		"/a/./b":        "/a/.",
		"/a/../b":       "/a/..",
		"/a/?b/c":       "/a/?b",
		"/a/#b/c":       "/a/#b",
		"/a;b/c;d":      "/a;b",
		"/a b/ ":        "/a b",
		"/\n/\n":        "/\n",
		"/\x00/\x00":    "/\x00",
		"/\xff/\xfe":    "/\xff",
		"/é/ü":          "/é",
	} {
		if got := path.Default(s); got != want {
			t.Errorf("Default(%q): %q, not %q", s, got, want)
		}
	}
}

func TestP11_1Match(t *testing.T) {
	for _, x := range []struct {
		path, cookie string
		want         bool
	}{
		{"", "", true},
		{"/", "", true},
		{"/a", "", true},
		{"a", "", false},
		{"a/", "", false},
		{"", "/", false},
		{"", "a", false},
		{"a", "a", true},
		{"a/b", "a", true},
		{"a/b", "a/", true},
		{"ab", "a", false},
		{"a", "/", false},
		{"a/", "/", false},
		{"a/b", "/b", false},
		{"/", "/", true},
		{"/a", "/", true},
		{"/a/b", "/", true},
		{"//", "/", true},
		{"/", "//", false},
		{"/a", "//", false},
		{"//a", "//", true},
		{"//a", "/a", false},
		{"/a", "/a", true},
		{"/a/", "/a", true},
		{"/a//", "/a", true},
		{"/a/b", "/a", true},
		{"/a/b/c", "/a", true},
		{"/a/b/c", "/a/b", true},
		{"/ab", "/a", false},
		{"/ab/", "/a", false},
		{"/a.b", "/a", false},
		{"/a?b", "/a", false},
		{"/a#b", "/a", false},
		{"/a;b", "/a", false},
		{"/a%2Fb", "/a", false},
		{"/a\\b", "/a", false},
		{"/a\x00", "/a", false},
		{"/a", "/a/", false},
		{"/a/", "/a/", true},
		{"/a/b", "/a/", true},
		{"/a//b", "/a/", true},
		{"/a/b", "/a//", false},
		{"/a//b", "/a//", true},
		{"/a", "/a/b", false},
		{"/a/", "/a/b", false},
		{"/a/b", "/b", false},
		{"/b/a", "/a", false},
		{"/b", "/a", false},
		{"/A", "/a", false},
		{"/a", "/A", false},
		{"/A/b", "/a", false},
		{"/%61", "/a", false},
		{"/a/../b", "/b", false},
		{"/a/../b", "/a", true},
		{"/./a", "/a", false},
		{"/a/.", "/a", true},
		{"/é", "/\xc3", false},
		{"/\xc3/", "/\xc3", true},
		{"/\xff", "/\xfe", false},
		{"/\xff", "/\ufffd", false},
		{"/ a", "/", true},
		{"/a ", "/a", false},
		{"/a/ ", "/a", true},
	} {
		if got := path.Match(x.path, x.cookie); got != x.want {
			t.Errorf("Match(%q, %q): %v", x.path, x.cookie, got)
		}
	}
}

func TestP11_2Parts(t *testing.T) {
	for s, want := range map[string][]string{
		"":         {},
		"a":        {},
		"a/":       {},
		"a/b/c":    {},
		" /a/b":    {},
		"\\a/b":    {},
		"/":        {"/"},
		"/a":       {"/"},
		"//":       {"/"},
		"//a":      {"/"},
		"/a/":      {"/a", "/"},
		"/a/b":     {"/a", "/"},
		"/a/b/":    {"/a/b", "/a", "/"},
		"/a/b/c":   {"/a/b", "/a", "/"},
		"///":      {"//", "/"},
		"////":     {"///", "//", "/"},
		"//a/":     {"//a", "/"},
		"/a//":     {"/a/", "/a", "/"},
		"/a//b":    {"/a/", "/a", "/"},
		"/a/../b/": {"/a/../b", "/a/..", "/a", "/"},
		"/a?/b#/c": {"/a?/b#", "/a?", "/"},
		"/\xff/\n": {"/\xff", "/"},
	} {
		if got := path.Parts(s); !slices.Equal(got, want) {
			t.Errorf("Parts(%q): %q, not %q", s, got, want)
		}
	}
}

func TestP11_2Depth(t *testing.T) {
	for s, want := range map[string]int{
		"": 0, "a": 0, "\\": 0, "%2F": 0, "\u2215": 0, "\uff0f": 0, "\xaf": 0, "\xc0\xaf": 0,
		"/": 1, "a/": 1, "/a": 1, "a/b": 1, "\xff/\x00": 1,
		"//": 2, "/a/": 2, "a//": 2, "/a/b": 2,
		"//x/": 3, "/a/b/c": 3, "/?/#/": 3, "//x//": 4,
	} {
		if got := path.Depth(s); got != want {
			t.Errorf("Depth(%q): %d, not %d", s, got, want)
		}
	}
}

func TestP11_1P11_2EachByteInEachPlace(t *testing.T) {
	for _, s := range []string{"", "/", "//", "/a", "/a/", "/a/b", "//a//b", "/a/b/c/", "a/b"} {
		for _, other := range spoilt(s) {
			hold(t, other)
			holdMatch(t, s, other)
			holdMatch(t, other, s)
			holdMatch(t, other+"/b", s)
			holdMatch(t, other+"b", other)
		}
	}
}

func TestP11_1P11_2ShortPaths(t *testing.T) {
	for _, s := range short(8, "/", "a", ".") {
		hold(t, s)
	}
	paths, fit := short(5, "/", "a", "b"), 0
	for _, s := range paths {
		for _, cookie := range paths {
			if holdMatch(t, s, cookie) {
				fit++
			}
		}
	}
	if fit == 0 {
		t.Error("none fits")
	}
}

func TestP11_1P11_2DrawnPaths(t *testing.T) {
	r := rand.New(rand.NewSource(11))
	fit := 0
	for range 20000 {
		s := drawn(r, 40)
		hold(t, s)
		holdMatch(t, s, drawn(r, 4))
		if holdMatch(t, s, s[:r.Intn(len(s)+1)]) {
			fit++
		}
	}
	if fit == 0 {
		t.Error("none fits")
	}
}

func TestP11_1P11_2HugePaths(t *testing.T) {
	for _, s := range huge() {
		hold(t, s)
		for _, x := range []struct {
			path, cookie string
			want         bool
		}{
			{s, s, true},
			{s + "/", s, true},
			{s + "/a", s, true},
			{s + "a", s, strings.HasSuffix(s, "/")},
			{s, s + "/", false},
			{s, s + "a", false},
			{s, "/", strings.HasPrefix(s, "/")},
		} {
			if got := path.Match(x.path, x.cookie); got != x.want {
				t.Errorf("Match(%.20q, %.20q) of %d and %d bytes: %v", x.path, x.cookie, len(x.path), len(x.cookie), got)
			}
		}
	}
}

func TestP11_2PartsAreOfTheCallAlone(t *testing.T) {
	first, second := path.Parts("/a/b/c"), path.Parts("/a/b/c")
	for i := range first {
		first[i] = "x"
	}
	_ = append(first[:0], "y", "y", "y", "y")
	want := []string{"/a/b", "/a", "/"}
	if third := path.Parts("/a/b/c"); !slices.Equal(second, want) || !slices.Equal(third, want) {
		t.Errorf("%q %q", second, third)
	}
}

func TestP11_3APathFitsItsDirectory(t *testing.T) {
	r := rand.New(rand.NewSource(113))
	paths := append(short(8, "/", "a", "."), huge()...)
	for range 5000 {
		paths = append(paths, drawn(r, 40))
	}
	for _, s := range paths {
		if strings.HasPrefix(s, "/") && !path.Match(s, path.Default(s)) {
			t.Errorf("%.80q does not fit %.80q", s, path.Default(s))
		}
	}
}

func TestP11_3FitsGoesOn(t *testing.T) {
	paths, chains := short(4, "/", "a", "b"), 0
	for _, first := range paths {
		for _, second := range paths {
			if !path.Match(first, second) {
				continue
			}
			for _, third := range paths {
				if !path.Match(second, third) {
					continue
				}
				chains++
				if !path.Match(first, third) {
					t.Errorf("%q fits %q, and that fits %q", first, second, third)
				}
			}
		}
	}
	if chains <= len(paths) {
		t.Errorf("%d chains", chains)
	}
}

func TestP11_4APathFitsItsParts(t *testing.T) {
	r := rand.New(rand.NewSource(114))
	paths := append(short(8, "/", "a", "."), huge()...)
	for range 5000 {
		paths = append(paths, drawn(r, 40))
	}
	for _, s := range paths {
		parts := path.Parts(s)
		if (len(parts) > 0) != strings.HasPrefix(s, "/") {
			t.Errorf("%.80q has %d parts", s, len(parts))
		}
		for _, part := range parts {
			if !path.Match(s, part) {
				t.Errorf("%.80q does not fit its part %.80q", s, part)
			}
		}
	}
}
