package uri_test

import (
	"math/rand"
	"regexp"
	"strconv"
	"strings"
	"testing"

	"biscotti/api"
	"biscotti/uri"
)

// What the chapter's words say of texts, as expressions; (?s) and \z let no end of a line by.
var (
	parts     = regexp.MustCompile(`(?s)\A(.*?)://([^/?#]*)([^?#]*)`)
	front     = regexp.MustCompile(`(?s)\A(\[[^\]]*\]|[^\[:][^:]*)(?::([0-9]{0,5}))?\z`)
	labels    = regexp.MustCompile(`(?s)\A[a-z0-9_](?:[a-z0-9_-]{0,61}[a-z0-9_])?(?:\.[a-z0-9_](?:[a-z0-9_-]{0,61}[a-z0-9_])?)*\z`)
	bracketed = regexp.MustCompile(`(?s)\A\[[0-9a-f:.]{2,45}\]\z`)
	signs     = regexp.MustCompile(`(?s)\A[!-~]*\z`)
	paths     = regexp.MustCompile(`(?s)\A/[!-~]*\z`)
)

// canonical tells by the words of layer 8 whether s is canonical. Four numbers are labels, too.
func canonical(s string) bool {
	return len(s) <= 256 && labels.MatchString(s) || bracketed.MatchString(s)
}

// madeSmall answers s with its capital letters of ASCII made small.
func madeSmall(s string) string {
	b := []byte(s)
	for i, x := range b {
		if x >= 65 && x <= 90 {
			b[i] = x + 32
		}
	}
	return string(b)
}

// parsed answers by the chapter's words what Parse answers.
func parsed(s string) (api.Request, api.Errno) {
	if len(s) > 1024 {
		return api.Request{}, api.ErrLong
	}
	part := parts.FindStringSubmatch(s)
	if !signs.MatchString(s) || part == nil {
		return api.Request{}, api.ErrForm
	}
	word := madeSmall(part[1])
	if word != "http" && word != "https" {
		return api.Request{}, api.ErrScheme
	}
	server := front.FindStringSubmatch(part[2])
	if server == nil || !canonical(madeSmall(server[1])) {
		return api.Request{}, api.ErrForm
	}
	if n, err := strconv.Atoi("0" + server[2]); err != nil || n > 65535 {
		return api.Request{}, api.ErrForm
	}
	path := part[3]
	if path == "" {
		path = "/"
	}
	return api.Request{Host: madeSmall(server[1]), Path: path, Secure: word == "https"}, api.OK
}

// told answers by the chapter's words the address of a request that is right, and whether it is.
func told(r api.Request) (string, bool) {
	s := "http://" + r.Host + r.Path
	if r.Secure {
		s = "https://" + r.Host + r.Path
	}
	if len(s) > 1024 || !canonical(r.Host) || !paths.MatchString(r.Path) || strings.Contains(r.Path, "?") || strings.Contains(r.Path, "#") {
		return "", false
	}
	return s, true
}

// holdParse holds what Parse answers of s against the chapter's words, and tells whether it is an address.
func holdParse(t *testing.T, s string) bool {
	t.Helper()
	want, wrong := parsed(s)
	if r, e := uri.Parse(s); r != want || e != wrong {
		t.Errorf("Parse(%.80q) of %d bytes: %#.80v %v, not %#.80v %v", s, len(s), r, e, want, wrong)
	}
	return wrong == api.OK
}

// holdText holds what Right and Text answer of r against the chapter's words, and tells whether it is right.
func holdText(t *testing.T, r api.Request) bool {
	t.Helper()
	want, right := told(r)
	wrong := api.ErrForm
	if right {
		wrong = api.OK
	}
	if got := uri.Right(r); got != right {
		t.Errorf("Right(%#.80v): %v", r, got)
	}
	if s, e := uri.Text(r); s != want || e != wrong {
		t.Errorf("Text(%#.80v): %.80q %v, not %.80q %v", r, s, e, want, wrong)
	}
	return right
}

// short are all texts of at most that many parts of a few.
func short(most int, of ...string) []string {
	all, last := []string{""}, []string{""}
	for range most {
		var longer []string
		for _, s := range last {
			for _, part := range of {
				longer = append(longer, s+part)
			}
		}
		all, last = append(all, longer...), longer
	}
	return all
}

// spoilt are a good text with each byte in each place, instead of a byte and ahead of it, and without each byte.
func spoilt(good string) []string {
	var l []string
	for i := range len(good) + 1 {
		for x := range 256 {
			l = append(l, good[:i]+string([]byte{byte(x)})+good[i:])
			if i < len(good) {
				l = append(l, good[:i]+string([]byte{byte(x)})+good[i+1:])
			}
		}
		if i < len(good) {
			l = append(l, good[:i]+good[i+1:], good[:i], good[i:])
		}
	}
	return l
}

// longName is a name of n bytes: labels of one byte each, the last one of two where n is even.
func longName(n int) string {
	s := strings.Repeat("a.", (n-1)/2) + "a"
	if n%2 == 0 {
		s += "b"
	}
	return s
}

// filled is s, up to n bytes.
func filled(s string, n int) string {
	return s + strings.Repeat("x", n-len(s))
}

func TestP10_1Parse(t *testing.T) {
	label := strings.Repeat("z", 63)
	for s, want := range map[string]api.Request{
		"HTTPS://Shop.Test:8443/a?b":       {Host: "shop.test", Path: "/a", Secure: true},
		"http://a.test":                    {Host: "a.test", Path: "/"},
		"http://a.test/":                   {Host: "a.test", Path: "/"},
		"https://a.test":                   {Host: "a.test", Path: "/", Secure: true},
		"http://a":                         {Host: "a", Path: "/"},
		"http://A_b.C-d/E":                 {Host: "a_b.c-d", Path: "/E"},
		"http://a.test/b/c":                {Host: "a.test", Path: "/b/c"},
		"http://a.test/b/":                 {Host: "a.test", Path: "/b/"},
		"http://a.test//":                  {Host: "a.test", Path: "//"},
		"http://a.test/../B/./c":           {Host: "a.test", Path: "/../B/./c"},
		"http://a.test/%41%20%zz":          {Host: "a.test", Path: "/%41%20%zz"},
		"http://a.test/a:b@c[d]":           {Host: "a.test", Path: "/a:b@c[d]"},
		"http://a.test/!\"$&'()*+,;<=>\\~": {Host: "a.test", Path: "/!\"$&'()*+,;<=>\\~"},
		"http://" + label:                  {Host: label, Path: "/"},
		// The path ends ahead of the first ? or #, whatever stands behind it.
		"http://a.test?":        {Host: "a.test", Path: "/"},
		"http://a.test#":        {Host: "a.test", Path: "/"},
		"http://a.test?/b":      {Host: "a.test", Path: "/"},
		"http://a.test#/b":      {Host: "a.test", Path: "/"},
		"http://a.test?b:c@d/e": {Host: "a.test", Path: "/"},
		"http://a.test/b?c#d":   {Host: "a.test", Path: "/b"},
		"http://a.test/b#c?d":   {Host: "a.test", Path: "/b"},
		"http://a.test/b?c?d":   {Host: "a.test", Path: "/b"},
		"http://a.test/b#c#d":   {Host: "a.test", Path: "/b"},
		"http://a.test/?":       {Host: "a.test", Path: "/"},
		"http://a.test/b/?/c":   {Host: "a.test", Path: "/b/"},
		"http://a.test/b/#/c":   {Host: "a.test", Path: "/b/"},
		"http://a.test:1?b":     {Host: "a.test", Path: "/"},
		"http://a.test:1#b":     {Host: "a.test", Path: "/"},
		"http://a.test:?b":      {Host: "a.test", Path: "/"},
		"http://a.test:#b":      {Host: "a.test", Path: "/"},
		// A second :// is of the rest; where it ends the host, its colon has a port of no digits behind it.
		"http://http://a":        {Host: "http", Path: "//a"},
		"http://a.test/http://b": {Host: "a.test", Path: "/http://b"},
		"http://a.test?ftp://b":  {Host: "a.test", Path: "/"},
		"https://a.test#://":     {Host: "a.test", Path: "/", Secure: true},
		"http://a.test://b":      {Host: "a.test", Path: "//b"},
		// Ports.
		"http://a.test:":          {Host: "a.test", Path: "/"},
		"http://a.test:/":         {Host: "a.test", Path: "/"},
		"http://a.test:0":         {Host: "a.test", Path: "/"},
		"http://a.test:00000/b":   {Host: "a.test", Path: "/b"},
		"http://a.test:00080/b":   {Host: "a.test", Path: "/b"},
		"http://a.test:80":        {Host: "a.test", Path: "/"},
		"https://a.test:80/":      {Host: "a.test", Path: "/", Secure: true},
		"http://a.test:443/":      {Host: "a.test", Path: "/"},
		"http://a.test:65535/":    {Host: "a.test", Path: "/"},
		"http://a.test:1/b:99999": {Host: "a.test", Path: "/b:99999"},
		// Addresses of hosts.
		"https://1.2.3.4/a":                        {Host: "1.2.3.4", Path: "/a", Secure: true},
		"http://255.255.255.255:1":                 {Host: "255.255.255.255", Path: "/"},
		"http://256.1.1.1":                         {Host: "256.1.1.1", Path: "/"},
		"http://[::1]":                             {Host: "[::1]", Path: "/"},
		"http://[::1]/":                            {Host: "[::1]", Path: "/"},
		"http://[::1]?a":                           {Host: "[::1]", Path: "/"},
		"http://[::1]#a":                           {Host: "[::1]", Path: "/"},
		"http://[::1]:":                            {Host: "[::1]", Path: "/"},
		"http://[::1]:65535/a":                     {Host: "[::1]", Path: "/a"},
		"HTTP://[FE80::AB.CD]:8/A":                 {Host: "[fe80::ab.cd]", Path: "/A"},
		"http://[::]/]":                            {Host: "[::]", Path: "/]"},
		"http://[::]/[::1]:x":                      {Host: "[::]", Path: "/[::1]:x"},
		"http://[" + strings.Repeat("0", 45) + "]": {Host: "[" + strings.Repeat("0", 45) + "]", Path: "/"},
	} {
		if r, e := uri.Parse(s); r != want || e != api.OK {
			t.Errorf("Parse(%q): %#v %v", s, r, e)
		}
	}
}

func TestP10_1ParseOfWrongAddresses(t *testing.T) {
	for s, want := range map[string]api.Errno{
		// No ://, or not all of it.
		"": api.ErrForm, ":": api.ErrForm, "/": api.ErrForm, "//": api.ErrForm, "a": api.ErrForm, "http": api.ErrForm, "https:": api.ErrForm, "http:/": api.ErrForm, "http//a": api.ErrForm, "http:/a": api.ErrForm, "http:/a/": api.ErrForm, "http:a//": api.ErrForm, "http:a.test": api.ErrForm, "http: //a": api.ErrForm, "http;//a": api.ErrForm, "http:\\\\a": api.ErrForm, "//a.test/": api.ErrForm, "a.test": api.ErrForm, "/b": api.ErrForm, "ftp:/a": api.ErrForm, "http:/:/a": api.ErrForm,
		// Other words.
		"://": api.ErrScheme, "://a": api.ErrScheme, "ftp://a": api.ErrScheme, "ws://a": api.ErrScheme, "htt://a": api.ErrScheme, "ttp://a": api.ErrScheme, "httpx://a": api.ErrScheme, "xhttp://a": api.ErrScheme, "httpss://a": api.ErrScheme, "shttp://a": api.ErrScheme, "http:://a": api.ErrScheme, "http/://a": api.ErrScheme, "http:/a://b": api.ErrScheme, "http:a://b": api.ErrScheme, "http?://a": api.ErrScheme, "/http://a": api.ErrScheme, "ttps://a": api.ErrScheme, "httphttps://a": api.ErrScheme, "http,https://a": api.ErrScheme, "a.test?b=http://c": api.ErrScheme, "HTTPZ://A": api.ErrScheme, "hTTPSS://a": api.ErrScheme,
		// Hosts that are not canonical.
		"http://": api.ErrForm, "https://": api.ErrForm, "http:///": api.ErrForm, "http:///a": api.ErrForm, "http://?a": api.ErrForm, "http://#a": api.ErrForm, "http://:": api.ErrForm, "http://:80": api.ErrForm, "http://:80/a": api.ErrForm, "http://.": api.ErrForm, "http://a.": api.ErrForm, "http://.a": api.ErrForm, "http://a..b": api.ErrForm, "http://-a": api.ErrForm, "http://a-/": api.ErrForm, "http://a%41/": api.ErrForm, "http://a*b": api.ErrForm, "http://a\\b": api.ErrForm, "http://a,b": api.ErrForm,
		"http://u@a": api.ErrForm, "http://u:p@a": api.ErrForm, "http://u:1@a": api.ErrForm, "http://@a": api.ErrForm, "http://u@[::1]": api.ErrForm,
		"http://::1": api.ErrForm, "http://::1]": api.ErrForm, "http://[": api.ErrForm, "http://]": api.ErrForm, "http://[]": api.ErrForm, "http://[:]": api.ErrForm, "http://[::1": api.ErrForm, "http://[::1/": api.ErrForm, "http://[::1/]": api.ErrForm, "http://[::1?]": api.ErrForm, "http://[::1#]": api.ErrForm, "http://[::1:80": api.ErrForm, "http://[::1:80/": api.ErrForm, "http://[::g]": api.ErrForm, "http://[a.b/c]": api.ErrForm, "http://[[::1]]": api.ErrForm, "http://[[::1]": api.ErrForm, "http://a[::1]": api.ErrForm, "http://a.[::1]": api.ErrForm, "http://[a_b]": api.ErrForm, "http://[fe80::1%251]": api.ErrForm, "http://(::1)": api.ErrForm,
		// Ports that are none.
		"http://a:65536": api.ErrForm, "http://a:65536/": api.ErrForm, "http://a:99999": api.ErrForm, "http://a:000080": api.ErrForm, "http://a:000000": api.ErrForm, "http://a:100000": api.ErrForm, "http://a:-1": api.ErrForm, "http://a:-0": api.ErrForm, "http://a:-": api.ErrForm, "http://a:+1": api.ErrForm, "http://a:x": api.ErrForm, "http://a:8x": api.ErrForm, "http://a:x8": api.ErrForm, "http://a:8.0": api.ErrForm, "http://a:0x50": api.ErrForm, "http://a::": api.ErrForm, "http://a::80": api.ErrForm, "http://a:80:": api.ErrForm, "http://a:80:80": api.ErrForm, "http://a:80@": api.ErrForm, "http://a:80]": api.ErrForm, "http://a:[::1]": api.ErrForm, "http://a:80\\b": api.ErrForm,
		"http://a:4294967376": api.ErrForm, "http://a:65616": api.ErrForm, "http://a:18446744073709551696": api.ErrForm, "http://a:-65456": api.ErrForm, "http://a:1e3": api.ErrForm, "http://a:%38": api.ErrForm,
		"http://[::1]:65536": api.ErrForm, "http://[::1]:-1": api.ErrForm, "http://[::1]:x": api.ErrForm, "http://[::1]::": api.ErrForm, "http://[::1]:80:80": api.ErrForm, "http://[::1]:000080": api.ErrForm,
		// Something else behind a host.
		"http://[::1]x": api.ErrForm, "http://[::1]x/": api.ErrForm, "http://[::1]80": api.ErrForm, "http://[::1]]": api.ErrForm, "http://[::1].a": api.ErrForm, "http://[::1][::1]": api.ErrForm, "http://[::1]x:80": api.ErrForm, "http://[::1]@a": api.ErrForm, "http://[::1]-:80": api.ErrForm, "http://[::1];80": api.ErrForm,
		// Bytes that may not be, wherever they are.
		" http://a": api.ErrForm, "http://a ": api.ErrForm, "http://a/ ": api.ErrForm, "http://a/b c": api.ErrForm, "http://a/?b c": api.ErrForm, "http://a/#b c": api.ErrForm, "http://a/\t": api.ErrForm, "http://a/\n": api.ErrForm, "\nhttp://a/": api.ErrForm, "ht\ntp://a/": api.ErrForm, "http://a/?\r\n": api.ErrForm, "http://a/\x00": api.ErrForm, "http://a/#\x7f": api.ErrForm, "http://a/é": api.ErrForm, "http://bücher.test/": api.ErrForm, "http://a/?\x80": api.ErrForm, "http://a/\xff": api.ErrForm, "http\u017f://a": api.ErrForm, "http://\u212a": api.ErrForm, "http://a :80": api.ErrForm, "http://a: 80": api.ErrForm, "http://a:80 ": api.ErrForm, "http://a:٨": api.ErrForm,
	} {
		if r, e := uri.Parse(s); r != (api.Request{}) || e != want {
			t.Errorf("Parse(%q): %#v %v, not %v", s, r, e, want)
		}
	}
}

func TestP10_1WhichErrorIsTheFirst(t *testing.T) {
	for s, want := range map[string]api.Errno{
		// A byte that may not be is told of ahead of a word, a word ahead of a host.
		"ftp://a b":                      api.ErrForm,
		"ftp://a/\x7f":                   api.ErrForm,
		"ft p://a":                       api.ErrForm,
		"ftp:/a b":                       api.ErrForm,
		"ftp://":                         api.ErrScheme,
		"ftp://-":                        api.ErrScheme,
		"ftp://a:x":                      api.ErrScheme,
		"ftp://[::1]x":                   api.ErrScheme,
		"ftp://" + longName(257):         api.ErrScheme,
		"http://" + longName(257):        api.ErrForm,
		"http://" + longName(257) + ":x": api.ErrForm,
		"http://-:x":                     api.ErrForm,
		filled("ftp://", 1024):           api.ErrScheme,
		filled("ftp:/", 1024):            api.ErrForm,
		filled("http://a/ ", 1024):       api.ErrForm,
		filled("http://-/", 1024):        api.ErrForm,
		filled("http://a:x/", 1024):      api.ErrForm,
		filled("http://", 1024):          api.ErrForm,
		// The length is told of ahead of all.
		filled("ftp://", 1025):            api.ErrLong,
		filled("ftp:/", 1025):             api.ErrLong,
		filled("http://a/ ", 1025):        api.ErrLong,
		filled("http://-/", 1025):         api.ErrLong,
		filled("http://a:x/", 1025):       api.ErrLong,
		filled("http://", 1025):           api.ErrLong,
		strings.Repeat(" ", 1024):         api.ErrForm,
		strings.Repeat(" ", 1025):         api.ErrLong,
		strings.Repeat("\xff", 1<<20):     api.ErrLong,
		strings.Repeat("http://a/", 9999): api.ErrLong,
	} {
		if r, e := uri.Parse(s); r != (api.Request{}) || e != want {
			t.Errorf("Parse(%.80q) of %d bytes: %#.80v %v, not %v", s, len(s), r, e, want)
		}
	}
}

func TestP10_1WordsInSmallAndCapitalLetters(t *testing.T) {
	for _, word := range []string{"http", "https", "httpz", "htp", "hppt"} {
		for set := range 1 << len(word) {
			b := []byte(word)
			for i := range b {
				if set>>i&1 == 1 {
					b[i] -= 32
				}
			}
			s := string(b) + "://a.test/B"
			want, wrong := api.Request{}, api.ErrScheme
			if word == "http" || word == "https" {
				want, wrong = api.Request{Host: "a.test", Path: "/B", Secure: word == "https"}, api.OK
			}
			if r, e := uri.Parse(s); r != want || e != wrong {
				t.Errorf("Parse(%q): %#v %v", s, r, e)
			}
		}
	}
}

func TestP10_1EachPort(t *testing.T) {
	for n := range 140000 {
		for _, zeros := range []string{"", "0", "00", "000", "0000", "00000"} {
			digits := zeros + strconv.Itoa(n)
			for _, host := range []string{"a.test", "[::1]"} {
				if zeros != "" && n > 100 && n%997 != 0 {
					continue
				}
				want, wrong := api.Request{}, api.ErrForm
				if len(digits) <= 5 && n <= 65535 {
					want, wrong = api.Request{Host: host, Path: "/"}, api.OK
				}
				if r, e := uri.Parse("http://" + host + ":" + digits); r != want || e != wrong {
					t.Fatalf("port %s of %s: %#v %v", digits, host, r, e)
				}
			}
		}
	}
}

func TestP10_1EachByteInEachPlace(t *testing.T) {
	good := 0
	for _, s := range []string{"http://a", "HTTPS://Ab.c:80/d/e?f#g", "http://[::1]:8/x", "https://1.2.3.4#x?y", "http://a:/?", "http://[aB]", "http://a:65535"} {
		for _, spoiled := range spoilt(s) {
			if holdParse(t, spoiled) {
				good++
			}
		}
	}
	if good < 1000 {
		t.Errorf("%d good ones only", good)
	}
}

func TestP10_1ParseOfShortTexts(t *testing.T) {
	l := short(5, ":", "/", "http", "HttpS", "a", "ftp", "://", "http://a")
	for _, s := range short(6, ":", "/", "?", "#", "[", "]", "a", "8") {
		l = append(l, "http://"+s)
	}
	for _, s := range short(5, ":", "/", "-", "@", ".", "[::1]", "1.2.3.4", "A", "65535", "6", "::") {
		l = append(l, "HTTPS://"+s)
	}
	good := 0
	for _, s := range l {
		if holdParse(t, s) {
			good++
		}
	}
	if good < 10000 {
		t.Errorf("%d good ones only", good)
	}
}

func TestP10_1LongAddresses(t *testing.T) {
	for _, head := range []string{"http://a/", "https://a/", "http://a?", "http://a#", "http://a/?", "https://[::1]:80/b", "http://" + longName(256) + "/", "http://" + longName(256) + ":65535?"} {
		for n := 1000; n <= 1050; n++ {
			s := filled(head, n)
			if holdParse(t, s) != (n <= 1024) {
				t.Errorf("%.20q of %d bytes", s, n)
			}
		}
	}
	for n := 1; n <= 300; n++ {
		name := longName(n)
		for _, s := range []string{name, strings.ToUpper(name), name + "/", name + "/b", name + ":80", name + ":80/b", name + "?b", name + "#b"} {
			if holdParse(t, "http://"+s) != (n <= 256) {
				t.Errorf("a host of %d bytes in %.300q", n, s)
			}
		}
		holdParse(t, "http://["+strings.Repeat("0", n)+"]")
		holdParse(t, "http://"+strings.Repeat("a", n))
		holdParse(t, "http://"+strings.Repeat("a", n)+".b:1/")
	}
}

func TestP10_2Right(t *testing.T) {
	for _, c := range []struct {
		host, path string
		want       bool
	}{
		{"a.test", "/", true},
		{"a.test", "/x", true},
		{"a", "/", true},
		{"a_b.c-d", "/B/c/", true},
		{"1.2.3.4", "/", true},
		{"256.1.1.1", "/", true},
		{"[::1]", "/x", true},
		{"[fe80::ab.cd]", "//", true},
		{"a.1.2.3.4", "/", true},
		{"a.test", "/!\"$%&'()*+,-.:;<=>@[\\]^_`{|}~", true},
		{"a.test", "/%3f%23", true},
		{"a.test", "/://", true},
		// The host as it stands.
		{"A", "/", false},
		{"a.Test", "/", false},
		{"[::A]", "/", false},
		{"", "/", false},
		{".", "/", false},
		{"a.", "/", false},
		{".a", "/", false},
		{"a..b", "/", false},
		{"-a", "/", false},
		{"a-", "/", false},
		{"a:80", "/", false},
		{"a:", "/", false},
		{"[::1]:80", "/", false},
		{"[::1", "/", false},
		{"::1", "/", false},
		{"[]", "/", false},
		{"a/", "/", false},
		{"a/b", "/", false},
		{"a?", "/", false},
		{"u@a", "/", false},
		{"http://a", "/", false},
		{" a", "/", false},
		{"a\n", "/", false},
		{"ä.test", "/", false},
		// The path.
		{"a.test", "", false},
		{"a.test", "x", false},
		{"a.test", "x/", false},
		{"a.test", "?", false},
		{"a.test", " /", false},
		{"a.test", "/?", false},
		{"a.test", "/#", false},
		{"a.test", "/x?y", false},
		{"a.test", "/x#y", false},
		{"a.test", "/ ", false},
		{"a.test", "/x y", false},
		{"a.test", "/x\t", false},
		{"a.test", "/x\n", false},
		{"a.test", "/\x00", false},
		{"a.test", "/\x20", false},
		{"a.test", "/\x21", true},
		{"a.test", "/\x7e", true},
		{"a.test", "/\x7f", false},
		{"a.test", "/\x80", false},
		{"a.test", "/\xff", false},
		{"a.test", "/é", false},
		{"", "", false},
		{"A", "x", false},
	} {
		for _, secure := range []bool{false, true} {
			for _, script := range []bool{false, true} {
				r := api.Request{Host: c.host, Path: c.path, Secure: secure, Script: script}
				if got := uri.Right(r); got != c.want {
					t.Errorf("Right(%#v): %v", r, got)
				}
				holdText(t, r)
			}
		}
	}
}

func TestP10_2Text(t *testing.T) {
	for want, r := range map[string]api.Request{
		"http://a.test/":        {Host: "a.test", Path: "/"},
		"https://a.test/":       {Host: "a.test", Path: "/", Secure: true},
		"http://a.test/b":       {Host: "a.test", Path: "/b", Script: true},
		"https://a.test/b/C/":   {Host: "a.test", Path: "/b/C/", Secure: true, Script: true},
		"https://a.test//b":     {Host: "a.test", Path: "//b", Secure: true},
		"http://1.2.3.4/x":      {Host: "1.2.3.4", Path: "/x"},
		"https://[::1]/:80":     {Host: "[::1]", Path: "/:80", Secure: true},
		"http://a/http://b/":    {Host: "a", Path: "/http://b/"},
		"http://a.test/!~%20[]": {Host: "a.test", Path: "/!~%20[]"},
	} {
		if s, e := uri.Text(r); s != want || e != api.OK {
			t.Errorf("Text(%#v): %q %v", r, s, e)
		}
	}
	for _, r := range []api.Request{
		{}, {Host: "a.test"}, {Path: "/"}, {Secure: true}, {Script: true}, {Host: "A", Path: "/"}, {Host: "a", Path: "x"}, {Host: "a", Path: "/?"}, {Host: "a", Path: "/#"}, {Host: "a", Path: "/ "}, {Host: "a:80", Path: "/"}, {Host: "[::1]:80", Path: "/", Secure: true}, {Host: "", Path: "/"}, {Host: longName(257), Path: "/"}, {Host: "a", Path: strings.Repeat("/", 1<<20)},
	} {
		if s, e := uri.Text(r); s != "" || e != api.ErrForm {
			t.Errorf("Text(%#.80v): %.80q %v", r, s, e)
		}
	}
}

func TestP10_2AtTheLimits(t *testing.T) {
	for _, host := range []string{"a", "a.test", "[::1]", longName(255), longName(256)} {
		for _, secure := range []bool{false, true} {
			room := 1024 - len("http://") - len(host)
			if secure {
				room--
			}
			for n := room - 20; n <= room+20; n++ {
				r := api.Request{Host: host, Path: filled("/", n), Secure: secure}
				if holdText(t, r) != (n <= room) {
					t.Errorf("%.20q and a path of %d bytes, secure: %v", host, n, secure)
				}
			}
		}
	}
	for n := 1; n <= 300; n++ {
		if holdText(t, api.Request{Host: longName(n), Path: "/"}) != (n <= 256) {
			t.Errorf("a host of %d bytes", n)
		}
		holdText(t, api.Request{Host: strings.Repeat("a", n), Path: "/", Secure: true})
		holdText(t, api.Request{Host: "[" + strings.Repeat("0", n) + "]", Path: "/"})
	}
	for _, long := range []string{strings.Repeat("a", 1<<20), strings.Repeat("/", 1<<20), strings.Repeat("\xff", 1<<20)} {
		holdText(t, api.Request{Host: long, Path: "/"})
		holdText(t, api.Request{Host: "a", Path: long})
		holdText(t, api.Request{Host: long, Path: long, Secure: true})
	}
}

func TestP10_2EachByteInEachPlace(t *testing.T) {
	right := 0
	for _, r := range []api.Request{{Host: "ab.c", Path: "/d/e"}, {Host: "[::1]", Path: "/", Secure: true}, {Host: "1.2.3.4", Path: "//", Script: true}} {
		for _, host := range spoilt(r.Host) {
			if holdText(t, api.Request{Host: host, Path: r.Path, Secure: r.Secure, Script: r.Script}) {
				right++
			}
		}
		for _, path := range spoilt(r.Path) {
			if holdText(t, api.Request{Host: r.Host, Path: path, Secure: r.Secure, Script: r.Script}) {
				right++
			}
		}
	}
	if right < 1000 {
		t.Errorf("%d right ones only", right)
	}
}

func TestP10_2ShortTexts(t *testing.T) {
	paths := short(4, "/", "a", "?", "#", ":", " ")
	right := 0
	for _, host := range short(3, "a", ".", "A", "[::1]", "1.2.3.4", ":", "-", "/") {
		for _, path := range paths {
			if holdText(t, api.Request{Host: host, Path: path, Secure: len(path)%2 == 0}) {
				right++
			}
		}
	}
	if right < 500 {
		t.Errorf("%d right ones only", right)
	}
}

// drawn is a request that is right, of a host and a path of the signs that may be.
func drawn(r *rand.Rand) api.Request {
	hosts := []string{"a", "a.test", "_x.y-z", "0.0.0.0", "255.254.253.252", "1.2.3.256", "a.1.2.3.4", "[::]", "[fe80::1.2.3.4]", "[..]", longName(256), strings.Repeat("z", 63)}
	path := []byte{'/'}
	for range r.Intn(40) {
		if x := byte(33 + r.Intn(94)); x != '?' && x != '#' {
			path = append(path, x)
		}
	}
	return api.Request{Host: hosts[r.Intn(len(hosts))], Path: string(path), Secure: r.Intn(2) == 0, Script: r.Intn(2) == 0}
}

func TestP10_3TextIsParsedAsTheRequest(t *testing.T) {
	r := rand.New(rand.NewSource(10))
	var l []api.Request
	for range 50000 {
		l = append(l, drawn(r))
	}
	for _, host := range []string{"a", "[::1]", longName(256)} {
		// The longest paths that a request may have.
		room := 1024 - len("https://") - len(host)
		l = append(l, api.Request{Host: host, Path: filled("/", room), Secure: true}, api.Request{Host: host, Path: filled("/", room+1)}, api.Request{Host: host, Path: strings.Repeat("/", room), Secure: true, Script: true})
	}
	for _, want := range l {
		s, e := uri.Text(want)
		if !uri.Right(want) || e != api.OK {
			t.Fatalf("%#.80v is not right: %v", want, e)
		}
		want.Script = false
		if got, e := uri.Parse(s); got != want || e != api.OK {
			t.Fatalf("Parse(%.80q): %#.80v %v", s, got, e)
		}
	}
}

func TestP10_3WhatIsParsedIsRight(t *testing.T) {
	var l []string
	for _, s := range short(5, ":", "/", "?", "#", "[::1]", "1.2.3.4", "A", "65535", "~") {
		l = append(l, "http://"+s, "HttpS://"+s)
	}
	for n := 1; n <= 300; n++ {
		l = append(l, "https://"+longName(n), "http://"+longName(n)+"?")
	}
	for n := 1000; n <= 1024; n++ {
		l = append(l, filled("https://a/", n), filled("http://a?", n), filled("https://"+longName(256)+"/", n))
	}
	met := 0
	for _, s := range l {
		r, e := uri.Parse(s)
		if e != api.OK {
			continue
		}
		met++
		again, e := uri.Text(r)
		if !uri.Right(r) || r.Script || e != api.OK {
			t.Fatalf("%.80q comes out as %#.80v, which is not right: %v", s, r, e)
		}
		if same, e := uri.Parse(again); same != r || e != api.OK {
			t.Fatalf("Parse(%.80q): %#.80v %v", again, same, e)
		}
	}
	if met < 1000 {
		t.Errorf("of %d addresses only", met)
	}
}
