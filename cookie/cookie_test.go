package cookie_test

import (
	"math"
	"math/rand"
	"regexp"
	"slices"
	"strings"
	"testing"

	"biscotti/api"
	"biscotti/attrs"
	"biscotti/cookie"
	"biscotti/header"
	"biscotti/host"
	"biscotti/suffix"
	"biscotti/uri"
)

// most is MaxTime, by the document's words.
const most = 1 << 40

// What the chapters' words say of texts, as expressions; (?s) and \z let no end of a line by.
var (
	labels    = regexp.MustCompile(`(?s)\A[a-z0-9_](?:[a-z0-9_-]{0,61}[a-z0-9_])?(?:\.[a-z0-9_](?:[a-z0-9_-]{0,61}[a-z0-9_])?)*\z`)
	four      = regexp.MustCompile(`\A(?:(?:25[0-5]|2[0-4][0-9]|1[0-9]{2}|[1-9]?[0-9])\.){4}\z`)
	bracketed = regexp.MustCompile(`(?s)\A\[[0-9a-f:.]{2,45}\]\z`)
	nameSigns = regexp.MustCompile(`(?s)\A[^\x00-\x08\x0a-\x1f\x7f;=]+\z`)
	wordSigns = regexp.MustCompile(`(?s)\A[^\x00-\x08\x0a-\x1f\x7f;]*\z`)
	blankEnds = regexp.MustCompile(`(?s)\A[ \t]|[ \t]\z`)
)

// canonical tells by the words of layer 8 whether s is canonical as it stands. Four numbers are labels, too.
func canonical(s string) bool {
	return len(s) <= 256 && labels.MatchString(s) || bracketed.MatchString(s)
}

// matches tells by the words of layer 8 whether a host matches a domain.
func matches(name, domain string) bool {
	if !canonical(name) || !canonical(domain) {
		return false
	}
	// Four numbers are an address; the point behind makes them alike.
	isName := name[0] != '[' && !four.MatchString(name+".")
	return name == domain || isName && len(name) > len(domain) && name[len(name)-len(domain)-1:] == "."+domain
}

// directory tells by the words of layer 11 the directory of a path.
func directory(path string) string {
	parts := strings.Split(path, "/")
	if parts[0] != "" || len(parts) <= 2 {
		return "/"
	}
	return strings.Join(parts[:len(parts)-1], "/")
}

// below tells by the words of layer 11 whether a path fits a cookie's path.
func below(path, of string) bool {
	if len(path) < len(of) || path[:len(of)] != of {
		return false
	}
	return len(path) == len(of) || of != "" && of[len(of)-1] == '/' || path[len(of)] == '/'
}

// held is n, but at least 0 and at most MaxTime.
func held(n int) int {
	if n < 0 {
		return 0
	}
	if n > most {
		return most
	}
	return n
}

// made answers by the chapter's words what Make answers.
func made(rules []string, r api.Request, head string, now int) (api.Item, api.Errno) {
	pair, list, wrong := header.Parse(head)
	said := attrs.Read(list)
	everybodys := said.HasDomain && suffix.Public(rules, said.Domain)
	only := !said.HasDomain || everybodys && said.Domain == r.Host
	end, ends := attrs.Expiry(said, held(now))
	x := api.Item{
		Key:    api.Key{Name: pair.Name, Domain: r.Host, Path: directory(r.Path)},
		Cookie: api.Cookie{Value: pair.Value, HostOnly: only, Secure: said.Secure, HttpOnly: said.HttpOnly, Persistent: ends, Expiry: end, Creation: held(now), Access: held(now)},
	}
	if !only {
		x.Key.Domain = said.Domain
	}
	if said.HasPath {
		x.Key.Path = said.Path
	}
	for _, fault := range []struct {
		is bool
		e  api.Errno
	}{
		{suffix.Check(rules) != api.OK, suffix.Check(rules)},
		{!uri.Right(r), api.ErrForm},
		{wrong != api.OK, wrong},
		{said.HasDomain && !canonical(said.Domain), api.ErrHost},
		{everybodys && !only, api.ErrSuffix},
		{!only && !matches(r.Host, said.Domain), api.ErrHost},
		{len(x.Key.Path) > 256, api.ErrLong},
		{said.HttpOnly && r.Script, api.ErrScheme},
	} {
		if fault.is {
			return api.Item{}, fault.e
		}
	}
	return x, api.OK
}

// fits tells by the chapter's words what Fits tells.
func fits(x api.Item, r api.Request, now int) bool {
	if x.Key.Domain != r.Host && (x.Cookie.HostOnly || !matches(r.Host, x.Key.Domain)) {
		return false
	}
	if x.Cookie.Persistent && !(x.Cookie.Expiry > now) {
		return false
	}
	if x.Cookie.Secure && !r.Secure {
		return false
	}
	if x.Cookie.HttpOnly && r.Script {
		return false
	}
	return below(r.Path, x.Key.Path)
}

// right tells by the chapter's words what Right tells.
func right(x api.Item) bool {
	k, c := x.Key, x.Cookie
	name := len(k.Name) <= 256 && nameSigns.MatchString(k.Name) && !blankEnds.MatchString(k.Name)
	value := len(c.Value) <= 1024 && wordSigns.MatchString(c.Value) && !blankEnds.MatchString(c.Value)
	path := len(k.Path) <= 256 && len(k.Path) > 0 && k.Path[0] == '/'
	times := held(c.Creation) == c.Creation && held(c.Access) == c.Access && (c.Expiry >= -most && c.Expiry <= 0 || held(c.Expiry) == c.Expiry)
	if !c.Persistent && c.Expiry != most {
		return false
	}
	return name && value && path && times && canonical(k.Domain)
}

// holdMake holds what Make answers against the chapter's words, and answers it. It ends the test at the first that is otherwise: of so many headers one tells enough.
func holdMake(t *testing.T, rules []string, r api.Request, head string, now int) (api.Item, api.Errno) {
	t.Helper()
	want, wrong := made(rules, r, head, now)
	x, e := cookie.Make(rules, r, head, now)
	if x != want || e != wrong {
		t.Fatalf("Make(%.80q, %.80q, %.200q, %d): %.200q %v, not %.200q %v", rules, r.Host+r.Path, head, now, x.Key, e, want.Key, wrong)
	}
	return x, e
}

// holdFits holds what Fits tells against the chapter's words, and answers it.
func holdFits(t *testing.T, x api.Item, r api.Request, now int) bool {
	t.Helper()
	is := cookie.Fits(x, r, now)
	if is != fits(x, r, now) {
		t.Fatalf("Fits(%+.200v, %+.200v, %d): %v", x, r, now, is)
	}
	return is
}

// holdRight holds what Right tells against the chapter's words, and answers it.
func holdRight(t *testing.T, x api.Item) bool {
	t.Helper()
	is := cookie.Right(x)
	if is != right(x) {
		t.Fatalf("Right(%+.200q) with %d, %d, %d: %v", x.Key, x.Cookie.Expiry, x.Cookie.Creation, x.Cookie.Access, is)
	}
	return is
}

// from is a request to a host and a path.
func from(name, path string) api.Request {
	return api.Request{Host: name, Path: path}
}

// plain is what comes of "a=b" from a host's / at a time.
func plain(name string, now int) api.Item {
	return api.Item{Key: api.Key{Name: "a", Domain: name, Path: "/"}, Cookie: api.Cookie{Value: "b", HostOnly: true, Expiry: most, Creation: now, Access: now}}
}

// but answers an item changed by one call.
func but(x api.Item, change func(*api.Item)) api.Item {
	change(&x)
	return x
}

// spoilt are all texts that are s but for one byte that is another one, is left out, or stands there too.
func spoilt(s string) []string {
	var all []string
	for i := range len(s) + 1 {
		for x := range 256 {
			b := string([]byte{byte(x)})
			all = append(all, s[:i]+b+s[i:])
			if i < len(s) {
				all = append(all, s[:i]+b+s[i+1:])
			}
		}
		if i < len(s) {
			all = append(all, s[:i]+s[i+1:])
		}
	}
	return all
}

// longName is a name of n bytes: labels of one byte each, the last one of two where n is even.
func longName(n int) string {
	s := strings.Repeat("a.", (n-1)/2) + "a"
	if n%2 == 0 {
		s += "b"
	}
	return s
}

// filled is s, up to n bytes.
func filled(s string, n int) string {
	return s + strings.Repeat("x", n-len(s))
}

// ints are numbers near all the limits, and near those of their type.
func ints() []int {
	var l []int
	for _, n := range []int{math.MinInt, -most * 2, -most, math.MinInt32, -60, 0, 60, math.MaxInt32, math.MaxUint32, most / 2, most, most * 2, math.MaxInt} {
		for d := -2; d <= 2; d++ {
			// Near the ends of their type they come round to its other one, which is as good.
			l = append(l, n+d)
		}
	}
	return l
}

// someRules are lists of rules, the last ones such as are wrong.
func someRules() [][]string {
	return [][]string{
		nil,
		{"test", "co.test"},
		{"co.test", "test", "*.city", "!own.city"},
		{"*.test", "!shop.test", "3.4"},
		{"www.shop.test", "1.2", "*.3.4", "shop"},
		{"test", "Test"},
		{"test", "!test"},
		slices.Repeat([]string{"test"}, 257),
	}
}

// hosts are names of hosts, the last ones such as are wrong.
func hosts() []string {
	return []string{
		"www.shop.test", "shop.test", "test", "co.test", "a.co.test", "shop.co.test", "ashop.test", "a.www.shop.test",
		"city", "b.city", "a.b.city", "own.city", "x.own.city", "localhost", "a_b", "1.2.3.4", "2.3.4", "a.1.2.3.4", "a.2.3.4", "[::1]", "[::2]",
		longName(256), "Shop.test", "shop.test.", "", longName(257), "[::G]",
	}
}

// domains are values of attributes of that name.
func domains() []string {
	l := []string{"", ".", "..", "a b", "-a", "a-", "a..b", "\xc3\xa9.test", "shop.test/", "shop.test:80", "256.3.4", "4", "3.4", ".4", "[::1", "::1", "*.test", "other.test", "st", "op.test"}
	for _, name := range hosts() {
		l = append(l, name, "."+name, ".."+name, strings.ToUpper(name), name+".", "x."+name, "x"+name)
	}
	return l
}

func TestP14_1Make(t *testing.T) {
	rules := []string{"test", "co.test", "*.city", "!own.city"}
	secure := api.Request{Host: "www.shop.test", Path: "/a/b", Secure: true}
	shop := api.Item{Key: api.Key{Name: "sid", Domain: "shop.test", Path: "/a"}, Cookie: api.Cookie{Value: "31d4", Secure: true, Persistent: true, Expiry: 160, Creation: 100, Access: 100}}
	for head, want := range map[string]api.Item{
		"sid=31d4; Domain=.Shop.Test; Max-Age=60; Secure":                                   shop,
		" sid = 31d4 ;domain = shop.test ;max-age=60;SECURE":                                shop,
		"sid=31d4; Secure; Max-Age=60; Domain=shop.test; Nobody=knows; SameSite=Lax":        shop,
		"sid=31d4; Domain=test; Secure; Max-Age=5; Domain=shop.test; Max-Age=60":            shop,
		"sid=31d4; Domain=shop.test; Domain=; Max-Age=60; Expires=1 jan 1970 0:0:1; Secure": shop,
		"sid=31d4; Domain=Shop.Test; Max-Age=60; Secure; HttpOnly":                          but(shop, func(x *api.Item) { x.Cookie.HttpOnly = true }),
		"sid=31d4; Domain=Shop.Test; Max-Age=60":                                            but(shop, func(x *api.Item) { x.Cookie.Secure = false }),
		"sid=; Domain=Shop.Test; Max-Age=60; Secure":                                        but(shop, func(x *api.Item) { x.Cookie.Value = "" }),
		"sid==a=b \t; Domain=Shop.Test; Max-Age=60; Secure":                                 but(shop, func(x *api.Item) { x.Cookie.Value = "=a=b" }),
		"SID=31D4; Domain=Shop.Test; Max-Age=60; Secure":                                    but(shop, func(x *api.Item) { x.Key.Name, x.Cookie.Value = "SID", "31D4" }),
		"sid=31d4; Domain=WWW.Shop.Test; Max-Age=60; Secure":                                but(shop, func(x *api.Item) { x.Key.Domain = "www.shop.test" }),
		"sid=31d4; Domain=; Max-Age=60; Secure":                                             but(shop, func(x *api.Item) { x.Key.Domain, x.Cookie.HostOnly = "www.shop.test", true }),
		"sid=31d4; Max-Age=60; Secure":                                                      but(shop, func(x *api.Item) { x.Key.Domain, x.Cookie.HostOnly = "www.shop.test", true }),
		"sid=31d4; Domain=shop.test; Max-Age=60; Secure; Path=/":                            but(shop, func(x *api.Item) { x.Key.Path = "/" }),
		"sid=31d4; Domain=shop.test; Max-Age=60; Secure; Path=/X y/Z/":                      but(shop, func(x *api.Item) { x.Key.Path = "/X y/Z/" }),
		"sid=31d4; Domain=shop.test; Max-Age=60; Secure; Path=x":                            shop,
		"sid=31d4; Domain=shop.test; Max-Age=60; Secure; Path=/x; Path":                     shop,
		"sid=31d4; Domain=shop.test; Max-Age=0; Secure":                                     but(shop, func(x *api.Item) { x.Cookie.Expiry = -most }),
		"sid=31d4; Domain=shop.test; Max-Age=-1; Secure":                                    but(shop, func(x *api.Item) { x.Cookie.Expiry = -most }),
		"sid=31d4; Domain=shop.test; Max-Age=99999999999999999999; Secure":                  but(shop, func(x *api.Item) { x.Cookie.Expiry = most }),
		"sid=31d4; Domain=shop.test; Expires=1 jan 1970 0:0:7; Secure":                      but(shop, func(x *api.Item) { x.Cookie.Expiry = 7 }),
		"sid=31d4; Domain=shop.test; Expires=1 jan 1601 0:0:0; Secure":                      but(shop, func(x *api.Item) { x.Cookie.Expiry = -11644473600 }),
		"sid=31d4; Domain=shop.test; Expires=Sun, 06 Nov 1994 08:49:37 GMT; Secure":         but(shop, func(x *api.Item) { x.Cookie.Expiry = 784111777 }),
		"sid=31d4; Domain=shop.test; Expires=never; Max-Age=x; Secure":                      but(shop, func(x *api.Item) { x.Cookie.Persistent, x.Cookie.Expiry = false, most }),
		"sid=31d4; Domain=shop.test; Secure":                                                but(shop, func(x *api.Item) { x.Cookie.Persistent, x.Cookie.Expiry = false, most }),
	} {
		if x, e := cookie.Make(rules, secure, head, 100); x != want || e != api.OK {
			t.Errorf("%q: %+v %v, not %+v", head, x, e, want)
		}
	}
	for path, want := range map[string]string{"/": "/", "/a": "/", "/a/": "/a", "/a/b": "/a", "/a/b/": "/a/b", "//": "/", "///": "//", "//a": "/", "/a=b;c/d": "/a=b;c"} {
		if x, e := cookie.Make(rules, from("a.test", path), "a=b", 5); x != but(plain("a.test", 5), func(x *api.Item) { x.Key.Path = want }) || e != api.OK {
			t.Errorf("%q: %+v %v", path, x, e)
		}
	}
	// Neither Secure over http nor a script is refused by itself.
	for _, r := range []api.Request{{Host: "a.test", Path: "/"}, {Host: "a.test", Path: "/", Script: true}, {Host: "a.test", Path: "/", Secure: true, Script: true}} {
		if x, e := cookie.Make(rules, r, "a=b; Secure", 5); x != but(plain("a.test", 5), func(x *api.Item) { x.Cookie.Secure = true }) || e != api.OK {
			t.Errorf("%+v: %+v %v", r, x, e)
		}
	}
}

func TestP14_1Domains(t *testing.T) {
	rules := []string{"test", "co.test", "*.city", "!own.city"}
	const own = "for the host only"
	for _, c := range []struct{ host, domain, want string }{
		// As it is said, or of what is in front of the host.
		{"a.shop.test", "a.shop.test", "a.shop.test"}, {"a.shop.test", "shop.test", "shop.test"}, {"a.b.shop.test", "shop.test", "shop.test"}, {"a.b.shop.test", ".B.Shop.TEST", "b.shop.test"}, {"a.co.test", "a.co.test", "a.co.test"}, {"own.city", "own.city", "own.city"}, {"x.own.city", "own.city", "own.city"}, {"a.b.city", "a.b.city", "a.b.city"}, {"a.b.example", "b.example", "b.example"}, {"a_b.c", "A_B.C", "a_b.c"},
		// Of the host itself, though it is everybody's: as if it were not said.
		{"test", "test", own}, {"co.test", "co.test", own}, {"co.test", ".CO.Test", own}, {"city", "city", own}, {"b.city", "b.city", own}, {"localhost", "localhost", own}, {"example", "example", own},
		{"co.test", "", own}, {"test", "", own}, {"1.2.3.4", "", own}, {"[::1]", "", own}, {"a.shop.test", "", own},
		// An address is nobody's public suffix.
		{"1.2.3.4", "1.2.3.4", "1.2.3.4"}, {"1.2.3.4", ".1.2.3.4", "1.2.3.4"}, {"[::1]", "[::1]", "[::1]"}, {"[fe80::1]", "[FE80::1]", "[fe80::1]"}, {"a.1.2.3.4", "1.2.3.4", "1.2.3.4"}, {"a.1.2.3.4", "2.3.4", "2.3.4"},
	} {
		want := plain(c.want, 5)
		want.Cookie.HostOnly = false
		if c.want == own {
			want = plain(c.host, 5)
		}
		if x, e := cookie.Make(rules, from(c.host, "/"), "a=b; Domain="+c.domain, 5); x != want || e != api.OK {
			t.Errorf("%q from %q: %+v %v, not %+v", c.domain, c.host, x, e, want)
		}
	}
	for _, c := range []struct {
		host, domain string
		want         api.Errno
	}{
		// Not canonical.
		{"a.test", ".", api.ErrHost}, {"a.test", "..", api.ErrHost}, {"a.test", "..a.test", api.ErrHost}, {"a.test", "a.test.", api.ErrHost}, {"a.test", "a b", api.ErrHost}, {"a.test", "-a.test", api.ErrHost}, {"a.test", "a.test:80", api.ErrHost}, {"a.test", "a.test/", api.ErrHost}, {"a.test", "*.test", api.ErrHost}, {"a.test", "\xc3\xa9", api.ErrHost}, {"a.test", longName(257), api.ErrHost}, {"a.test", "test.", api.ErrHost}, {"[::1]", "::1", api.ErrHost}, {"[::1]", "[::1", api.ErrHost}, {"[::1]", "[]", api.ErrHost},
		// Everybody's, of another host, whether that matches it or not.
		{"a.test", "test", api.ErrSuffix}, {"a.test", ".Test", api.ErrSuffix}, {"a.co.test", "co.test", api.ErrSuffix}, {"a.co.test", "test", api.ErrSuffix}, {"co.test", "test", api.ErrSuffix}, {"a.b.city", "b.city", api.ErrSuffix}, {"b.city", "city", api.ErrSuffix}, {"own.city", "city", api.ErrSuffix}, {"x.own.city", "city", api.ErrSuffix}, {"a.example", "example", api.ErrSuffix}, {"a.other.test", "co.test", api.ErrSuffix}, {"test", "city", api.ErrSuffix}, {"1.2.3.4", "4", api.ErrSuffix}, {"1.2.3.4", ".4", api.ErrSuffix}, {"[::1]", "test", api.ErrSuffix}, {"test", "example", api.ErrSuffix},
		// Another host's.
		{"a.other.test", ".Shop.Test", api.ErrHost}, {"shop.test", "www.shop.test", api.ErrHost}, {"www.shop.test", "a.www.shop.test", api.ErrHost}, {"ashop.test", "shop.test", api.ErrHost}, {"shop.test", "ashop.test", api.ErrHost}, {"test", "a.test", api.ErrHost}, {"co.test", "a.co.test", api.ErrHost}, {"1.2.3.4", "3.4", api.ErrHost}, {"1.2.3.4", "2.3.4", api.ErrHost}, {"1.2.3.4", "1.2.3.5", api.ErrHost}, {"[::1]", "[::2]", api.ErrHost}, {"1.2.3.4", "a.1.2.3.4", api.ErrHost}, {"a.test", "1.2.3.4", api.ErrHost}, {"a.test", "[::1]", api.ErrHost}, {"city", "own.city", api.ErrHost},
	} {
		if x, e := cookie.Make(rules, from(c.host, "/"), "a=b; Domain="+c.domain, 5); x != (api.Item{}) || e != c.want {
			t.Errorf("%.80q from %q: %+v %v, not %v", c.domain, c.host, x, e, c.want)
		}
	}
}

func TestP14_1AllHostsAndDomains(t *testing.T) {
	met := map[api.Errno]int{}
	for _, rules := range someRules() {
		for _, name := range hosts() {
			for _, path := range []string{"/", "/a/b"} {
				holdMake(t, rules, from(name, path), "a=b", 5)
			}
			for _, domain := range domains() {
				_, e := holdMake(t, rules, from(name, "/"), "a=b; Domain="+domain, 5)
				met[e]++
			}
		}
	}
	for _, e := range []api.Errno{api.OK, api.ErrForm, api.ErrLong, api.ErrHost, api.ErrSuffix} {
		if met[e] < 100 {
			t.Errorf("%v: %d", e, met[e])
		}
	}
}

func TestP14_1PathsAtTheirLimit(t *testing.T) {
	for n, wrong := range map[int]api.Errno{1: api.OK, 2: api.OK, 255: api.OK, 256: api.OK, 257: api.ErrLong, 258: api.ErrLong, 1000: api.ErrLong} {
		long := filled("/", n)
		for _, c := range []struct {
			path, head string
			e          api.Errno
			want       string
		}{
			{"/", "a=b; Path=" + long, wrong, long},
			{long + "/", "a=b", wrong, directory(long + "/")},
			{long + "/x", "a=b", wrong, directory(long + "/x")},
			{long + "/x", "a=b; Path=x", wrong, directory(long + "/x")},
			// Only the one that counts is asked for.
			{long, "a=b", api.OK, "/"},
			{long + "/x", "a=b; Path=/y", api.OK, "/y"},
			{"/", "a=b; Path=" + long + "; Path=/y", api.OK, "/y"},
			{"/", "a=b; Path=" + long + "; Path=y", api.OK, "/"},
			{long + "/x", "a=b; Path=" + long, wrong, long},
		} {
			want := but(plain("a.test", 5), func(x *api.Item) { x.Key.Path = c.want })
			if c.e != api.OK {
				want = api.Item{}
			}
			if x, e := cookie.Make(nil, from("a.test", c.path), c.head, 5); x != want || e != c.e {
				t.Errorf("%.40q of %d bytes, %.40q: %.80q %v, not %.80q %v", c.path, len(c.path), c.head, x.Key, e, want.Key, c.e)
			}
		}
	}
}

func TestP14_1Times(t *testing.T) {
	for _, now := range ints() {
		at := held(now)
		if x, e := cookie.Make(nil, from("a.test", "/"), "a=b", now); x != plain("a.test", at) || e != api.OK {
			t.Errorf("%d: %+v %v", now, x, e)
		}
		for head, end := range map[string]int{"a=b; Max-Age=60": min(at+60, most), "a=b; Max-Age=1": min(at+1, most), "a=b; Max-Age=1099511627776": most, "a=b; Max-Age=0": -most, "a=b; Expires=1 jan 1970 0:0:0": 0, "a=b; Expires=1 jan 1601 0:0:0": -11644473600, "a=b; Expires=31 dec 9999 23:59:59": 253402300799} {
			want := but(plain("a.test", at), func(x *api.Item) { x.Cookie.Persistent, x.Cookie.Expiry = true, end })
			if x, e := cookie.Make(nil, from("a.test", "/"), head, now); x != want || e != api.OK {
				t.Errorf("%q at %d: %+v %v, not %+v", head, now, x, e, want)
			}
		}
	}
}

func TestP14_1Scripts(t *testing.T) {
	for head, want := range map[string]api.Errno{"a=b; HttpOnly": api.ErrScheme, "a=b; httponly=no": api.ErrScheme, "a=b; Secure; HTTPONLY; Path=/x": api.ErrScheme, "a=b; Secure": api.OK, "a=b; Http-Only": api.OK, "HttpOnly=HttpOnly": api.OK} {
		for _, isSecure := range []bool{false, true} {
			for _, script := range []bool{false, true} {
				r := api.Request{Host: "a.test", Path: "/", Secure: isSecure, Script: script}
				wrong := want
				if !script {
					wrong = api.OK
				}
				x, e := cookie.Make(nil, r, head, 5)
				if e != wrong || (x == api.Item{}) != (wrong != api.OK) || wrong == api.OK && x.Cookie.HttpOnly != (want != api.OK) {
					t.Errorf("%q, %+v: %+v %v", head, r, x, e)
				}
			}
		}
	}
}

func TestP14_1WrongHeadersRequestsAndRules(t *testing.T) {
	for head, want := range map[string]api.Errno{
		"": api.ErrForm, ";": api.ErrForm, "a": api.ErrForm, "a; b=c": api.ErrForm, "=b": api.ErrForm, " =b": api.ErrForm, "=": api.ErrForm, "; a=b": api.ErrForm, "a=b\x00": api.ErrForm, "a=b\r\n": api.ErrForm, "a\x7f=b": api.ErrForm, "a=b; Path=/\x1f": api.ErrForm, "a=b; Nobody=\n": api.ErrForm,
		filled("a=b; ", 4096): api.OK, filled("a=b; ", 4097): api.ErrLong, filled("a", 4097): api.ErrLong, filled("\x00", 4097): api.ErrLong,
		filled("", 256) + "=b": api.OK, filled("", 257) + "=b": api.ErrLong, filled("a=", 1026): api.OK, filled("a=", 1027): api.ErrLong, "a=b": api.OK, "a=\tb": api.OK, "a=b; Path=/\t": api.OK,
	} {
		x, e := cookie.Make([]string{"test"}, from("a.test", "/"), head, 5)
		if e != want || (x == api.Item{}) != (e != api.OK) {
			t.Errorf("%.40q of %d bytes: %.80q %v, not %v", head, len(head), x.Key, e, want)
		}
	}
	for r, want := range map[api.Request]api.Errno{
		{}: api.ErrForm, {Host: "a.test"}: api.ErrForm, {Path: "/"}: api.ErrForm, {Host: "A.test", Path: "/"}: api.ErrForm, {Host: "a.test.", Path: "/"}: api.ErrForm, {Host: "a..test", Path: "/"}: api.ErrForm, {Host: longName(257), Path: "/"}: api.ErrForm, {Host: "a.test:80", Path: "/"}: api.ErrForm,
		{Host: "a.test", Path: "x"}: api.ErrForm, {Host: "a.test", Path: "/a b"}: api.ErrForm, {Host: "a.test", Path: "/?"}: api.ErrForm, {Host: "a.test", Path: "/#"}: api.ErrForm, {Host: "a.test", Path: "/\xff"}: api.ErrForm, {Host: "a.test", Path: filled("/", 1012)}: api.ErrForm, {Host: "a.test", Path: filled("/", 1011)}: api.OK,
		{Host: "a.test", Path: filled("/", 1011), Secure: true}: api.ErrForm, {Host: "a.test", Path: filled("/", 1010), Secure: true}: api.OK, {Host: "1.2.3.4", Path: "/"}: api.OK, {Host: "[::1]", Path: "/"}: api.OK, {Host: longName(256), Path: "/"}: api.OK,
	} {
		for _, head := range []string{"a=b", "a=b; Path=/; Domain=" + r.Host} {
			x, e := cookie.Make([]string{"test"}, r, head, 5)
			if e != want || (x == api.Item{}) != (e != api.OK) {
				t.Errorf("%.40q%.40q: %.80q %v, not %v", r.Host, r.Path, x.Key, e, want)
			}
		}
	}
	for _, c := range []struct {
		rules []string
		want  api.Errno
	}{
		{nil, api.OK}, {[]string{}, api.OK}, {[]string{"test", "*.test", "!a.test", "test"}, api.OK}, {slices.Repeat([]string{"test"}, 256), api.OK}, {slices.Repeat([]string{"test"}, 257), api.ErrLong}, {make([]string, 257), api.ErrLong}, {make([]string, 1<<16), api.ErrLong},
		{[]string{""}, api.ErrForm}, {[]string{"Test"}, api.ErrForm}, {[]string{"test", "*"}, api.ErrForm}, {[]string{"*.*.test"}, api.ErrForm}, {[]string{"!test"}, api.ErrForm}, {[]string{"1.2.3.4"}, api.ErrForm}, {[]string{"test", "a b"}, api.ErrForm}, {[]string{"[::1]"}, api.ErrForm}, {make([]string, 256), api.ErrForm},
	} {
		// Also where no domain is said, so that no rule is asked for.
		for _, head := range []string{"a=b", "a=b; Domain=a.shop.test"} {
			x, e := cookie.Make(c.rules, from("a.shop.test", "/"), head, 5)
			if e != c.want || (x == api.Item{}) != (e != api.OK) {
				t.Errorf("%d rules, %.40q, %q: %+v %v, not %v", len(c.rules), c.rules, head, x, e, c.want)
			}
		}
	}
}

// asked is what Make is given, and its header in parts.
type asked struct {
	rules              []string
	r                  api.Request
	pair, domain, path string
	httpOnly           string
}

// fault is a way in which what is asked for is wrong, and its error.
type fault struct {
	put func(*asked)
	e   api.Errno
}

// faults are all kinds of faults, in the order in which they are to be told; the first one of each kind is none.
func faults() [][]fault {
	none := fault{func(*asked) {}, api.OK}
	rules := func(e api.Errno, l ...string) fault { return fault{func(a *asked) { a.rules = l }, e} }
	request := func(name, path string) fault {
		return fault{func(a *asked) { a.r.Host, a.r.Path = name, path }, api.ErrForm}
	}
	pair := func(e api.Errno, s string) fault { return fault{func(a *asked) { a.pair = s }, e} }
	domain := func(e api.Errno, s string) fault { return fault{func(a *asked) { a.domain = "; Domain=" + s }, e} }
	path := func(e api.Errno, s string) fault { return fault{func(a *asked) { a.path = "; Path=" + s }, e} }
	return [][]fault{
		{none, rules(api.OK, "co.test", "test"), rules(api.ErrLong, slices.Repeat([]string{"test"}, 257)...), rules(api.ErrLong, make([]string, 257)...), rules(api.ErrForm, "test", "Test")},
		{none, request("Shop.test", "/x/y"), request("", ""), request("shop.test", "/x y"), request("shop.test", filled("/", 1<<11))},
		{none, pair(api.ErrForm, "a"), pair(api.ErrForm, "=b"), pair(api.ErrForm, "a=\x00"), pair(api.ErrLong, filled("", 257)+"=b"), pair(api.ErrLong, filled("a=", 1027)), pair(api.ErrLong, filled("", 4097)), pair(api.ErrForm, filled("\x00", 257)+"=b")},
		{none, domain(api.OK, "shop.test"), domain(api.OK, ""), domain(api.ErrHost, "."), domain(api.ErrHost, longName(257)), domain(api.ErrHost, "test."), domain(api.ErrSuffix, "test"), domain(api.ErrSuffix, "city"), domain(api.ErrHost, "a.shop.test"), domain(api.ErrHost, "other.test")},
		{none, path(api.OK, filled("/", 256)), path(api.ErrLong, filled("/", 257)), {func(a *asked) { a.r.Path = filled("/", 257) + "/x" }, api.ErrLong}},
		{none, {func(a *asked) { a.r.Script = true }, api.OK}, {func(a *asked) { a.httpOnly = "; HttpOnly" }, api.OK}, {func(a *asked) { a.r.Script, a.httpOnly = true, "; HttpOnly" }, api.ErrScheme}},
	}
}

func TestP14_1WhichErrorIsTheFirst(t *testing.T) {
	kinds := faults()
	all := 1
	for _, kind := range kinds {
		all *= len(kind)
	}
	met := map[api.Errno]int{}
	for n := range all {
		a := asked{rules: []string{"test"}, r: from("www.shop.test", "/x/y"), pair: "a=b"}
		want := api.OK
		// The last kinds are put first, so that a fault that stands ahead has the last word.
		for _, kind := range slices.Backward(kinds) {
			f := kind[n%len(kind)]
			n /= len(kind)
			f.put(&a)
			if f.e != api.OK {
				want = f.e
			}
		}
		for _, head := range []string{a.pair + a.domain + a.path + a.httpOnly, a.pair + a.httpOnly + a.path + "; Nobody=knows" + a.domain} {
			x, e := cookie.Make(a.rules, a.r, head, 5)
			if e != want || (x == api.Item{}) != (e != api.OK) {
				t.Fatalf("Make(%.40q, %.80q, %.200q): %.80q %v, not %v", a.rules, a.r.Host+a.r.Path, head, x.Key, e, want)
			}
			met[e]++
		}
	}
	for _, e := range []api.Errno{api.OK, api.ErrForm, api.ErrLong, api.ErrHost, api.ErrSuffix, api.ErrScheme} {
		if met[e] < 10 {
			t.Errorf("%v: %d", e, met[e])
		}
	}
}

func TestP14_1EachByteInAHeader(t *testing.T) {
	rules := []string{"test", "co.test"}
	const good = "sid=3 4; Domain=.Shop.Test; Path=/A; Max-Age=60; Secure; HttpOnly"
	met := map[api.Errno]int{}
	for _, head := range spoilt(good) {
		for _, r := range []api.Request{{Host: "www.shop.test", Path: "/a/b", Secure: true}, {Host: "shop.test", Path: "/", Script: true}} {
			_, e := holdMake(t, rules, r, head, 100)
			met[e]++
		}
	}
	for _, e := range []api.Errno{api.OK, api.ErrForm, api.ErrHost, api.ErrScheme} {
		if met[e] < 10 {
			t.Errorf("%v: %d", e, met[e])
		}
	}
}

func TestP14_1EachByteInARequestAndARule(t *testing.T) {
	for _, name := range spoilt("ab.test") {
		holdMake(t, nil, from(name, "/x/y"), "a=b", 100)
		holdMake(t, nil, from(name, "/x/y"), "a=b; Domain=ab.test", 100)
		holdMake(t, []string{name}, from("ab.test", "/x/y"), "a=b; Domain=ab.test", 100)
		holdMake(t, []string{name}, from("c.ab.test", "/x/y"), "a=b; Domain=ab.test", 100)
	}
	for _, path := range spoilt("/x/y") {
		holdMake(t, nil, from("ab.test", path), "a=b", 100)
		holdMake(t, nil, from("ab.test", path), "a=b; Path=/z", 100)
	}
}

// pick answers one of a list, drawn.
func pick[T any](r *rand.Rand, l []T) T {
	return l[r.Intn(len(l))]
}

// drawnHeader answers a header, mostly of what a cookie is made of.
func drawnHeader(r *rand.Rand, names []string) string {
	pairs := []string{"a=b", "sid = 31d4 ", "x=y=z", "\xff=\xc3\xa9", "a=", "=b", "a", "\ta\tb=\" \"", filled("", 256) + "=b", filled("a=", 1026)}
	attributes := []string{"Path=/", "Path=/a", "path=/a/b", "Path=", "Path=x", "Path=/a/", "Max-Age=60", "Max-Age=0", "MAX-AGE=-7", "Max-Age=99999999999999", "Max-Age=x", "Expires=1 jan 1970 0:0:9", "Expires=1 jan 1999 0:0:9", "expires=31 dec 9999 23:59:59", "Expires=never", "Secure", "secure=no", "HttpOnly", "Nobody=knows", "", "=", "Domain", "Path=" + filled("/", 257)}
	head := pick(r, pairs)
	for range r.Intn(7) {
		head += "; " + pick(r, attributes)
	}
	if r.Intn(2) == 0 {
		head += ";domain=" + pick(r, names)
	}
	return head
}

// drawnRequest answers a request to a host of a list.
func drawnRequest(r *rand.Rand, names []string) api.Request {
	paths := []string{"/", "/a", "/a/", "/a/b", "/a/b/c", "/ab", "//", "/A/b", filled("/", 257) + "/x", "/x?"}
	return api.Request{Host: pick(r, names), Path: pick(r, paths), Secure: r.Intn(2) == 0, Script: r.Intn(4) == 0}
}

func TestP14_1DrawnHeaders(t *testing.T) {
	r := rand.New(rand.NewSource(14))
	near, far, rules, times := hosts()[:8], domains(), someRules()[:7], ints()
	met := map[api.Errno]int{}
	unlike := map[api.Item]bool{}
	for range 60000 {
		head := drawnHeader(r, near)
		if r.Intn(3) == 0 {
			head = drawnHeader(r, far)
		}
		x, e := holdMake(t, pick(r, rules), drawnRequest(r, near), head, pick(r, times))
		met[e]++
		unlike[x] = true
	}
	for _, e := range []api.Errno{api.OK, api.ErrForm, api.ErrLong, api.ErrHost, api.ErrSuffix, api.ErrScheme} {
		if met[e] < 300 {
			t.Errorf("%v: %d", e, met[e])
		}
	}
	if len(unlike) < 5000 {
		t.Errorf("%d are unlike", len(unlike))
	}
}

func TestP14_1HugeOnes(t *testing.T) {
	huge := strings.Repeat("a", 1<<22)
	r := from("a.test", "/")
	for _, c := range []struct {
		rules []string
		r     api.Request
		head  string
		want  api.Errno
	}{
		{make([]string, 1<<20), r, "a=b", api.ErrLong},
		{[]string{huge}, r, "a=b", api.ErrForm},
		{nil, from(huge, "/"), "a=b", api.ErrForm},
		{nil, from("a.test", "/"+huge), "a=b", api.ErrForm},
		{nil, r, huge, api.ErrLong},
		{nil, r, "a=b;" + huge, api.ErrLong},
		{nil, r, strings.Repeat(";", 1<<22), api.ErrLong},
	} {
		if x, e := cookie.Make(c.rules, c.r, c.head, 5); x != (api.Item{}) || e != c.want {
			t.Errorf("%d rules, host of %d bytes, path of %d, header of %d: %v, not %v", len(c.rules), len(c.r.Host), len(c.r.Path), len(c.head), e, c.want)
		}
	}
}

func TestP14_1WhatIsHandedInStays(t *testing.T) {
	room := []string{"test", "co.test", "shop.test", "Wrong", "www.shop.test"}
	was := slices.Clone(room)
	r := api.Request{Host: "www.shop.test", Path: "/a/b", Secure: true}
	var first api.Item
	for i := range 3 {
		x, e := cookie.Make(room[:2], r, "sid=31d4; Domain=shop.test; Max-Age=60", 100)
		if i == 0 {
			first = x
		}
		if x != first || x.Key.Domain != "shop.test" || e != api.OK {
			t.Errorf("%+v %v", x, e)
		}
		// What was asked for in between, and what lies behind a list's end, says nothing here.
		cookie.Make(room[:3], r, "sid=31d4; Domain=shop.test", 9)
		cookie.Make(nil, from("other.test", "/"), "sid=5; Secure; HttpOnly", 0)
	}
	if !slices.Equal(room, was) {
		t.Errorf("%q", room)
	}
}

func TestP14_1Over(t *testing.T) {
	for _, c := range []struct {
		c    api.Cookie
		now  int
		want bool
	}{
		{api.Cookie{}, 0, false},
		{api.Cookie{Expiry: -most}, 5, false},
		{api.Cookie{Expiry: most}, math.MaxInt, false},
		{api.Cookie{Persistent: true}, -1, false},
		{api.Cookie{Persistent: true}, 0, true},
		{api.Cookie{Persistent: true, Expiry: 160}, 159, false},
		{api.Cookie{Persistent: true, Expiry: 160}, 160, true},
		{api.Cookie{Persistent: true, Expiry: 160}, 161, true},
		{api.Cookie{Persistent: true, Expiry: -5}, -6, false},
		{api.Cookie{Persistent: true, Expiry: -5}, -5, true},
		{api.Cookie{Persistent: true, Expiry: -most}, 0, true},
		{api.Cookie{Persistent: true, Expiry: -most}, -most, true},
		{api.Cookie{Persistent: true, Expiry: -most}, -most - 1, false},
		{api.Cookie{Persistent: true, Expiry: most}, most - 1, false},
		{api.Cookie{Persistent: true, Expiry: most}, most, true},
		{api.Cookie{Persistent: true, Expiry: most + 1}, most, false},
		{api.Cookie{Persistent: true, Expiry: most + 1}, most + 1, true},
		{api.Cookie{Persistent: true, Expiry: math.MinInt}, math.MinInt, true},
		{api.Cookie{Persistent: true, Expiry: math.MinInt}, math.MaxInt, true},
		{api.Cookie{Persistent: true, Expiry: math.MaxInt}, math.MinInt, false},
		{api.Cookie{Persistent: true, Expiry: math.MaxInt}, math.MaxInt, true},
		{api.Cookie{Persistent: true, Expiry: 9, Creation: 100, Access: 200, Secure: true, HttpOnly: true, HostOnly: true}, 8, false},
		{api.Cookie{Persistent: false, Expiry: 9, Creation: 1, Access: 2, Secure: true, HttpOnly: true, HostOnly: true}, 10, false},
	} {
		if is := cookie.Over(c.c, c.now); is != c.want {
			t.Errorf("Over(%+v, %d): %v", c.c, c.now, is)
		}
	}
	for _, end := range ints() {
		for _, now := range ints() {
			for bits := range 16 {
				c := api.Cookie{Value: "v", Expiry: end, Creation: now, Access: end, Persistent: bits&1 > 0, HostOnly: bits&2 > 0, Secure: bits&4 > 0, HttpOnly: bits&8 > 0}
				if is := cookie.Over(c, now); is != (c.Persistent && !(end > now)) {
					t.Fatalf("Over(%+v, %d): %v", c, now, is)
				}
			}
		}
	}
}

func TestP14_2Fits(t *testing.T) {
	x := api.Item{Key: api.Key{Name: "sid", Domain: "shop.test", Path: "/a"}, Cookie: api.Cookie{Value: "31d4", Persistent: true, Expiry: 160, Creation: 100, Access: 100}}
	only := but(x, func(x *api.Item) { x.Cookie.HostOnly = true })
	r := from("shop.test", "/a")
	for _, c := range []struct {
		x    api.Item
		r    api.Request
		now  int
		want bool
	}{
		{x, r, 100, true}, {x, r, 159, true}, {x, r, 160, false}, {x, r, -5, true}, {x, r, math.MinInt, true}, {x, r, math.MaxInt, false},
		{but(x, func(x *api.Item) { x.Cookie.Persistent = false }), r, 160, true},
		{but(x, func(x *api.Item) { x.Cookie.Persistent = false }), r, math.MaxInt, true},
		// The host.
		{x, from("www.shop.test", "/a"), 100, true}, {x, from("a.b.shop.test", "/a"), 100, true}, {x, from("test", "/a"), 100, false}, {x, from("ashop.test", "/a"), 100, false}, {x, from("other.test", "/a"), 100, false}, {x, from("shop.test.", "/a"), 100, false}, {x, from("Shop.test", "/a"), 100, false}, {x, from("A.shop.test", "/a"), 100, false}, {x, from("", "/a"), 100, false},
		{only, r, 100, true}, {only, from("www.shop.test", "/a"), 100, false}, {only, from("test", "/a"), 100, false}, {only, from("", "/a"), 100, false},
		// One that is not canonical is the domain, where both are the same.
		{but(x, func(x *api.Item) { x.Key.Domain = "Shop.test" }), from("Shop.test", "/a"), 100, true},
		{but(x, func(x *api.Item) { x.Key.Domain = "Shop.test" }), r, 100, false},
		{but(x, func(x *api.Item) { x.Key.Domain = "Shop.test" }), from("a.Shop.test", "/a"), 100, false},
		{but(only, func(x *api.Item) { x.Key.Domain = "Shop.test" }), from("Shop.test", "/a"), 100, true},
		{but(only, func(x *api.Item) { x.Key.Domain = "a b\x00" }), from("a b\x00", "/a"), 100, true},
		{but(x, func(x *api.Item) { x.Key.Domain = "a b\x00" }), from("a b\x00", "/a"), 100, true},
		{but(x, func(x *api.Item) { x.Key.Domain = "" }), from("", "/a"), 100, true},
		{but(only, func(x *api.Item) { x.Key.Domain = "" }), from("", "/a"), 100, true},
		{but(x, func(x *api.Item) { x.Key.Domain = "" }), from("a.", "/a"), 100, false},
		{but(x, func(x *api.Item) { x.Key.Domain = longName(257) }), from(longName(257), "/a"), 100, true},
		{but(x, func(x *api.Item) { x.Key.Domain = longName(255) }), from("a."+longName(255), "/a"), 100, false},
		{but(x, func(x *api.Item) { x.Key.Domain = longName(254) }), from("a."+longName(254), "/a"), 100, true},
		{but(x, func(x *api.Item) { x.Key.Domain = "1.2.3.4" }), from("1.2.3.4", "/a"), 100, true},
		{but(x, func(x *api.Item) { x.Key.Domain = "2.3.4" }), from("1.2.3.4", "/a"), 100, false},
		{but(x, func(x *api.Item) { x.Key.Domain = "1.2.3.4" }), from("a.1.2.3.4", "/a"), 100, true},
		{but(x, func(x *api.Item) { x.Key.Domain = "[::1]" }), from("[::1]", "/a"), 100, true},
		// No list of suffixes is asked here.
		{but(x, func(x *api.Item) { x.Key.Domain = "test" }), from("shop.test", "/a"), 100, true},
		// The path.
		{x, from("shop.test", "/a/"), 100, true}, {x, from("shop.test", "/a/b/c"), 100, true}, {x, from("shop.test", "/ab"), 100, false}, {x, from("shop.test", "/"), 100, false}, {x, from("shop.test", ""), 100, false}, {x, from("shop.test", "/b/a"), 100, false}, {x, from("shop.test", "/A"), 100, false}, {x, from("shop.test", "a"), 100, false},
		{but(x, func(x *api.Item) { x.Key.Path = "/" }), from("shop.test", "/b"), 100, true},
		{but(x, func(x *api.Item) { x.Key.Path = "/a/" }), from("shop.test", "/a/b"), 100, true},
		{but(x, func(x *api.Item) { x.Key.Path = "/a/" }), from("shop.test", "/a"), 100, false},
		{but(x, func(x *api.Item) { x.Key.Path = "" }), from("shop.test", "/a"), 100, true},
		{but(x, func(x *api.Item) { x.Key.Path = "" }), from("shop.test", ""), 100, true},
		{but(x, func(x *api.Item) { x.Key.Path = "" }), from("shop.test", "a"), 100, false},
		{but(x, func(x *api.Item) { x.Key.Path = "x y" }), from("shop.test", "x y"), 100, true},
		// Over https alone, and for no script.
		{but(x, func(x *api.Item) { x.Cookie.Secure = true }), r, 100, false},
		{but(x, func(x *api.Item) { x.Cookie.Secure = true }), api.Request{Host: "shop.test", Path: "/a", Secure: true}, 100, true},
		{x, api.Request{Host: "shop.test", Path: "/a", Secure: true}, 100, true},
		{but(x, func(x *api.Item) { x.Cookie.HttpOnly = true }), r, 100, true},
		{but(x, func(x *api.Item) { x.Cookie.HttpOnly = true }), api.Request{Host: "shop.test", Path: "/a", Script: true}, 100, false},
		{x, api.Request{Host: "shop.test", Path: "/a", Script: true}, 100, true},
		{but(x, func(x *api.Item) { x.Cookie.HttpOnly, x.Cookie.Secure = true, true }), api.Request{Host: "shop.test", Path: "/a", Secure: true, Script: true}, 100, false},
		{but(x, func(x *api.Item) { x.Cookie.HttpOnly, x.Cookie.Secure = true, true }), api.Request{Host: "shop.test", Path: "/a", Script: true}, 100, false},
		{but(x, func(x *api.Item) { x.Cookie.HttpOnly, x.Cookie.Secure = true, true }), api.Request{Host: "shop.test", Path: "/a", Secure: true}, 100, true},
		// Neither the name nor the value, nor when it was made and asked for, says anything.
		{api.Item{}, api.Request{}, 0, true},
		{but(x, func(x *api.Item) { x.Key.Name, x.Cookie.Value = "", "\x00;" }), r, 100, true},
		{but(x, func(x *api.Item) { x.Cookie.Creation, x.Cookie.Access = 999, -999 }), r, 100, true},
	} {
		if is := cookie.Fits(c.x, c.r, c.now); is != c.want {
			t.Errorf("Fits(%+.200v, %+.200v, %d): %v", c.x, c.r, c.now, is)
		}
	}
}

func TestP14_2AllHostsAndDomains(t *testing.T) {
	names := append(domains(), "a b", "\xff", "A")
	fit := 0
	for _, name := range names {
		for _, domain := range names {
			for _, only := range []bool{false, true} {
				x := api.Item{Key: api.Key{Domain: domain, Path: "/"}, Cookie: api.Cookie{HostOnly: only}}
				if holdFits(t, x, from(name, "/"), 5) {
					fit++
				}
			}
		}
	}
	if fit < 2*len(names) {
		t.Errorf("%d fit", fit)
	}
}

func TestP14_2AllFlagsAndTimes(t *testing.T) {
	fit := 0
	for bits := range 1 << 6 {
		is := func(i int) bool { return bits>>i&1 == 1 }
		for _, end := range ints() {
			for _, now := range []int{math.MinInt, -most, -1, 0, 59, 60, 61, most, math.MaxInt} {
				x := api.Item{Key: api.Key{Domain: "test", Path: "/"}, Cookie: api.Cookie{HostOnly: is(0), Secure: is(1), HttpOnly: is(2), Persistent: is(3), Expiry: end}}
				for _, name := range []string{"test", "a.test"} {
					if holdFits(t, x, api.Request{Host: name, Path: "/x", Secure: is(4), Script: is(5)}, now) {
						fit++
					}
				}
			}
		}
	}
	if fit < 5000 {
		t.Errorf("%d fit", fit)
	}
}

func TestP14_2AllPaths(t *testing.T) {
	all, last := []string{""}, []string{""}
	for range 5 {
		var longer []string
		for _, s := range last {
			longer = append(longer, s+"/", s+"a", s+"b")
		}
		all, last = append(all, longer...), longer
	}
	fit := 0
	for _, path := range all {
		for _, of := range all {
			x := api.Item{Key: api.Key{Domain: "test", Path: of}, Cookie: api.Cookie{HostOnly: true}}
			if holdFits(t, x, from("test", path), 5) {
				fit++
			}
		}
	}
	if fit < 500 {
		t.Errorf("%d fit", fit)
	}
}

func TestP14_2EachByteInHostsAndPaths(t *testing.T) {
	x := api.Item{Key: api.Key{Domain: "b.test", Path: "/a"}}
	for _, name := range spoilt("a.b.test") {
		holdFits(t, x, from(name, "/a"), 5)
		holdFits(t, but(x, func(x *api.Item) { x.Key.Domain = name }), from("a.b.test", "/a"), 5)
		holdFits(t, but(x, func(x *api.Item) { x.Key.Domain = name }), from("c."+name, "/a"), 5)
		if own := but(x, func(x *api.Item) { x.Key.Domain = name }); !holdFits(t, own, from(name, "/a"), 5) {
			t.Errorf("%q does not fit itself", name)
		}
	}
	for _, path := range spoilt("/a/b") {
		holdFits(t, x, from("b.test", path), 5)
		holdFits(t, but(x, func(x *api.Item) { x.Key.Path = path }), from("b.test", "/a/b/c"), 5)
	}
	huge := strings.Repeat("a.", 1<<20) + "a"
	for _, c := range [][2]string{{huge, huge}, {huge, "a"}, {"a", huge}, {huge, huge[2:]}} {
		if is := holdFits(t, but(x, func(x *api.Item) { x.Key.Domain = c[1] }), from(c[0], "/a"), 5); is != (c[0] == c[1]) {
			t.Errorf("%d and %d bytes: %v", len(c[0]), len(c[1]), is)
		}
	}
}

// good is an item that is right.
func good() api.Item {
	return api.Item{Key: api.Key{Name: "sid", Domain: "shop.test", Path: "/a"}, Cookie: api.Cookie{Value: "31d4", Persistent: true, Expiry: 160, Creation: 100, Access: 100}}
}

// named, worth, of and at are good, but for one text.
func named(s string) api.Item { return but(good(), func(x *api.Item) { x.Key.Name = s }) }
func worth(s string) api.Item { return but(good(), func(x *api.Item) { x.Cookie.Value = s }) }
func of(s string) api.Item    { return but(good(), func(x *api.Item) { x.Key.Domain = s }) }
func at(s string) api.Item    { return but(good(), func(x *api.Item) { x.Key.Path = s }) }

func TestP14_3Right(t *testing.T) {
	for _, x := range []api.Item{
		good(),
		named("a"), named("A b\tc"), named("\xff\xc3\xa9\x80"), named("\"a\",()<>@:\\/[]?{}"), named(filled("", 256)), named("\xa0a\xa0"), named("\u00a0a\u0085"), named("\u3000"),
		worth(""), worth("=a=b="), worth("a b\tc"), worth("\xff\xc3\xa9\x80"), worth("\", ="), worth(filled("", 257)), worth(filled("", 1024)), worth("\xa0"), worth("\u0085a\u00a0"), worth("\u2003"),
		of("a"), of("test"), of("a-b_c.9"), of("1.2.3.4"), of("[::1]"), of("256.2.3.4"), of(longName(256)), of(filled("", 63)),
		at("/"), at("//"), at("/A b;=?#\xff\x00\x7f "), at("/\n"), at(filled("/", 256)),
	} {
		if !cookie.Right(x) {
			t.Errorf("not right: %+.200v", x)
		}
	}
	for _, x := range []api.Item{
		{},
		named(""), named(" a"), named("a "), named("\ta"), named("a\t"), named(" "), named("\t"), named("a;b"), named(";"), named("a=b"), named("="), named("=a"), named("a="), named("a\x00"), named("\x1fa"), named("a\nb"), named("a\rb"), named("\x7f"), named(filled("", 257)), named(filled("", 1<<20)), named(filled(";", 256)),
		worth(" a"), worth("a "), worth("\ta"), worth("a\t"), worth(" "), worth("\t"), worth("a;b"), worth(";"), worth("a\x00"), worth("\x1fa"), worth("a\nb"), worth("\x7f"), worth(filled("", 1025)), worth(filled("", 1<<20)),
		of(""), of("."), of(".shop.test"), of("shop.test."), of("Shop.test"), of("shop.tesT"), of("a..b"), of("-a"), of("a-"), of("a b"), of("\xc3\xa9"), of("[]"), of("[:]"), of("[::G]"), of("[::A]"), of("[::1"), of("a:80"), of(longName(257)), of(filled("", 64)), of("*.test"), of("a\n"), of(strings.Repeat("a.", 1<<20)),
		at(""), at("a"), at("a/"), at(" /"), at("\\"), at(filled("/", 257)), at(filled("", 256)), at(filled("/", 1<<20)),
	} {
		if cookie.Right(x) {
			t.Errorf("right: %+.200v", x)
		}
	}
}

func TestP14_3Numbers(t *testing.T) {
	for _, c := range []struct {
		persistent            bool
		end, creation, access int
		want                  bool
	}{
		{true, 160, 100, 100, true}, {true, 160, 100, 99, true}, {true, 99, 100, 101, true}, {true, 0, 0, 0, true}, {true, most, most, most, true}, {true, -most, 0, 0, true}, {true, most, 0, most, true}, {true, -1, most, 0, true},
		{true, most + 1, 100, 100, false}, {true, -most - 1, 100, 100, false}, {true, math.MaxInt, 100, 100, false}, {true, math.MinInt, 100, 100, false}, {true, most << 1, 100, 100, false},
		{true, 160, -1, 100, false}, {true, 160, most + 1, 100, false}, {true, 160, math.MinInt, 100, false}, {true, 160, math.MaxInt, 100, false}, {true, 160, -most, 100, false},
		{true, 160, 100, -1, false}, {true, 160, 100, most + 1, false}, {true, 160, 100, math.MinInt, false}, {true, 160, 100, math.MaxInt, false}, {true, 160, 100, -most, false},
		{false, most, 100, 100, true}, {false, most, 0, most, true}, {false, most - 1, 100, 100, false}, {false, most + 1, 100, 100, false}, {false, 0, 100, 100, false}, {false, -most, 100, 100, false}, {false, 160, 100, 100, false}, {false, math.MaxInt, 100, 100, false}, {false, most, -1, 0, false}, {false, most, 0, most + 1, false},
	} {
		x := good()
		x.Cookie.Persistent, x.Cookie.Expiry, x.Cookie.Creation, x.Cookie.Access = c.persistent, c.end, c.creation, c.access
		if is := cookie.Right(x); is != c.want {
			t.Errorf("%+v: %v", x.Cookie, is)
		}
	}
	is := 0
	for _, end := range ints() {
		for _, creation := range ints() {
			for _, access := range ints() {
				for _, persistent := range []bool{false, true} {
					x := good()
					x.Cookie.Persistent, x.Cookie.Expiry, x.Cookie.Creation, x.Cookie.Access = persistent, end, creation, access
					if holdRight(t, x) {
						is++
					}
				}
			}
		}
	}
	if is < 5000 {
		t.Errorf("%d are right", is)
	}
}

func TestP14_3FlagsSayNothing(t *testing.T) {
	for bits := range 8 {
		for _, s := range []string{"a", ""} {
			x := named(s)
			x.Cookie.HostOnly, x.Cookie.Secure, x.Cookie.HttpOnly = bits&1 > 0, bits&2 > 0, bits&4 > 0
			if is := cookie.Right(x); is != (s != "") {
				t.Errorf("%+v: %v", x, is)
			}
			x.Cookie.Persistent, x.Cookie.Expiry = false, most
			if is := cookie.Right(x); is != (s != "") {
				t.Errorf("%+v: %v", x, is)
			}
		}
	}
}

func TestP14_3EachByteInEachPlace(t *testing.T) {
	for _, put := range []func(string) api.Item{named, worth, of, at} {
		is := 0
		for _, s := range []string{"", "a", "ab c", "a.b", "/a", "1.2.3.4", "[::1]", "/ ", filled("/", 256), filled("", 63), filled("", 256), filled("", 1024)} {
			all := spoilt(s)
			if len(s) > 60 {
				// Of long ones some bytes, at their ends, tell enough.
				all = []string{s, s + "x", s[1:], s + "/", s[1:] + " ", " " + s[1:], s[1:] + ";", ";" + s[1:], s[1:] + "=", s[1:] + "\x7f", s[1:] + "\xff", "\n" + s, s + "\t"}
			}
			for _, text := range all {
				if holdRight(t, put(text)) {
					is++
				}
			}
		}
		if is < 100 {
			t.Errorf("%d are right", is)
		}
	}
}

func TestP14_3TwoFaults(t *testing.T) {
	changes := []func(*api.Item){
		func(*api.Item) {},
		func(x *api.Item) { x.Key.Name = "" },
		func(x *api.Item) { x.Key.Name = "a=b" },
		func(x *api.Item) { x.Cookie.Value = "a;b" },
		func(x *api.Item) { x.Cookie.Value = "=" },
		func(x *api.Item) { x.Key.Domain = "A" },
		func(x *api.Item) { x.Key.Path = "" },
		func(x *api.Item) { x.Key.Path = "/;" },
		func(x *api.Item) { x.Cookie.Persistent = false },
		func(x *api.Item) { x.Cookie.Expiry = most },
		func(x *api.Item) { x.Cookie.Expiry = most + 1 },
		func(x *api.Item) { x.Cookie.Creation = -1 },
		func(x *api.Item) { x.Cookie.Access = most + 1 },
	}
	is := 0
	for _, one := range changes {
		for _, other := range changes {
			if holdRight(t, but(but(good(), one), other)) {
				is++
			}
		}
	}
	if is < 10 {
		t.Errorf("%d are right", is)
	}
}

// each goes over headers that are drawn, with what is made of them, at times near and far.
func each(t *testing.T, seed int64, see func(x api.Item, r api.Request, head string, now int)) {
	t.Helper()
	r := rand.New(rand.NewSource(seed))
	names, rules, times := hosts(), someRules()[:5], ints()
	seen := 0
	for range 40000 {
		request, now := drawnRequest(r, names), pick(r, times)
		if r.Intn(2) == 0 {
			now = r.Intn(1000)
		}
		head := drawnHeader(r, append(names, request.Host, request.Host, strings.TrimPrefix(request.Host, "www.")))
		if x, e := cookie.Make(pick(r, rules), request, head, now); e == api.OK {
			see(x, request, head, now)
			seen++
		}
	}
	if seen < 5000 {
		t.Errorf("%d are made", seen)
	}
}

func TestP14_4WhatIsMadeIsRight(t *testing.T) {
	hostOnly := 0
	each(t, 144, func(x api.Item, r api.Request, head string, now int) {
		if !cookie.Right(x) || !right(x) {
			t.Fatalf("%.200q from %q at %d: %+.200v is not right", head, r.Host, now, x)
		}
		if !host.Match(r.Host, x.Key.Domain) || !matches(r.Host, x.Key.Domain) {
			t.Fatalf("%.200q: %q does not match %q", head, r.Host, x.Key.Domain)
		}
		if x.Cookie.HostOnly {
			hostOnly++
			if x.Key.Domain != r.Host {
				t.Fatalf("%.200q: %q is not %q", head, r.Host, x.Key.Domain)
			}
		}
	})
	if hostOnly < 1000 {
		t.Errorf("%d for a host only", hostOnly)
	}
	// At the limits of all its parts.
	head := filled("", 256) + "=" + filled("", 1024) + "; Path=" + filled("/", 256) + "; Domain=" + longName(256) + "; Max-Age=99999999999999999999"
	x, e := cookie.Make([]string{"a"}, from(longName(256), "/"), head, math.MaxInt)
	if e != api.OK || !cookie.Right(x) || len(x.Key.Domain) != 256 || x.Cookie.HostOnly {
		t.Errorf("%v", e)
	}
}

func TestP14_4EachByteInAHeader(t *testing.T) {
	was := 0
	for _, head := range spoilt("a=b c; Path=/x; Domain=b.test; Expires=1 jan 1970 0:0:9") {
		x, e := cookie.Make(nil, from("a.b.test", "/"), head, 5)
		if e != api.OK {
			continue
		}
		was++
		if !cookie.Right(x) || !host.Match("a.b.test", x.Key.Domain) {
			t.Fatalf("%q: %+v", head, x)
		}
	}
	if was < 1000 {
		t.Errorf("%d are made", was)
	}
}

func TestP14_5WhatIsMadeFits(t *testing.T) {
	met := map[bool]int{}
	each(t, 145, func(x api.Item, r api.Request, head string, now int) {
		want := below(r.Path, x.Key.Path) && !(x.Cookie.Secure && !r.Secure) && !cookie.Over(x.Cookie, now)
		if is := cookie.Fits(x, r, now); is != want {
			t.Fatalf("%.200q from %+v at %d: %v", head, r, now, is)
		}
		met[want]++
	})
	if met[true] < 2000 || met[false] < 2000 {
		t.Errorf("%v", met)
	}
	// Each of the three by itself.
	r := from("www.shop.test", "/a/b")
	for head, want := range map[string]bool{
		"a=b": true, "a=b; Domain=shop.test": true, "a=b; Path=/": true, "a=b; Path=/a": true, "a=b; Path=/a/b": true, "a=b; Max-Age=1": true, "a=b; HttpOnly": true, "a=b; Expires=1 jan 1970 0:1:41": true,
		"a=b; Path=/b": false, "a=b; Path=/a/b/": false, "a=b; Path=/a/b/c": false, "a=b; Secure": false, "a=b; Max-Age=0": false, "a=b; Expires=1 jan 1970 0:1:40": false, "a=b; Max-Age=-1; Expires=1 jan 2970 0:0:0": false,
	} {
		x, e := cookie.Make([]string{"test"}, r, head, 100)
		if is := cookie.Fits(x, r, 100); is != want || e != api.OK {
			t.Errorf("%q: %v %v", head, is, e)
		}
	}
	// The directory is fitted by its path, whichever that is.
	for _, path := range []string{"/", "/a", "/a/", "//", "///", "/a//b", "/a/b/c/", "/;=/"} {
		if x, e := cookie.Make(nil, from("a.test", path), "a=b", 100); e != api.OK || !cookie.Fits(x, from("a.test", path), 100) {
			t.Errorf("%q: %+v %v", path, x, e)
		}
	}
}
