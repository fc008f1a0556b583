package attrs_test

import (
	"math"
	"math/big"
	"math/rand"
	"regexp"
	"slices"
	"strings"
	"testing"

	"biscotti/api"
	"biscotti/attrs"
	"biscotti/date"
	"biscotti/header"
)

// most is MaxTime, by the document's words.
const most = 1 << 40

// names are all that attributes may be called to say something, made small.
var names = []string{"expires", "max-age", "domain", "path", "secure", "httponly"}

// isNumber tells of the texts that are decimal digits, - allowed ahead.
var isNumber = regexp.MustCompile(`\A-?[0-9]+\z`)

// capitals and smalls stand at one place in both.
const (
	capitals = "ABCDEFGHIJKLMNOPQRSTUVWXYZ"
	smalls   = "abcdefghijklmnopqrstuvwxyz"
)

// madeSmall tells by the words of layer 6 what s is, made small.
func madeSmall(s string) string {
	b := []byte(s)
	for i, x := range b {
		if at := strings.IndexByte(capitals, x); at >= 0 {
			b[i] = smalls[at]
		}
	}
	return string(b)
}

// numbered tells by the words of layer 6 which number s is, which is to be one's.
func numbered(s string) int {
	n, _ := new(big.Int).SetString(s, 10)
	switch {
	case n.Cmp(big.NewInt(most)) > 0:
		return most
	case n.Cmp(big.NewInt(-most)) < 0:
		return -most
	}
	return int(n.Int64())
}

// last answers the value of the last attribute of that name that says something.
func last(l []header.Pair, name string, says func(value string) bool) (string, bool) {
	for i := len(l) - 1; i >= 0; i-- {
		if madeSmall(l[i].Name) == name && says(l[i].Value) {
			return l[i].Value, true
		}
	}
	return "", false
}

// told answers by the chapter's words what Read answers.
func told(l []header.Pair) attrs.Fields {
	var f attrs.Fields
	isDate := func(s string) bool {
		_, e := date.Parse(s)
		return e == api.OK
	}
	if value, is := last(l, "expires", isDate); is {
		f.HasExpires = true
		f.Expires, _ = date.Parse(value)
	}
	if value, is := last(l, "max-age", isNumber.MatchString); is {
		f.HasAge, f.Age = true, numbered(value)
	}
	if value, is := last(l, "domain", func(s string) bool { return len(s) > 0 }); is {
		f.HasDomain = true
		if value[0] == '.' {
			value = value[1:]
		}
		f.Domain = madeSmall(value)
	}
	always := func(string) bool { return true }
	if value, _ := last(l, "path", always); len(value) > 0 && value[0] == '/' {
		f.HasPath, f.Path = true, value
	}
	_, f.Secure = last(l, "secure", always)
	_, f.HttpOnly = last(l, "httponly", always)
	return f
}

// hold holds what Read answers against the chapter's words, and answers it. It ends the test at the first that is otherwise: of so many lists one tells enough.
func hold(t *testing.T, l ...header.Pair) attrs.Fields {
	t.Helper()
	want := told(l)
	f := attrs.Read(l)
	if f != want {
		t.Fatalf("Read(%.200q): %+.200v, not %+.200v", l, f, want)
	}
	return f
}

// attr is an attribute, told shortly.
func attr(name, value string) header.Pair {
	return header.Pair{Name: name, Value: value}
}

// read answers what an attribute by itself says.
func read(name, value string) attrs.Fields {
	return attrs.Read([]header.Pair{attr(name, value)})
}

// of answers the attributes of a header.
func of(t *testing.T, s string) []header.Pair {
	t.Helper()
	_, l, e := header.Parse("a=b; " + s)
	if e != api.OK {
		t.Fatalf("%q: %v", s, e)
	}
	return l
}

// cases are all texts that are s but for letters that are small or capital ones.
func cases(s string) []string {
	all := []string{""}
	for i := range len(s) {
		var longer []string
		for _, front := range all {
			longer = append(longer, front+s[i:i+1])
			if at := strings.IndexByte(smalls, s[i]); at >= 0 {
				longer = append(longer, front+capitals[at:at+1])
			}
		}
		all = longer
	}
	return all
}

// spoilt are all texts that are s but for one byte that is another one, is left out, or stands there too.
func spoilt(s string) []string {
	var all []string
	for i := range len(s) + 1 {
		for x := range 256 {
			b := string([]byte{byte(x)})
			all = append(all, s[:i]+b+s[i:])
			if i < len(s) {
				all = append(all, s[:i]+b+s[i+1:])
			}
		}
		if i < len(s) {
			all = append(all, s[:i]+s[i+1:])
		}
	}
	return all
}

// drawn answers a text of at most that many signs.
func drawn(r *rand.Rand, signs string, longest int) string {
	b := make([]byte, r.Intn(longest+1))
	for i := range b {
		b[i] = signs[r.Intn(len(signs))]
	}
	return string(b)
}

// values are such that say something by a name, the first one always, and such that don't.
func values(name string) []string {
	switch name {
	case "expires":
		return []string{"Sun, 06 Nov 1994 08:49:37 GMT", "1 jan 1970 0:0:0", "31-Dec-99 23:59:59", "31 feb 2000 1:1:1", "never", "", "0"}
	case "max-age":
		return []string{"60", "0", "-1", "-0", "99999999999999999999", "-99999999999999999999", "", "x", "6x", "+6", "1.5", "-", " 6"}
	case "domain":
		return []string{"shop.test", ".Shop.Test", "..a", ".", "..", "", " ", "a.", "\xc3\x89.T"}
	case "path":
		return []string{"/", "/A/b", "", "x", "x/", " /x", ".", "//"}
	}
	return []string{"", "no", "/", "0", "false"}
}

// pairs are attributes of all names with all those values, and some that nobody knows.
func pairs() []header.Pair {
	all := []header.Pair{attr("", ""), attr("", "/"), attr("samesite", "lax"), attr("max_age", "7"), attr("path ", "/y"), attr(" domain", "y"), attr("Version", "1")}
	for _, name := range names {
		for _, value := range values(name) {
			all = append(all, attr(name, value), attr(strings.ToUpper(name), value))
		}
	}
	return all
}

// someOf answers at most that many attributes, drawn.
func someOf(r *rand.Rand, all []header.Pair, longest int) []header.Pair {
	list := make([]header.Pair, r.Intn(longest+1))
	for i := range list {
		list[i] = all[r.Intn(len(all))]
	}
	return list
}

func TestP13_1Read(t *testing.T) {
	const day = "Sun, 06 Nov 1994 08:49:37 GMT"
	for s, want := range map[string]attrs.Fields{
		"":                                 {},
		"Max-Age=60; Domain=.Shop.Test":    {HasAge: true, Age: 60, HasDomain: true, Domain: "shop.test"},
		"Nobody=knows; X; Expire=" + day:   {},
		"Expires=" + day:                   {HasExpires: true, Expires: 784111777},
		"Expires=1 jan 1970 0:0:0":         {HasExpires: true},
		"Expires=31 dec 1969 23:59:59":     {HasExpires: true, Expires: -1},
		"Expires=1 jan 1601 0:0:0":         {HasExpires: true, Expires: -11644473600},
		"Expires=31 dec 9999 23:59:59":     {HasExpires: true, Expires: 253402300799},
		"Expires=31 dec 1600 23:59:59":     {},
		"Expires":                          {},
		"Expires=784111777":                {},
		"Max-Age=0":                        {HasAge: true},
		"Max-Age=-0":                       {HasAge: true},
		"Max-Age=-7":                       {HasAge: true, Age: -7},
		"Max-Age=007":                      {HasAge: true, Age: 7},
		"Max-Age=1099511627776":            {HasAge: true, Age: most},
		"Max-Age=1099511627775":            {HasAge: true, Age: most - 1},
		"Max-Age=1099511627777":            {HasAge: true, Age: most},
		"Max-Age=18446744073709551617":     {HasAge: true, Age: most},
		"Max-Age=-18446744073709551617":    {HasAge: true, Age: -most},
		"Max-Age":                          {},
		"Max-Age=-":                        {},
		"Max-Age=--1":                      {},
		"Max-Age=+1":                       {},
		"Max-Age=1.0":                      {},
		"Max-Age=1e3":                      {},
		"Max-Age=0x7":                      {},
		"Max-Age=6 0":                      {},
		"Max-Age=\"60\"":                   {},
		"Max-Age=60s":                      {},
		"Max-Age=" + day:                   {},
		"Domain=a":                         {HasDomain: true, Domain: "a"},
		"Domain=.a":                        {HasDomain: true, Domain: "a"},
		"Domain=..a":                       {HasDomain: true, Domain: ".a"},
		"Domain=...A.B.":                   {HasDomain: true, Domain: "..a.b."},
		"Domain=a.":                        {HasDomain: true, Domain: "a."},
		"Domain=.":                         {HasDomain: true, Domain: ""},
		"Domain=..":                        {HasDomain: true, Domain: "."},
		"Domain=1.2.3.4":                   {HasDomain: true, Domain: "1.2.3.4"},
		"Domain=[::AB]":                    {HasDomain: true, Domain: "[::ab]"},
		"Domain=a b/C_d":                   {HasDomain: true, Domain: "a b/c_d"},
		"Domain=\xc3\x89\xff":              {HasDomain: true, Domain: "\xc3\x89\xff"},
		"Domain":                           {},
		"Domain=":                          {},
		"Domain= \t":                       {},
		"Path=/":                           {HasPath: true, Path: "/"},
		"Path=/A/b/":                       {HasPath: true, Path: "/A/b/"},
		"Path=//":                          {HasPath: true, Path: "//"},
		"Path=/a b=c?#\xff":                {HasPath: true, Path: "/a b=c?#\xff"},
		"Path":                             {},
		"Path=":                            {},
		"Path=a":                           {},
		"Path=a/":                          {},
		"Path=./a":                         {},
		"Path=\"/\"":                       {},
		"Path=%2F":                         {},
		"Path=\\":                          {},
		"Secure":                           {Secure: true},
		"Secure=":                          {Secure: true},
		"Secure=no":                        {Secure: true},
		"HttpOnly":                         {HttpOnly: true},
		"HttpOnly=0":                       {HttpOnly: true},
		"Secure; HttpOnly":                 {Secure: true, HttpOnly: true},
		"Http-Only; Secured; Secur; S":     {},
		"Path=/x; Secure; Path=/y; Secure": {HasPath: true, Path: "/y", Secure: true},
	} {
		if f := attrs.Read(of(t, s)); f != want {
			t.Errorf("%q: %+v, not %+v", s, f, want)
		}
	}
	for _, none := range [][]header.Pair{nil, {}, {{}}, make([]header.Pair, 9)} {
		if f := attrs.Read(none); f != (attrs.Fields{}) {
			t.Errorf("%q: %+v", none, f)
		}
	}
}

func TestP13_1TheLastThatSaysSomething(t *testing.T) {
	for s, want := range map[string]attrs.Fields{
		"Expires=1 jan 1970 0:0:1; Expires=1 jan 1970 0:0:2":          {HasExpires: true, Expires: 2},
		"Expires=1 jan 1970 0:0:2; Expires=1 jan 1970 0:0:1":          {HasExpires: true, Expires: 1},
		"Expires=1 jan 1970 0:0:2; Expires=never":                     {HasExpires: true, Expires: 2},
		"Expires=1 jan 1970 0:0:2; Expires":                           {HasExpires: true, Expires: 2},
		"Expires=1 jan 1970 0:0:2; Expires=1 jan 1600 0:0:1; expires": {HasExpires: true, Expires: 2},
		"Expires=never; Expires=1 jan 1970 0:0:2":                     {HasExpires: true, Expires: 2},
		"Max-Age=5; Max-Age=7":                                        {HasAge: true, Age: 7},
		"Max-Age=7; Max-Age=5":                                        {HasAge: true, Age: 5},
		"Max-Age=7; Max-Age=0":                                        {HasAge: true},
		"Max-Age=7; Max-Age=-3":                                       {HasAge: true, Age: -3},
		"Max-Age=7; Max-Age=x; Max-Age":                               {HasAge: true, Age: 7},
		"Max-Age=x; Max-Age=7":                                        {HasAge: true, Age: 7},
		"Max-Age=7; Expires=1 jan 1970 0:0:2":                         {HasAge: true, Age: 7, HasExpires: true, Expires: 2},
		"Domain=a; Domain=b":                                          {HasDomain: true, Domain: "b"},
		"Domain=b; Domain=a":                                          {HasDomain: true, Domain: "a"},
		"Domain=a; Domain=; Domain":                                   {HasDomain: true, Domain: "a"},
		"Domain=; Domain=.a":                                          {HasDomain: true, Domain: "a"},
		"Domain=a; Domain=.":                                          {HasDomain: true, Domain: ""},
		"Domain=.; Domain=a":                                          {HasDomain: true, Domain: "a"},
		"Domain=a; Domain=.; Domain=":                                 {HasDomain: true, Domain: ""},
		"Path=/a; Path=/b":                                            {HasPath: true, Path: "/b"},
		"Path=/b; Path=/a":                                            {HasPath: true, Path: "/a"},
		"Path=/a; Path=b":                                             {},
		"Path=/a; Path=":                                              {},
		"Path=/a; Path":                                               {},
		"Path=a; Path=/b":                                             {HasPath: true, Path: "/b"},
		"Path; Path=/b":                                               {HasPath: true, Path: "/b"},
		"Path=/a; Path=b; Path=/c":                                    {HasPath: true, Path: "/c"},
		"Path=/a; Path=/c; Path=b":                                    {},
		"Secure; Secure=no":                                           {Secure: true},
		"HttpOnly; HttpOnly=no":                                       {HttpOnly: true},
		"path=x; Path=/p; domain=; Domain=..A; secure; HttpOnly=no":   {HasPath: true, Path: "/p", HasDomain: true, Domain: ".a", Secure: true, HttpOnly: true},
	} {
		if f := attrs.Read(of(t, s)); f != want {
			t.Errorf("%q: %+v, not %+v", s, f, want)
		}
	}
}

func TestP13_1AllShortLists(t *testing.T) {
	all := pairs()
	said := 0
	for _, x := range all {
		if hold(t, x) != (attrs.Fields{}) {
			said++
		}
		for _, y := range all {
			hold(t, x, y)
		}
	}
	if said < 40 {
		t.Errorf("%d say something", said)
	}
	for _, name := range names {
		var same []header.Pair
		for _, value := range values(name) {
			same = append(same, attr(name, value))
		}
		for _, x := range same {
			for _, y := range same {
				for _, z := range same {
					hold(t, x, y, z)
				}
			}
		}
	}
}

func TestP13_1DrawnLists(t *testing.T) {
	r := rand.New(rand.NewSource(13))
	all := pairs()
	said := map[attrs.Fields]int{}
	for range 50000 {
		said[hold(t, someOf(r, all, 12)...)]++
	}
	if len(said) < 2000 {
		t.Errorf("%d are unlike", len(said))
	}
}

func TestP13_1EachByteInNames(t *testing.T) {
	for _, name := range names {
		value := values(name)[0]
		says := read(name, value)
		if says == (attrs.Fields{}) {
			t.Errorf("%q=%q says nothing", name, value)
		}
		for _, other := range spoilt(name) {
			want := attrs.Fields{}
			if madeSmall(other) == name {
				want = says
			}
			if f := read(other, value); f != want {
				t.Fatalf("%q=%q: %+v, not %+v", other, value, f, want)
			}
		}
	}
	// Letters that are small or capital ones elsewhere are none here.
	for _, name := range []string{"exp\u0130res", "doma\u0130n", "\u017fecure", "\u212apath", "e\u00d7pires", "max\u2010age", "max\u2011age", "httponl\u00dd", "httponly\x00", "http only", "max-age=", "path;"} {
		for _, value := range []string{"", "/", "60", "1 jan 1970 0:0:1"} {
			if f := read(name, value); f != (attrs.Fields{}) {
				t.Errorf("%q=%q: %+v", name, value, f)
			}
		}
	}
}

func TestP13_1EachByteInValues(t *testing.T) {
	for _, name := range names {
		for _, value := range append(values(name), "a", "/a", ".a", "-1", "") {
			for _, other := range spoilt(value) {
				hold(t, attr(name, other))
				hold(t, attr(name, values(name)[0]), attr(name, other))
			}
		}
	}
}

func TestP13_1DrawnValues(t *testing.T) {
	r := rand.New(rand.NewSource(131))
	said := 0
	for range 50000 {
		date := drawn(r, "0123", 2) + " jan " + drawn(r, "0129", 4) + " " + drawn(r, "012", 2) + ":0:" + drawn(r, "0156", 2)
		for _, x := range []header.Pair{attr("Expires", date), attr("Max-Age", drawn(r, "00123456789-+ ", 24)), attr("Domain", drawn(r, ".aZ-\xff ", 8)), attr("Path", drawn(r, "//aZ. ", 8))} {
			if hold(t, x) != (attrs.Fields{}) {
				said++
			}
		}
	}
	if said < 50000 {
		t.Errorf("%d say something", said)
	}
}

func TestP13_1LongOnes(t *testing.T) {
	for _, n := range []int{255, 256, 257, 1024, 1025, 4096, 4097, 1 << 16} {
		for _, part := range []string{"a", "A", ".", "/", "0", "1", "9", "-", " ", "\xff", "1 jan 1970 0:0:0 "} {
			long := strings.Repeat(part, n)
			for _, value := range []string{long, "." + long, "/" + long, "-" + long, long + "7", long + "1 jan 1970 0:0:0", "1 jan 1970 0:0:0 " + long} {
				for _, name := range []string{"expires", "Max-Age", "Domain", "Path", "Secure", "HttpOnly", value} {
					if f, want := read(name, value), told([]header.Pair{attr(name, value)}); f != want {
						t.Fatalf("%.20q of %d bytes, %.20q of %d: not as told", name, len(name), value, len(value))
					}
				}
			}
		}
	}
}

func TestP13_1HugeLists(t *testing.T) {
	all := pairs()
	list := make([]header.Pair, 1<<20)
	for i := range list {
		list[i] = all[i%len(all)]
	}
	if f, want := attrs.Read(list), told(list); f != want || f == (attrs.Fields{}) {
		t.Errorf("%+v, not %+v", f, want)
	}
	nobody := make([]header.Pair, 1<<20)
	if f := attrs.Read(nobody); f != (attrs.Fields{}) {
		t.Errorf("%+v", f)
	}
	nobody[1<<19] = attr("Max-Age", "5")
	if f := attrs.Read(nobody); f != (attrs.Fields{HasAge: true, Age: 5}) {
		t.Errorf("%+v", f)
	}
}

func TestP13_1WhatIsHandedInStays(t *testing.T) {
	room := []header.Pair{attr("Domain", ".A"), attr("PATH", "/x"), attr("Max-Age", "7"), attr("Path", "none"), attr("Secure", "")}
	list, was := room[:3], slices.Clone(room)
	want := attrs.Fields{HasDomain: true, Domain: "a", HasPath: true, Path: "/x", HasAge: true, Age: 7}
	for range 2 {
		// What another list said, and what lies behind this one's end, says nothing here.
		attrs.Read([]header.Pair{attr("HttpOnly", ""), attr("Domain", "other"), attr("Expires", "1 jan 1970 0:0:9")})
		if f := attrs.Read(list); f != want {
			t.Errorf("%+v", f)
		}
	}
	if !slices.Equal(room, was) {
		t.Errorf("%q", room)
	}
}

// ended answers by the chapter's words what Expiry answers.
func ended(f attrs.Fields, now int) (int, bool) {
	if !f.HasAge {
		if f.HasExpires {
			return f.Expires, true
		}
		return most, false
	}
	if f.Age <= 0 {
		return -most, true
	}
	if now < 0 {
		now = 0
	}
	if now > most {
		now = most
	}
	end := new(big.Int).Add(big.NewInt(int64(now)), big.NewInt(int64(f.Age)))
	if end.Cmp(big.NewInt(most)) > 0 {
		return most, true
	}
	return int(end.Int64()), true
}

// ints are numbers near all the limits, and near those of their type.
func ints() []int {
	var l []int
	for _, n := range []int{math.MinInt, -most * 2, -most, math.MinInt32, -60, 0, 60, math.MaxInt32, math.MaxUint32, most / 2, most, most * 2, math.MaxInt} {
		for d := -2; d <= 2; d++ {
			// Near the ends of their type they come round to its other one, which is as good.
			l = append(l, n+d)
		}
	}
	return l
}

func TestP13_2Expiry(t *testing.T) {
	for _, x := range []struct {
		f    attrs.Fields
		now  int
		want int
		is   bool
	}{
		{attrs.Fields{}, 0, most, false},
		{attrs.Fields{}, 9, most, false},
		{attrs.Fields{}, -9, most, false},
		{attrs.Fields{}, math.MaxInt, most, false},
		{attrs.Fields{Age: 5, Expires: 7}, 9, most, false},
		{attrs.Fields{HasDomain: true, HasPath: true, Secure: true, HttpOnly: true}, 9, most, false},
		{attrs.Fields{HasAge: true, Age: 60}, 0, 60, true},
		{attrs.Fields{HasAge: true, Age: 60}, 100, 160, true},
		{attrs.Fields{HasAge: true, Age: 1}, 100, 101, true},
		{attrs.Fields{HasAge: true, Age: 0}, 100, -most, true},
		{attrs.Fields{HasAge: true, Age: -1}, 100, -most, true},
		{attrs.Fields{HasAge: true, Age: -most}, 100, -most, true},
		{attrs.Fields{HasAge: true, Age: math.MinInt}, 100, -most, true},
		{attrs.Fields{HasAge: true, Age: 0}, most, -most, true},
		{attrs.Fields{HasAge: true, Age: 0}, -most, -most, true},
		{attrs.Fields{HasAge: true, Age: 60}, -1, 60, true},
		{attrs.Fields{HasAge: true, Age: 60}, -60, 60, true},
		{attrs.Fields{HasAge: true, Age: 60}, math.MinInt, 60, true},
		{attrs.Fields{HasAge: true, Age: 60}, most - 61, most - 1, true},
		{attrs.Fields{HasAge: true, Age: 60}, most - 60, most, true},
		{attrs.Fields{HasAge: true, Age: 60}, most - 59, most, true},
		{attrs.Fields{HasAge: true, Age: 60}, most, most, true},
		{attrs.Fields{HasAge: true, Age: 60}, most + 1, most, true},
		{attrs.Fields{HasAge: true, Age: 60}, math.MaxInt, most, true},
		{attrs.Fields{HasAge: true, Age: most}, 0, most, true},
		{attrs.Fields{HasAge: true, Age: most - 1}, 0, most - 1, true},
		{attrs.Fields{HasAge: true, Age: most - 1}, 1, most, true},
		{attrs.Fields{HasAge: true, Age: most}, 9, most, true},
		{attrs.Fields{HasAge: true, Age: most + 1}, 0, most, true},
		{attrs.Fields{HasAge: true, Age: math.MaxInt}, 0, most, true},
		{attrs.Fields{HasAge: true, Age: math.MaxInt}, 9, most, true},
		{attrs.Fields{HasAge: true, Age: math.MaxInt}, math.MaxInt, most, true},
		{attrs.Fields{HasExpires: true, Expires: 784111777}, 0, 784111777, true},
		{attrs.Fields{HasExpires: true, Expires: 784111777}, math.MaxInt, 784111777, true},
		{attrs.Fields{HasExpires: true, Expires: 784111777, Age: 60}, 5, 784111777, true},
		{attrs.Fields{HasExpires: true}, 9, 0, true},
		{attrs.Fields{HasExpires: true, Expires: -11644473600}, 9, -11644473600, true},
		{attrs.Fields{HasExpires: true, Expires: math.MinInt}, 9, math.MinInt, true},
		{attrs.Fields{HasExpires: true, Expires: math.MaxInt}, 9, math.MaxInt, true},
		{attrs.Fields{HasExpires: true, Expires: 784111777, HasAge: true, Age: 60}, 9, 69, true},
		{attrs.Fields{HasExpires: true, Expires: 784111777, HasAge: true}, 9, -most, true},
		{attrs.Fields{HasExpires: true, Expires: 1, HasAge: true, Age: -5}, 9, -most, true},
	} {
		if n, is := attrs.Expiry(x.f, x.now); n != x.want || is != x.is {
			t.Errorf("Expiry(%+v, %d): %d %v, not %d %v", x.f, x.now, n, is, x.want, x.is)
		}
	}
}

func TestP13_2AllKindsOfNumbers(t *testing.T) {
	for bits := range 32 {
		for _, n := range ints() {
			for _, other := range []int{math.MinInt, -1, 0, 1, 784111777, math.MaxInt} {
				for _, now := range ints() {
					f := attrs.Fields{HasAge: bits&1 > 0, HasExpires: bits&2 > 0, HasDomain: bits&4 > 0, HasPath: bits&8 > 0, Secure: bits&16 > 0, HttpOnly: bits&16 == 0, Domain: "d", Path: "/p"}
					for _, both := range [][2]int{{n, other}, {other, n}} {
						f.Age, f.Expires = both[0], both[1]
						want, said := ended(f, now)
						if end, is := attrs.Expiry(f, now); end != want || is != said {
							t.Fatalf("Expiry(%+v, %d): %d %v, not %d %v", f, now, end, is, want, said)
						}
					}
				}
			}
		}
	}
}

func TestP13_2OfWhatIsRead(t *testing.T) {
	for s, want := range map[string]int{
		"Max-Age=60":                                      160,
		"Max-Age=60; Expires=1 jan 1970 0:0:7":            160,
		"Expires=1 jan 1970 0:0:7; Max-Age=60":            160,
		"Expires=1 jan 1970 0:0:7; Max-Age=x":             7,
		"Expires=1 jan 1970 0:0:7":                        7,
		"Expires=31 dec 9999 23:59:59; Max-Age=0":         -most,
		"Max-Age=-1":                                      -most,
		"Max-Age=-99999999999999999999":                   -most,
		"Max-Age=99999999999999999999":                    most,
		"Max-Age=7; Max-Age=8; Max-Age=":                  108,
		"Secure; Max-Age=1; Domain=a; Path=/; HttpOnly=1": 101,
	} {
		if n, is := attrs.Expiry(attrs.Read(of(t, s)), 100); n != want || !is {
			t.Errorf("%q: %d %v, not %d", s, n, is, want)
		}
	}
	for _, s := range []string{"", "Max-Age", "Max-Age=x; Expires=never", "Secure; Path=/; Domain=a; HttpOnly"} {
		if n, is := attrs.Expiry(attrs.Read(of(t, s)), 100); n != most || is {
			t.Errorf("%q: %d %v", s, n, is)
		}
	}
}

// saying are attributes of a name that say something.
func saying(name string) []header.Pair {
	var all []header.Pair
	for _, value := range values(name) {
		x := attr(name, value)
		// Of a path that does not begin with /, too: it says that there is none.
		if name == "path" || told([]header.Pair{x}) != (attrs.Fields{}) {
			all = append(all, x)
		}
	}
	return all
}

func TestP13_3WhatStandsAheadChangesNothing(t *testing.T) {
	r := rand.New(rand.NewSource(133))
	all := pairs()
	for _, name := range names {
		for _, x := range saying(name) {
			for range 1000 {
				front, behind := someOf(r, all, 6), someOf(r, all, 6)
				with := slices.Concat(front, []header.Pair{x}, behind)
				without := slices.DeleteFunc(slices.Clone(front), func(y header.Pair) bool { return madeSmall(y.Name) == name })
				without = append(append(without, x), behind...)
				if f, other := attrs.Read(with), attrs.Read(without); f != other {
					t.Fatalf("%q: %+v, but without what stands ahead of %q %+v", with, f, x, other)
				}
			}
		}
	}
}

func TestP13_4NamesInSmallOrCapitalLetters(t *testing.T) {
	for _, name := range names {
		says := read(name, values(name)[0])
		for _, other := range cases(name) {
			if f := read(other, values(name)[0]); f != says || f == (attrs.Fields{}) {
				t.Errorf("%q: %+v, not %+v", other, f, says)
			}
		}
	}
	r := rand.New(rand.NewSource(134))
	all := pairs()
	for range 20000 {
		list := someOf(r, all, 8)
		other := slices.Clone(list)
		for i, x := range other {
			b := []byte(madeSmall(x.Name))
			for j := range b {
				if at := strings.IndexByte(smalls, b[j]); at >= 0 && r.Intn(2) == 0 {
					b[j] = capitals[at]
				}
			}
			other[i].Name = string(b)
		}
		if f, same := attrs.Read(list), attrs.Read(other); f != same {
			t.Fatalf("%q: %+v, but of %q %+v", list, f, other, same)
		}
	}
}
