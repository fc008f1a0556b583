package match_test

import (
	"fmt"
	"math"
	"math/rand"
	"slices"
	"strings"
	"testing"

	"biscotti/api"
	"biscotti/cookie"
	"biscotti/match"
)

// most is MaxTime, by the document's words.
const most = 1 << 40

// spelt is s as a text that is ahead of another one's just where s is less, byte by byte, whatever follows: a point is less than all digits.
func spelt(s string) string {
	return fmt.Sprintf("%x.", s)
}

// keyRank is by the chapter's words a text that is less than another key's just where the key is.
func keyRank(k api.Key) string {
	return spelt(k.Name) + spelt(k.Domain) + spelt(k.Path)
}

// rank is by the chapter's words a text that is less than another item's just where the item is ahead: what is longer, and what is earlier, is turned into what is less.
func rank(x api.Item) string {
	return fmt.Sprintf("%016x%016x", math.MaxInt-len(x.Key.Path), uint64(x.Cookie.Creation)+1<<63) + keyRank(x.Key)
}

// ordered answers by the chapter's words what Sort answers: each item at as many places behind the first as there are ahead of it.
func ordered(l []api.Item) []api.Item {
	ranks := make([]string, len(l))
	for i, x := range l {
		ranks[i] = rank(x)
	}
	all := make([]api.Item, len(l))
	for i, x := range l {
		place := 0
		for j := range l {
			if ranks[j] < ranks[i] || ranks[j] == ranks[i] && j < i {
				place++
			}
		}
		all[place] = x
	}
	return all
}

// picked answers by the chapter's words what Pick answers.
func picked(l []api.Item, r api.Request, now int) []api.Item {
	return slices.DeleteFunc(ordered(l), func(x api.Item) bool { return !cookie.Fits(x, r, now) })
}

// told answers by the chapter's words what Text answers.
func told(l []api.Item) string {
	pairs := make([]string, len(l))
	for i, x := range l {
		pairs[i] = x.Key.Name + "=" + x.Cookie.Value
	}
	return strings.Join(pairs, "; ")
}

// holdBefore holds what Before and Less tell of two items, either way, against the chapter's words.
func holdBefore(t *testing.T, a, b api.Item) {
	t.Helper()
	for range 2 {
		if is := match.Before(a, b); is != (rank(a) < rank(b)) {
			t.Fatalf("Before(%.80q at %d, %.80q at %d): %v", a.Key, a.Cookie.Creation, b.Key, b.Cookie.Creation, is)
		}
		if is := match.Less(a.Key, b.Key); is != (keyRank(a.Key) < keyRank(b.Key)) {
			t.Fatalf("Less(%.80q, %.80q): %v", a.Key, b.Key, is)
		}
		a, b = b, a
	}
}

// holdList holds what is answered of a list against the chapter's words, and answers what is picked.
func holdList(t *testing.T, l []api.Item, r api.Request, now int) []api.Item {
	t.Helper()
	was := slices.Clone(l)
	if got, want := match.Sort(l), ordered(l); !slices.Equal(got, want) {
		t.Fatalf("Sort of %d: %.400q, not %.400q", len(l), match.Text(got), told(want))
	}
	got, want := match.Pick(l, r, now), picked(l, r, now)
	if !slices.Equal(got, want) {
		t.Fatalf("Pick of %d for %+v at %d: %.400q, not %.400q", len(l), r, now, match.Text(got), told(want))
	}
	for _, of := range [][]api.Item{l, got} {
		if s := match.Text(of); s != told(of) {
			t.Fatalf("Text of %d: %.400q, not %.400q", len(of), s, told(of))
		}
	}
	if !slices.Equal(l, was) {
		t.Fatalf("a list of %d was changed: %.400q", len(l), told(l))
	}
	return got
}

// item is one of a.test, with a value that is its name.
func item(name, path string, creation int) api.Item {
	return api.Item{Key: api.Key{Name: name, Domain: "a.test", Path: path}, Cookie: api.Cookie{Value: name, Expiry: most, Creation: creation, Access: creation}}
}

// but answers an item changed by one call.
func but(x api.Item, change func(*api.Item)) api.Item {
	change(&x)
	return x
}

// valued is one of a.test with another value, as old as all of its kind.
func valued(name, path, value string) api.Item {
	return but(item(name, path, 0), func(x *api.Item) { x.Cookie.Value = value })
}

// plain is a request to a.test's path.
func plain(path string) api.Request {
	return api.Request{Host: "a.test", Path: path}
}

// each calls do with all orders of the list; what it is handed is changed by the next call.
func each(l []api.Item, do func([]api.Item)) {
	var turn func(int)
	all := slices.Clone(l)
	turn = func(fixed int) {
		if fixed == len(all) {
			do(all)
			return
		}
		for i := fixed; i < len(all); i++ {
			all[fixed], all[i] = all[i], all[fixed]
			turn(fixed + 1)
			all[fixed], all[i] = all[i], all[fixed]
		}
	}
	turn(0)
}

// pick draws one of the list.
func pick[T any](r *rand.Rand, l []T) T {
	return l[r.Intn(len(l))]
}

// drawn answers items that are drawn of few names, domains, paths and times, so that many are alike; each value is another one.
func drawn(r *rand.Rand, n int) []api.Item {
	l := make([]api.Item, n)
	for i := range l {
		l[i] = api.Item{
			Key: api.Key{
				Name:   pick(r, []string{"a", "b", "ab", "B", "a\xff", ""}),
				Domain: pick(r, []string{"a.test", "a.test", "b.a.test", "c.test", "test"}),
				Path:   pick(r, []string{"/", "/", "/a", "/b", "/a/", "/a/b", "/\xc3\xa9"}),
			},
			Cookie: api.Cookie{
				Value:      fmt.Sprint(i),
				HostOnly:   r.Intn(4) == 0,
				Secure:     r.Intn(6) == 0,
				HttpOnly:   r.Intn(6) == 0,
				Persistent: r.Intn(2) == 0,
				Expiry:     r.Intn(40),
				Creation:   r.Intn(4),
				Access:     r.Intn(4),
			},
		}
	}
	return l
}

// drawnRequest is a request that many of those items fit.
func drawnRequest(r *rand.Rand) api.Request {
	return api.Request{
		Host:   pick(r, []string{"a.test", "b.a.test", "b.a.test", "c.test", "1.2.3.4"}),
		Path:   pick(r, []string{"/", "/a", "/a/b", "/a/b", "/a/b/c", "/\xc3\xa9"}),
		Secure: r.Intn(3) > 0,
		Script: r.Intn(3) == 0,
	}
}

// unlike are those items of which none ahead in the list has the same key.
func unlike(l []api.Item) []api.Item {
	var all []api.Item
	met := map[api.Key]bool{}
	for _, x := range l {
		if !met[x.Key] {
			met[x.Key] = true
			all = append(all, x)
		}
	}
	return all
}

// someItems are items that differ in each part, by little.
func someItems() []api.Item {
	var l []api.Item
	for _, path := range []string{"", "/", "/a", "/b", "//", "/aa", "/\xff", "/é", "/a/"} {
		for _, name := range []string{"", "a", "b", "aa"} {
			for _, domain := range []string{"", "a", "b"} {
				for _, creation := range []int{math.MinInt, -1, 0, 1, math.MaxInt} {
					x := item(name, path, creation)
					x.Key.Domain = domain
					l = append(l, x)
				}
			}
		}
	}
	return l
}

func TestP15_1Before(t *testing.T) {
	x := item("b", "/bb", 5)
	for _, c := range []struct {
		what string
		y    api.Item
	}{
		{"a shorter path", item("b", "/b", 5)},
		{"a shorter path, earlier, of a lesser key", item("a", "/a", 4)},
		{"no path, far earlier", item("a", "", math.MinInt)},
		{"a path of more parts", item("a", "//", 4)},
		{"later", item("b", "/bb", 6)},
		{"far later", item("b", "/bb", math.MaxInt)},
		{"later, of a lesser path", item("b", "/aa", 6)},
		{"later, of a lesser name", item("a", "/bb", 6)},
		{"later, of a lesser domain", but(item("b", "/bb", 6), func(y *api.Item) { y.Key.Domain = "a" })},
		{"a greater name", item("c", "/bb", 5)},
		{"a longer name", item("bb", "/bb", 5)},
		{"a name with a 0 behind", item("b\x00", "/bb", 5)},
		{"a greater name, of a lesser path", item("c", "/aa", 5)},
		{"a greater name, of a lesser domain", but(item("c", "/bb", 5), func(y *api.Item) { y.Key.Domain = "a" })},
		{"a greater domain", but(x, func(y *api.Item) { y.Key.Domain = "b.test" })},
		{"a longer domain", but(x, func(y *api.Item) { y.Key.Domain = "a.testx" })},
		{"a greater domain, of a lesser path", but(item("b", "/aa", 5), func(y *api.Item) { y.Key.Domain = "b.test" })},
		{"a greater path", item("b", "/bc", 5)},
		{"a path greater in its first byte", item("b", "0aa", 5)},
		{"a path of bytes beyond 127", item("b", "/\xff\x00", 5)},
	} {
		if !match.Before(x, c.y) {
			t.Errorf("%s: it is not ahead", c.what)
		}
		if match.Before(c.y, x) {
			t.Errorf("%s: that is ahead", c.what)
		}
		holdBefore(t, x, c.y)
	}
	// A path is as long as its bytes are many, whatever signs they are.
	wide := item("z", "/é", 5)
	if !match.Before(wide, item("a", "/b", 4)) || !match.Before(wide, item("a", "/bb", 6)) || match.Before(wide, item("a", "/bb", 4)) {
		t.Error("signs were counted")
	}
}

func TestP15_1BeforeAsksForNothingElse(t *testing.T) {
	x := item("b", "/b", 5)
	for _, change := range []func(*api.Item){
		func(*api.Item) {},
		func(y *api.Item) { y.Cookie.Value = "" },
		func(y *api.Item) { y.Cookie.Value = "z" },
		func(y *api.Item) { y.Cookie.HostOnly = true },
		func(y *api.Item) { y.Cookie.Secure = true },
		func(y *api.Item) { y.Cookie.HttpOnly = true },
		func(y *api.Item) { y.Cookie.Persistent = true },
		func(y *api.Item) { y.Cookie.Expiry = 0 },
		func(y *api.Item) { y.Cookie.Expiry = math.MaxInt },
		func(y *api.Item) { y.Cookie.Access = 0 },
		func(y *api.Item) { y.Cookie.Access = math.MaxInt },
	} {
		y := but(x, change)
		if match.Before(x, y) || match.Before(y, x) {
			t.Errorf("%+v is not like %+v", y, x)
		}
		// Nor where something else tells.
		later := but(y, func(y *api.Item) { y.Cookie.Creation = 6 })
		if !match.Before(x, later) || match.Before(later, x) {
			t.Errorf("%+v is not behind %+v", later, x)
		}
	}
}

func TestP15_1BeforeAtTheEndsOfItsNumbers(t *testing.T) {
	times := []int{math.MinInt, math.MinInt + 1, math.MinInt32, -most - 1, -most, -1, 0, 1, most, most + 1, math.MaxInt32, math.MaxUint32, math.MaxInt - 1, math.MaxInt}
	for _, one := range times {
		for _, other := range times {
			if is := match.Before(item("a", "/", one), item("a", "/", other)); is != (one < other) {
				t.Errorf("%d, %d: %v", one, other, is)
			}
			// The name tells only where the times are the same.
			if is := match.Before(item("b", "/", one), item("a", "/", other)); is != (one < other) {
				t.Errorf("%d, %d, with a greater name: %v", one, other, is)
			}
			if is := match.Before(item("a", "/", one), item("b", "/", other)); is != (one <= other) {
				t.Errorf("%d, %d, with a lesser name: %v", one, other, is)
			}
		}
	}
	lengths := []int{0, 1, 2, 127, 128, 255, 256, 257, 511, 512, 65535, 65536, 1 << 20}
	for _, one := range lengths {
		for _, other := range lengths {
			x, y := item("a", strings.Repeat("b", one), 5), item("a", strings.Repeat("b", other), 5)
			if is := match.Before(x, y); is != (one > other) {
				t.Errorf("paths of %d and %d bytes: %v", one, other, is)
			}
			if is := match.Less(x.Key, y.Key); is != (one < other) {
				t.Errorf("keys with paths of %d and %d bytes: %v", one, other, is)
			}
		}
	}
}

func TestP15_1BeforeIsAnOrder(t *testing.T) {
	l := someItems()
	for _, x := range l {
		for _, y := range l {
			holdBefore(t, x, y)
			if match.Before(x, y) && match.Before(y, x) || x.Key != y.Key && !match.Before(x, y) && !match.Before(y, x) {
				t.Fatalf("%+v and %+v", x, y)
			}
		}
	}
	r := rand.New(rand.NewSource(151))
	chains := 0
	for range 100000 {
		x, y, z := pick(r, l), pick(r, l), pick(r, l)
		if match.Before(x, y) && match.Before(y, z) {
			chains++
			if !match.Before(x, z) {
				t.Fatalf("%+v, %+v, %+v", x, y, z)
			}
		}
	}
	if chains < 10000 {
		t.Errorf("%d chains", chains)
	}
}

func TestP15_1Less(t *testing.T) {
	for _, c := range []struct{ a, b api.Key }{
		{api.Key{Name: "a", Path: "/b"}, api.Key{Name: "a", Domain: "x"}},
		{api.Key{Name: "a", Domain: "b", Path: "b"}, api.Key{Name: "b", Domain: "a", Path: "a"}},
		{api.Key{Name: "a", Domain: "a", Path: "b"}, api.Key{Name: "a", Domain: "b", Path: "a"}},
		{api.Key{Name: "a", Domain: "a", Path: "a"}, api.Key{Name: "a", Domain: "a", Path: "b"}},
		{api.Key{}, api.Key{Name: "a"}}, {api.Key{}, api.Key{Domain: "a"}}, {api.Key{}, api.Key{Path: "a"}},
		{api.Key{Path: "z"}, api.Key{Domain: "a"}}, {api.Key{Domain: "z", Path: "z"}, api.Key{Name: "a"}},
		// Part by part, not as one text.
		{api.Key{Name: "a", Domain: "z"}, api.Key{Name: "aa", Domain: "a"}}, {api.Key{Name: "a", Domain: "bc"}, api.Key{Name: "ab", Domain: "c"}}, {api.Key{Name: "a", Domain: "b", Path: "z"}, api.Key{Name: "a", Domain: "bb", Path: "a"}}, {api.Key{Domain: "", Path: "aa"}, api.Key{Domain: "a", Path: ""}},
		// A beginning is less, and the first byte that is another one tells, not how many there are.
		{api.Key{Name: "a"}, api.Key{Name: "a\x00"}}, {api.Key{Name: "aaa"}, api.Key{Name: "b"}}, {api.Key{Domain: "aaa"}, api.Key{Domain: "b"}}, {api.Key{Path: "/aaa"}, api.Key{Path: "/b"}}, {api.Key{Name: "ab"}, api.Key{Name: "b"}}, {api.Key{Name: "a10"}, api.Key{Name: "a9"}},
		// Bytes, from 0 to 255: neither letters nor signs.
		{api.Key{Name: "B"}, api.Key{Name: "a"}}, {api.Key{Domain: "B"}, api.Key{Domain: "a"}}, {api.Key{Path: "/B"}, api.Key{Path: "/a"}}, {api.Key{Name: "Z"}, api.Key{Name: "_"}}, {api.Key{Name: "z"}, api.Key{Name: "é"}}, {api.Key{Name: "\x7f"}, api.Key{Name: "\x80"}}, {api.Key{Name: "\xfe"}, api.Key{Name: "\xff"}}, {api.Key{Name: "\x00"}, api.Key{Name: "\xff"}}, {api.Key{Name: "\uffff"}, api.Key{Name: "\U00010000"}}, {api.Key{Name: "\ufffd"}, api.Key{Name: "\xff"}}, {api.Key{Name: "a/"}, api.Key{Name: "a0"}}, {api.Key{Domain: "a-b"}, api.Key{Domain: "a.b"}},
	} {
		if !match.Less(c.a, c.b) || match.Less(c.b, c.a) || match.Less(c.a, c.a) || match.Less(c.b, c.b) {
			t.Errorf("%q is not less than %q", c.a, c.b)
		}
	}
	for one := range 256 {
		for other := range 256 {
			a, b := string([]byte{'a', byte(one)}), string([]byte{'a', byte(other)})
			for _, is := range []bool{match.Less(api.Key{Name: a}, api.Key{Name: b}), match.Less(api.Key{Domain: a}, api.Key{Domain: b}), match.Less(api.Key{Path: a}, api.Key{Path: b})} {
				if is != (one < other) {
					t.Errorf("%q, %q: %v", a, b, is)
				}
			}
		}
	}
}

func TestP15_1Sort(t *testing.T) {
	l := []api.Item{item("a", "/", 5), item("b", "/p", 9), item("c", "/", 3), item("d", "/", 3), item("e", "/q", 0), item("f", "/p/", 10), item("g", "", 0)}
	each(l, func(l []api.Item) {
		if s := match.Text(match.Sort(l)); s != "f=f; e=e; b=b; c=c; d=d; a=a; g=g" {
			t.Errorf("%q: %q", told(l), s)
		}
	})
	for _, none := range [][]api.Item{nil, {}, l[3:3]} {
		if got := match.Sort(none); len(got) != 0 {
			t.Errorf("%v", got)
		}
	}
	if got := match.Sort(l[4:5]); !slices.Equal(got, []api.Item{l[4]}) {
		t.Errorf("%v", got)
	}
}

func TestP15_1SortLeavesLikeOnesInTheirOrder(t *testing.T) {
	// Alike are those of one key and one time, whatever else they have.
	for _, n := range []int{2, 3, 11, 12, 13, 20, 21, 50, 100, 1000} {
		var l []api.Item
		for i := range n {
			x := item("a", "/", 5)
			x.Cookie.Value, x.Cookie.Access, x.Cookie.Expiry, x.Cookie.Secure = fmt.Sprint(n-i), (i*7)%10, -i, i%2 == 0
			l = append(l, x)
		}
		if got := match.Sort(l); !slices.Equal(got, l) {
			t.Errorf("%d alike: %.200q", n, told(got))
		}
		// With others between, ahead and behind.
		var mixed []api.Item
		for i, x := range l {
			mixed = append(mixed, item("z", "/", i%7), x, item("a", "/b", n-i))
		}
		if got, want := match.Sort(mixed), ordered(mixed); !slices.Equal(got, want) {
			t.Errorf("%d alike, others between: %.200q, not %.200q", n, told(got), told(want))
		}
	}
	r := rand.New(rand.NewSource(1511))
	for n := range 300 {
		holdList(t, drawn(r, n), drawnRequest(r), r.Intn(40))
	}
}

func TestP15_1SortIsOfTheCallAlone(t *testing.T) {
	room := []api.Item{item("b", "/", 5), item("a", "/", 5), item("c", "/p", 5), item("z", "/zzz", 0), item("y", "/zz", 0)}
	was := slices.Clone(room)
	l := room[:3]
	for _, call := range []func() []api.Item{
		func() []api.Item { return match.Sort(l) },
		func() []api.Item { return match.Pick(l, plain("/p"), 0) },
		func() []api.Item { return match.Sort(l[:1]) },
		func() []api.Item { return match.Pick(l[:1], plain("/p"), 0) },
	} {
		first, second := call(), call()
		want := slices.Clone(second)
		if !slices.Equal(room, was) {
			t.Fatalf("it was changed: %q", told(room))
		}
		for i := range first {
			first[i] = item("x", "/x", 1)
		}
		_ = append(first, item("x", "/x", 1), item("x", "/x", 1))
		if !slices.Equal(room, was) || !slices.Equal(second, want) || !slices.Equal(call(), want) {
			t.Errorf("what was answered is of another one: %q %q", told(room), told(second))
		}
		l[0], l[1] = l[1], l[0]
		if !slices.Equal(second, want) {
			t.Errorf("what was answered is of the list: %q", told(second))
		}
		l[0], l[1] = l[1], l[0]
	}
	// Of none, what is behind the list's end is left, too.
	for _, none := range [][]api.Item{match.Sort(room[:0]), match.Pick(room[:0], plain("/p"), 0), match.Pick(room, plain(""), 0)} {
		_ = append(none, item("x", "/x", 1))
		if len(none) != 0 || !slices.Equal(room, was) {
			t.Errorf("%q %q", told(none), told(room))
		}
	}
}

func TestP15_2Pick(t *testing.T) {
	l := []api.Item{item("a", "/", 5), item("b", "/p", 9), item("c", "/", 3), item("d", "/", 3), item("e", "/q", 0), item("f", "/p/1", 8), item("g", "/p/1/2", 0)}
	each(l[:6], func(l []api.Item) {
		if s := match.Text(match.Pick(l, plain("/p/1"), 0)); s != "f=f; b=b; c=c; d=d; a=a" {
			t.Errorf("%q: %q", told(l), s)
		}
	})
	for path, want := range map[string]string{"/": "c=c; d=d; a=a", "/p": "b=b; c=c; d=d; a=a", "/q/": "e=e; c=c; d=d; a=a", "/p/1/2/3": "g=g; f=f; b=b; c=c; d=d; a=a", "/pp": "c=c; d=d; a=a", "p": "", "": ""} {
		if s := match.Text(match.Pick(l, plain(path), 0)); s != want {
			t.Errorf("%q: %q, not %q", path, s, want)
		}
	}
	for _, none := range [][]api.Item{nil, {}, l[3:3]} {
		if got := match.Pick(none, plain("/"), 0); len(got) != 0 {
			t.Errorf("%v", got)
		}
	}
}

func TestP15_2PickLeavesOutWhatDoesNotFit(t *testing.T) {
	x := item("x", "/p", 5)
	for _, c := range []struct {
		what    string
		change  func(*api.Item)
		request api.Request
		now     int
		fits    bool
	}{
		{"as it is", func(*api.Item) {}, plain("/p"), 5, true},
		{"another host's", func(x *api.Item) { x.Key.Domain = "b.test" }, plain("/p"), 5, false},
		{"of the domain above", func(x *api.Item) { x.Key.Domain = "test" }, plain("/p"), 5, true},
		{"of the host above only", func(x *api.Item) { x.Key.Domain, x.Cookie.HostOnly = "test", true }, plain("/p"), 5, false},
		{"of the host only", func(x *api.Item) { x.Cookie.HostOnly = true }, plain("/p"), 5, true},
		{"of a host below", func(x *api.Item) { x.Key.Domain = "b.a.test" }, plain("/p"), 5, false},
		{"of a host that is not canonical", func(x *api.Item) { x.Key.Domain = "A b" }, api.Request{Host: "A b", Path: "/p"}, 5, true},
		{"another path's", func(x *api.Item) { x.Key.Path = "/q" }, plain("/p"), 5, false},
		{"of a path below", func(x *api.Item) { x.Key.Path = "/p/" }, plain("/p"), 5, false},
		{"of no path", func(x *api.Item) { x.Key.Path = "" }, plain("/p"), 5, true},
		{"secure, over http", func(x *api.Item) { x.Cookie.Secure = true }, plain("/p"), 5, false},
		{"secure, over https", func(x *api.Item) { x.Cookie.Secure = true }, api.Request{Host: "a.test", Path: "/p", Secure: true}, 5, true},
		{"not secure, over https", func(*api.Item) {}, api.Request{Host: "a.test", Path: "/p", Secure: true}, 5, true},
		{"a script's", func(*api.Item) {}, api.Request{Host: "a.test", Path: "/p", Script: true}, 5, true},
		{"no script's, a script's", func(x *api.Item) { x.Cookie.HttpOnly = true }, api.Request{Host: "a.test", Path: "/p", Script: true}, 5, false},
		{"no script's", func(x *api.Item) { x.Cookie.HttpOnly = true }, plain("/p"), 5, true},
		{"over just now", func(x *api.Item) { x.Cookie.Persistent, x.Cookie.Expiry = true, 5 }, plain("/p"), 5, false},
		{"over next", func(x *api.Item) { x.Cookie.Persistent, x.Cookie.Expiry = true, 6 }, plain("/p"), 5, true},
		{"over long since", func(x *api.Item) { x.Cookie.Persistent, x.Cookie.Expiry = true, -most }, plain("/p"), 5, false},
		{"never over", func(x *api.Item) { x.Cookie.Expiry = 0 }, plain("/p"), math.MaxInt, true},
		{"over at the end of all", func(x *api.Item) { x.Cookie.Persistent, x.Cookie.Expiry = true, most }, plain("/p"), math.MaxInt, false},
		{"not over at a time below 0", func(x *api.Item) { x.Cookie.Persistent, x.Cookie.Expiry = true, -most }, plain("/p"), math.MinInt, true},
		{"over at a time below 0", func(x *api.Item) { x.Cookie.Persistent, x.Cookie.Expiry = true, -5 }, plain("/p"), -5, false},
		{"not over just below 0", func(x *api.Item) { x.Cookie.Persistent, x.Cookie.Expiry = true, 0 }, plain("/p"), -1, true},
		{"later than now", func(x *api.Item) { x.Cookie.Creation = most }, plain("/p"), 5, true},
		{"not right", func(x *api.Item) { x.Key.Name, x.Cookie.Value = ";", "\n" }, plain("/p"), 5, true},
		{"without a name", func(x *api.Item) { x.Key.Name = "" }, plain("/p"), 5, true},
	} {
		y := but(x, c.change)
		var want []api.Item
		if c.fits {
			want = append(want, y)
		}
		if got := match.Pick([]api.Item{y}, c.request, c.now); !slices.Equal(got, want) {
			t.Errorf("%s: %+v", c.what, got)
		}
		// Whatever stands beside it.
		beside := api.Item{Key: api.Key{Name: "y", Domain: c.request.Host, Path: c.request.Path + "/"}, Cookie: api.Cookie{Expiry: most}}
		first := but(beside, func(x *api.Item) { x.Key.Path, x.Cookie.Creation = c.request.Path, math.MinInt })
		if got := match.Pick([]api.Item{beside, y, first, beside}, c.request, c.now); !slices.Equal(got, append([]api.Item{first}, want...)) {
			t.Errorf("%s, with others: %+v", c.what, got)
		}
	}
}

func TestP15_2PickKeepsLikeOnes(t *testing.T) {
	one := but(item("a", "/", 5), func(x *api.Item) { x.Cookie.Value = "2" })
	other := but(one, func(x *api.Item) { x.Cookie.Value = "1" })
	over := but(one, func(x *api.Item) { x.Cookie.Persistent, x.Cookie.Expiry = true, 7 })
	l := []api.Item{one, over, other, other, item("b", "/p", 9), over, one, one}
	if s := match.Text(match.Sort(l)); s != "b=b; a=2; a=2; a=1; a=1; a=2; a=2; a=2" {
		t.Errorf("%q", s)
	}
	for now, want := range map[int]string{6: "b=b; a=2; a=2; a=1; a=1; a=2; a=2; a=2", 7: "b=b; a=2; a=1; a=1; a=2; a=2"} {
		if s := match.Text(match.Pick(l, plain("/p"), now)); s != want {
			t.Errorf("at %d: %q, not %q", now, s, want)
		}
	}
}

func TestP15_2Text(t *testing.T) {
	pair := func(name, value string) api.Item {
		return but(item(name, "/", 0), func(x *api.Item) { x.Cookie.Value = value })
	}
	for want, l := range map[string][]api.Item{
		"":                    nil,
		"=":                   {pair("", "")},
		"=b":                  {pair("", "b")},
		"a=":                  {pair("a", "")},
		"a=b":                 {pair("a", "b")},
		"=; =":                {{}, {}},
		"a=; b=":              {pair("a", ""), pair("b", "")},
		"a=1; a=1; a=1":       {pair("a", "1"), pair("a", "1"), pair("a", "1")},
		"a==b==":              {pair("a", "=b==")},
		"a= b ;  c = d":       {pair("a", " b "), pair(" c ", " d")},
		" a\t=\t b\n":         {pair(" a\t", "\t b\n")},
		"a;b=c; d; e=f":       {pair("a;b", "c; d"), pair("e", "f")},
		"A=\"B\"; é=ü":        {pair("A", "\"B\""), pair("é", "ü")},
		"\x00=\n; \xff=\x80":  {pair("\x00", "\n"), pair("\xff", "\x80")},
		"b=2; a=1":            {valued("b", "/x", "2"), valued("a", "/", "1")},
		"a=1; b=2":            {valued("a", "/", "1"), valued("b", "/x", "2")},
		"c=3; a=1; b=2; a=1%": {pair("c", "3"), pair("a", "1"), pair("b", "2"), pair("a", "1%")},
	} {
		if s := match.Text(l); s != want {
			t.Errorf("%q, not %q", s, want)
		}
	}
	if s := match.Text([]api.Item{}); s != "" {
		t.Errorf("%q", s)
	}
	// Neither a domain nor a path nor a flag is told.
	full := api.Item{Key: api.Key{Name: "n", Domain: "d", Path: "/p"}, Cookie: api.Cookie{Value: "v", HostOnly: true, Secure: true, HttpOnly: true, Persistent: true, Expiry: 1, Creation: 2, Access: 3}}
	if s := match.Text([]api.Item{full, full}); s != "n=v; n=v" {
		t.Errorf("%q", s)
	}
}

func TestP15_2TheChaptersExample(t *testing.T) {
	each([]api.Item{valued("a", "/", "1"), valued("b", "/x", "2")}, func(l []api.Item) {
		for _, got := range [][]api.Item{match.Sort(l), match.Pick(l, plain("/x"), 0)} {
			if s := match.Text(got); s != "b=2; a=1" {
				t.Errorf("%q", s)
			}
		}
	})
}

func TestP15_2WhatHeadersMade(t *testing.T) {
	rules := []string{"test"}
	secure := api.Request{Host: "www.shop.test", Path: "/a/b", Secure: true}
	var l []api.Item
	for i, head := range []string{"a=1", "b=2; Path=/", "c=3; Domain=shop.test; Max-Age=60", "d=4; Secure; Path=/a/b", "e=5; HttpOnly", "f=6; Path=/x", "g=7; Domain=shop.test; Path=/; Max-Age=0"} {
		x, e := cookie.Make(rules, secure, head, 100-i)
		if e != api.OK {
			t.Fatalf("%q: %v", head, e)
		}
		l = append(l, x)
	}
	for _, c := range []struct {
		r    api.Request
		now  int
		want string
	}{
		{secure, 100, "d=4; e=5; c=3; a=1; b=2"},
		{secure, 158, "d=4; e=5; a=1; b=2"},
		{api.Request{Host: "www.shop.test", Path: "/a/b"}, 100, "e=5; c=3; a=1; b=2"},
		{api.Request{Host: "www.shop.test", Path: "/a/b", Secure: true, Script: true}, 100, "d=4; c=3; a=1; b=2"},
		{api.Request{Host: "shop.test", Path: "/a/b", Secure: true}, 100, "c=3"},
		{api.Request{Host: "www.shop.test", Path: "/", Secure: true}, 100, "b=2"},
		{api.Request{Host: "other.test", Path: "/a/b", Secure: true}, 100, ""},
	} {
		if s := match.Text(match.Pick(l, c.r, c.now)); s != c.want {
			t.Errorf("%+v at %d: %q, not %q", c.r, c.now, s, c.want)
		}
	}
}

func TestP15_1P15_2DrawnLists(t *testing.T) {
	r := rand.New(rand.NewSource(152))
	met := 0
	for range 4000 {
		met += len(holdList(t, drawn(r, r.Intn(60)), drawnRequest(r), r.Intn(40)))
	}
	if met < 10000 {
		t.Errorf("%d were picked", met)
	}
}

func TestP15_1P15_2LongLists(t *testing.T) {
	const n = 100000
	l := make([]api.Item, n)
	var text strings.Builder
	for i := range l {
		// Each is ahead of all that stand in front of it.
		l[i] = item("a", "/", n-i)
		l[i].Cookie.Value = fmt.Sprint(i)
		fmt.Fprintf(&text, "; a=%d", n-1-i)
	}
	for _, got := range [][]api.Item{match.Sort(l), match.Pick(l, plain("/x"), 0)} {
		if s := match.Text(got); s != text.String()[2:] {
			t.Errorf("of %d: %.80q", len(got), s)
		}
	}
	long := strings.Repeat("/b", 1<<19)
	deep := []api.Item{valued("a", long, long), valued("b", long+"/", ""), valued("a", long+"c", ""), valued("A", long, "")}
	if s := match.Text(match.Pick(deep, plain(long+"/"), 0)); s != "b=; A=; a="+long {
		t.Errorf("%.80q of %d bytes", s, len(s))
	}
	if s := match.Text([]api.Item{valued(long, "/", "1"), valued("b", "/", long)}); s != long+"=1; b="+long {
		t.Errorf("%.80q of %d bytes", s, len(s))
	}
}

func TestP15_3WhateverTheOrder(t *testing.T) {
	// Alike in all but their keys.
	l := []api.Item{item("a", "/a", 5), item("a", "/b", 5), item("b", "/a", 5), item("a", "/", 5), item("b", "/", 5), but(item("a", "/a", 5), func(x *api.Item) { x.Key.Domain = "test" }), but(item("a", "/", 5), func(x *api.Item) { x.Key.Domain = "test" })}
	for _, path := range []string{"/a", "/b", "/", "/a/b"} {
		want := match.Pick(l, plain(path), 0)
		each(l, func(l []api.Item) {
			if got := match.Pick(l, plain(path), 0); !slices.Equal(got, want) || len(got) < 3 {
				t.Fatalf("%+v: %+v, not %+v", l, got, want)
			}
		})
	}
	r := rand.New(rand.NewSource(153))
	met := 0
	for range 2000 {
		l := unlike(drawn(r, r.Intn(200)))
		request, now := drawnRequest(r), r.Intn(40)
		want := match.Pick(l, request, now)
		for range 4 {
			r.Shuffle(len(l), func(i, j int) { l[i], l[j] = l[j], l[i] })
			if got := match.Pick(l, request, now); !slices.Equal(got, want) {
				t.Fatalf("%+v at %d: %.200q, not %.200q", request, now, told(got), told(want))
			}
			if got, all := match.Sort(l), ordered(l); !slices.Equal(got, all) {
				t.Fatalf("%.200q, not %.200q", told(got), told(all))
			}
		}
		met += len(want)
	}
	if met < 10000 {
		t.Errorf("%d were picked", met)
	}
}

func TestP15_4OfWhatIsPickedAllIs(t *testing.T) {
	r := rand.New(rand.NewSource(154))
	met := 0
	for range 4000 {
		l, request, now := drawn(r, r.Intn(100)), drawnRequest(r), r.Intn(40)
		got := match.Pick(l, request, now)
		if again := match.Pick(got, request, now); !slices.Equal(again, got) {
			t.Fatalf("%+v at %d: %.200q, not %.200q", request, now, told(again), told(got))
		}
		if again := match.Sort(got); !slices.Equal(again, got) {
			t.Fatalf("%.200q, not %.200q", told(again), told(got))
		}
		// Nor is anything picked that was not there, or less than what fits.
		fit := 0
		for _, x := range l {
			if cookie.Fits(x, request, now) {
				fit++
			}
		}
		if fit != len(got) {
			t.Fatalf("%d of %d", len(got), fit)
		}
		met += fit
	}
	if met < 10000 {
		t.Errorf("%d were picked", met)
	}
}
