package header_test

import (
	"math/rand"
	"regexp"
	"slices"
	"strings"
	"testing"

	"biscotti/api"
	"biscotti/header"
)

// What the chapter's words say of texts, as expressions; (?s) and \z let no end of a line by.
var (
	controls   = regexp.MustCompile(`[\x00-\x08\x0a-\x1f\x7f]`)
	wholes     = regexp.MustCompile(`(?s)\A([^;]*)(;.*)?\z`)
	attributes = regexp.MustCompile(`(?s);([^;]*)`)
	named      = regexp.MustCompile(`(?s)\A[ \t]*([^=]*?)[ \t]*(=[ \t]*(.*?)[ \t]*)?\z`)
	blankEnds  = regexp.MustCompile(`(?s)\A[ \t]|[ \t]\z`)
)

// parsed answers by the chapter's words what Parse answers.
func parsed(s string) (header.Pair, []header.Pair, api.Errno) {
	if len(s) > 4096 {
		return header.Pair{}, nil, api.ErrLong
	}
	whole := wholes.FindStringSubmatch(s)
	first := named.FindStringSubmatch(whole[1])
	pair := header.Pair{Name: first[1], Value: first[3]}
	if controls.MatchString(s) || first[2] == "" || pair.Name == "" {
		return header.Pair{}, nil, api.ErrForm
	}
	if len(pair.Name) > 256 || len(pair.Value) > 1024 {
		return header.Pair{}, nil, api.ErrLong
	}
	var list []header.Pair
	for _, part := range attributes.FindAllStringSubmatch(whole[2], -1) {
		x := named.FindStringSubmatch(part[1])
		list = append(list, header.Pair{Name: x[1], Value: x[3]})
	}
	return pair, list, api.OK
}

// printable tells whether x can be told of a name and a value by themselves, whatever stands around them.
func printable(x header.Pair) bool {
	both := x.Name + x.Value
	return !controls.MatchString(both) && !strings.Contains(both, ";") && !strings.Contains(x.Name, "=") &&
		!blankEnds.MatchString(x.Name) && !blankEnds.MatchString(x.Value)
}

// printed answers by the chapter's words what Print answers.
func printed(p header.Pair, l []header.Pair) (string, api.Errno) {
	good := printable(p) && p.Name != "" && len(p.Name) <= 256 && len(p.Value) <= 1024
	parts := []string{p.Name + "=" + p.Value}
	for _, x := range l {
		good = good && printable(x)
		part := x.Name
		if x.Value != "" {
			part += "=" + x.Value
		}
		parts = append(parts, part)
	}
	s := strings.Join(parts, "; ")
	if !good || len(s) > 4096 {
		return "", api.ErrForm
	}
	return s, api.OK
}

// capitals and smalls stand at one place in both.
const (
	capitals = "ABCDEFGHIJKLMNOPQRSTUVWXYZ"
	smalls   = "abcdefghijklmnopqrstuvwxyz"
)

// madeSmall tells by the words of layer 6 what s is, made small.
func madeSmall(s string) string {
	b := []byte(s)
	for i, x := range b {
		if at := strings.IndexByte(capitals, x); at >= 0 {
			b[i] = smalls[at]
		}
	}
	return string(b)
}

// found answers by the chapter's words what Find answers.
func found(l []header.Pair, name string) (string, bool) {
	value, is := "", false
	for _, x := range l {
		if madeSmall(x.Name) == madeSmall(name) {
			value, is = x.Value, true
		}
	}
	return value, is
}

// holdParse holds what Parse answers of s against the chapter's words, and tells whether it is a header.
func holdParse(t *testing.T, s string) bool {
	t.Helper()
	wantPair, wantList, wrong := parsed(s)
	pair, list, e := header.Parse(s)
	if pair != wantPair || !slices.Equal(list, wantList) || e != wrong {
		t.Errorf("Parse(%.80q) of %d bytes: %.80q %.80q %v, not %.80q %.80q %v", s, len(s), pair, list, e, wantPair, wantList, wrong)
	}
	return wrong == api.OK
}

// holdPrint holds what Print answers against the chapter's words, and tells whether there is a text.
func holdPrint(t *testing.T, p header.Pair, l ...header.Pair) bool {
	t.Helper()
	want, wrong := printed(p, l)
	if s, e := header.Print(p, l); s != want || e != wrong {
		t.Errorf("Print(%.80q, %.80q): %.80q of %d bytes %v, not %.80q of %d bytes %v", p, l, s, len(s), e, want, len(want), wrong)
	}
	return wrong == api.OK
}

// holdFind holds what Find answers against the chapter's words, and tells whether there is one.
func holdFind(t *testing.T, l []header.Pair, name string) bool {
	t.Helper()
	want, is := found(l, name)
	if value, has := header.Find(l, name); value != want || has != is {
		t.Errorf("Find(%.80q, %.80q): %.80q %v, not %.80q %v", l, name, value, has, want, is)
	}
	return is
}

// holdBack holds that what is parted of s is printed, where its text is not too long, and parted as it was.
func holdBack(t *testing.T, s string) bool {
	t.Helper()
	pair, list, e := header.Parse(s)
	if e != api.OK {
		return false
	}
	size := len(pair.Name) + 1 + len(pair.Value)
	for _, x := range list {
		size += 2 + len(x.Name) + len(x.Value)
		if x.Value != "" {
			size++
		}
	}
	text, wrong := header.Print(pair, list)
	if size > 4096 {
		if text != "" || wrong != api.ErrForm {
			t.Errorf("%.80q of %d bytes: printed as %d bytes, %v", s, len(s), len(text), wrong)
		}
		return false
	}
	again, others, e := header.Parse(text)
	if wrong != api.OK || len(text) != size || e != api.OK || again != pair || !slices.Equal(others, list) {
		t.Errorf("%.80q of %d bytes: printed as %.80q of %d bytes, %v, and that is %.80q %.80q %v", s, len(s), text, len(text), wrong, again, others, e)
	}
	return true
}

// short are all texts of at most that many parts of a few.
func short(most int, of ...string) []string {
	all, last := []string{""}, []string{""}
	for range most {
		var longer []string
		for _, s := range last {
			for _, part := range of {
				longer = append(longer, s+part)
			}
		}
		all, last = append(all, longer...), longer
	}
	return all
}

// spoilt are all texts that are s but for one byte that is another one, is left out, or stands there too.
func spoilt(s string) []string {
	var all []string
	for i := range len(s) + 1 {
		for x := range 256 {
			b := string([]byte{byte(x)})
			all = append(all, s[:i]+b+s[i:])
			if i < len(s) {
				all = append(all, s[:i]+b+s[i+1:])
			}
		}
		if i < len(s) {
			all = append(all, s[:i]+s[i+1:])
		}
	}
	return all
}

// drawn answers a text of at most that many signs, of which many part it.
func drawn(r *rand.Rand, signs string, most int) string {
	b := make([]byte, r.Intn(most+1))
	for i := range b {
		b[i] = signs[r.Intn(len(signs))]
	}
	return string(b)
}

// headers are good ones, of each shape.
func headers() []string {
	return []string{
		"a=b", "a=", " a = b ", "a=b;", "a=b;;", "a=b;c", "a=b; c=d", "a=b; c =\td ; e", "\ta\t=\tb\t;\tc\t=\td\t",
		"a b=c d; e f=g h", "a==b; c==d", "a=b; =c; =", "sid=31d4; Domain=.Shop.Test; Max-Age=60; Secure",
		"a=\"b\"; Expires=Sun, 06 Nov 1994 08:49:37 GMT; HttpOnly", "\x80=\xff; \xc3\xa9=\xfe",
	}
}

// longs are headers near each limit.
func longs() []string {
	var all []string
	for _, n := range []int{255, 256, 257, 1023, 1024, 1025, 4094, 4095, 4096, 4097, 1 << 16} {
		long := strings.Repeat("x", n)
		for _, s := range []string{
			long, long + "=", long + "=b", "a=" + long, "=" + long, long + "=" + long, " \t" + long + " \t= \tb", "a= \t" + long + " \t;c",
			"a=b;" + long, "a=b;" + long + "=d", "a=b;c=" + long, "a=b;" + long + "=" + long, "a;" + long, "\n" + long, "a=b;\n" + long,
			long + "=\n", "a=" + long + "\n", "=" + long + "\n", long + "=" + long + ";\x7f", strings.Repeat("\xff", n) + "=b",
		} {
			all = append(all, s)
			if len(s) < 4098 {
				// What stands ahead of the semicolon is the same, and the header as long as it may be, or by one longer.
				all = append(all, s+";"+strings.Repeat("y", max(0, 4095-len(s))), s+";"+strings.Repeat(" ", max(0, 4096-len(s))))
			}
		}
		all = append(all, "a=b"+strings.Repeat(";", n), "a=b"+strings.Repeat("; ", n), strings.Repeat(" ", n)+"a=b", "a=b"+strings.Repeat("\t", n),
			"a"+strings.Repeat("=", n), "a=b;"+strings.Repeat("=", n), strings.Repeat(" ", n), strings.Repeat(";", n), strings.Repeat("\x00", n))
	}
	return all
}

func TestP12_1Parse(t *testing.T) {
	for s, want := range map[string][]header.Pair{
		"a=b; Path=/x; Secure":                            {{"a", "b"}, {"Path", "/x"}, {"Secure", ""}},
		"sid=31d4; Domain=.Shop.Test; Max-Age=60; Secure": {{"sid", "31d4"}, {"Domain", ".Shop.Test"}, {"Max-Age", "60"}, {"Secure", ""}},
		"a=b":                {{"a", "b"}},
		"a=":                 {{"a", ""}},
		"a= \t ":             {{"a", ""}},
		"A=B":                {{"A", "B"}},
		" \ta\t = \t b\t ":   {{"a", "b"}},
		"a b = c\td":         {{"a b", "c\td"}},
		"a=b=c":              {{"a", "b=c"}},
		"a==":                {{"a", "="}},
		"a= = ":              {{"a", "="}},
		"a=\"b;c\"":          {{"a", "\"b"}, {"c\"", ""}},
		"a=b, c=d":           {{"a", "b, c=d"}},
		"a=%20%3B":           {{"a", "%20%3B"}},
		"\xff=\x80":          {{"\xff", "\x80"}},
		"\u00a0a\u00a0=\xa0": {{"\u00a0a\u00a0", "\xa0"}},
		"a=b;":               {{"a", "b"}, {"", ""}},
		"a=b; \t":            {{"a", "b"}, {"", ""}},
		"a=b;;c;":            {{"a", "b"}, {"", ""}, {"c", ""}, {"", ""}},
		"a=b;c=":             {{"a", "b"}, {"c", ""}},
		"a=b;=":              {{"a", "b"}, {"", ""}},
		"a=b;=c":             {{"a", "b"}, {"", "c"}},
		"a=b; = c = d ":      {{"a", "b"}, {"", "c = d"}},
		"a=b;c==d":           {{"a", "b"}, {"c", "=d"}},
		"a=b;\tc d\t=\te f ": {{"a", "b"}, {"c d", "e f"}},
		"a=b;Path=/;path=/x": {{"a", "b"}, {"Path", "/"}, {"path", "/x"}},
		"a=b;Nobody=knows;X": {{"a", "b"}, {"Nobody", "knows"}, {"X", ""}},
		"a=b;c=d;a=e":        {{"a", "b"}, {"c", "d"}, {"a", "e"}},
		"a=b;\xc3\xa9=\xfe":  {{"a", "b"}, {"\xc3\xa9", "\xfe"}},
		"a=;b=c":             {{"a", ""}, {"b", "c"}},
		"Secure=;Secure":     {{"Secure", ""}, {"Secure", ""}},
	} {
		pair, list, e := header.Parse(s)
		if e != api.OK || pair != want[0] || !slices.Equal(list, want[1:]) {
			t.Errorf("Parse(%q): %q %q %v", s, pair, list, e)
		}
	}
}

func TestP12_1TheFirstError(t *testing.T) {
	name, value := strings.Repeat("n", 257), strings.Repeat("v", 1025)
	long := strings.Repeat("x", 4097)
	for _, x := range []struct {
		s    string
		want api.Errno
	}{
		{long, api.ErrLong},
		{"a=b;" + long, api.ErrLong},
		{"a=b" + strings.Repeat(" ", 4094), api.ErrLong},
		{"a=b" + strings.Repeat(" ", 4093), api.OK},
		{"\n" + long, api.ErrLong},
		{"=" + long, api.ErrLong},
		{";a=" + long, api.ErrLong},
		{"", api.ErrForm},
		{" ", api.ErrForm},
		{"a", api.ErrForm},
		{";", api.ErrForm},
		{";;", api.ErrForm},
		{"=", api.ErrForm},
		{"=b", api.ErrForm},
		{" \t=b", api.ErrForm},
		{"==b", api.ErrForm},
		{";a=b", api.ErrForm},
		{"a;b=c", api.ErrForm},
		{"=;b=c", api.ErrForm},
		{"a=b\n", api.ErrForm},
		{"a=b;\r", api.ErrForm},
		{"a=b;c=\x00", api.ErrForm},
		{"\x1fa=b", api.ErrForm},
		{"a=b\x7f", api.ErrForm},
		{"a=b\x20\x80\t", api.OK},
		{name + "=b", api.ErrLong},
		{"a=" + value, api.ErrLong},
		{name + "=" + value, api.ErrLong},
		{name + "=b\n", api.ErrForm},
		{"a=" + value + ";\n", api.ErrForm},
		{name, api.ErrForm},
		{name + ";a=b", api.ErrForm},
		{"=" + value, api.ErrForm},
		{" =" + value, api.ErrForm},
		{";" + name + "=" + value, api.ErrForm},
		{name[1:] + "=" + value[1:], api.OK},
		{" \t" + name[1:] + " \t= \t" + value[1:] + "\t ;c", api.OK},
		{"a=b;" + name + "=" + value, api.OK},
		{"a=b;" + long[:4092], api.OK},
		{"a=b;" + long[:4093], api.ErrLong},
	} {
		pair, list, e := header.Parse(x.s)
		if e != x.want {
			t.Errorf("Parse(%.80q) of %d bytes: %v, not %v", x.s, len(x.s), e, x.want)
		}
		if x.want != api.OK && (pair != header.Pair{} || len(list) != 0) {
			t.Errorf("Parse(%.80q) of %d bytes: beside an error %.80q %.80q", x.s, len(x.s), pair, list)
		}
	}
}

func TestP12_1EachByteInEachPlace(t *testing.T) {
	good := 0
	for _, s := range headers() {
		if !holdParse(t, s) {
			t.Errorf("%q is no header", s)
		}
		for _, other := range spoilt(s) {
			if holdParse(t, other) {
				good++
			}
		}
	}
	if good == 0 {
		t.Error("none is a header")
	}
}

func TestP12_1ShortHeaders(t *testing.T) {
	for _, s := range short(7, "a", "=", ";", " ", "\t") {
		holdParse(t, s)
	}
	for _, s := range short(5, "a", "=", "; ", "\n", "\x80", "\x7f", "\"", ",") {
		holdParse(t, s)
	}
}

func TestP12_1DrawnHeaders(t *testing.T) {
	r := rand.New(rand.NewSource(12))
	good := 0
	for range 20000 {
		s := drawn(r, "aaAb;;==  \t\x80\xff\"", 40)
		for _, s := range []string{s, "a=" + s, s + drawn(r, "\x00\n\r\x1f\x7fx", 2)} {
			if holdParse(t, s) {
				good++
			}
		}
	}
	if good < 20000 {
		t.Errorf("%d are headers", good)
	}
}

func TestP12_1LongHeaders(t *testing.T) {
	for _, s := range longs() {
		holdParse(t, s)
	}
}

func TestP12_1AttributesAreOfTheCallAlone(t *testing.T) {
	const s = "a=b; c=d; e"
	_, first, _ := header.Parse(s)
	_, second, _ := header.Parse(s)
	for i := range first {
		first[i] = header.Pair{Name: "x", Value: "y"}
	}
	_ = append(first[:0], header.Pair{Name: "z"}, header.Pair{Name: "z"}, header.Pair{Name: "z"})
	want := []header.Pair{{"c", "d"}, {"e", ""}}
	if _, third, _ := header.Parse(s); !slices.Equal(second, want) || !slices.Equal(third, want) {
		t.Errorf("%q %q", second, third)
	}
}

func TestP12_2Find(t *testing.T) {
	list := []header.Pair{{"Path", "/x"}, {"SECURE", ""}, {"path", "/y"}, {"", "none"}, {"max-age", "1"}, {"Max-Age", ""}, {"É", "1"}, {" a", "2"}, {"a", "3"}, {"a ", "4"}, {"b\x00", "5"}, {"\xff", "6"}}
	for _, x := range []struct {
		name, want string
		is         bool
	}{
		{"path", "/y", true},
		{"Path", "/y", true},
		{"PATH", "/y", true},
		{"pAtH", "/y", true},
		{"secure", "", true},
		{"Secure", "", true},
		{"max-age", "", true},
		{"MAX-AGE", "", true},
		{"max_age", "", false},
		{"", "none", true},
		{" ", "", false},
		{"pat", "", false},
		{"paths", "", false},
		{" path", "", false},
		{"/y", "", false},
		{"É", "1", true},
		{"é", "", false},
		{" A", "2", true},
		{"A", "3", true},
		{"A ", "4", true},
		{"  a", "", false},
		{"b", "", false},
		{"B\x00", "5", true},
		{"\xff", "6", true},
		{"\xfe", "", false},
		{"\ufffd", "", false},
	} {
		if value, is := header.Find(list, x.name); value != x.want || is != x.is {
			t.Errorf("Find(%q): %q %v", x.name, value, is)
		}
		for _, none := range [][]header.Pair{nil, {}, {{"x", "y"}}} {
			if value, is := header.Find(none, x.name); value != "" || is {
				t.Errorf("Find(%q) of %q: %q %v", x.name, none, value, is)
			}
		}
	}
}

func TestP12_2EachByte(t *testing.T) {
	is := 0
	for x := range 256 {
		for y := range 256 {
			one, other := string([]byte{byte(x)}), string([]byte{byte(y)})
			if holdFind(t, []header.Pair{{"n" + one, "first"}, {"N" + other, "second"}, {"n", "third"}}, "N"+one) {
				is++
			}
			holdFind(t, []header.Pair{{one, "first"}, {"n", one}}, other)
		}
	}
	if is != 256*256 {
		t.Errorf("%d are found", is)
	}
}

func TestP12_2TheLastOne(t *testing.T) {
	names := short(2, "a", "A", "b")
	is := 0
	for _, first := range names {
		for _, second := range names {
			for _, third := range names {
				list := []header.Pair{{first, "1"}, {second, "2"}, {third, ""}}
				for _, name := range names {
					if holdFind(t, list, name) {
						is++
					}
				}
				holdFind(t, list[:2], third)
				holdFind(t, list[:1], second)
			}
		}
	}
	if is == 0 {
		t.Error("none is found")
	}
}

func TestP12_2HugeLists(t *testing.T) {
	list := make([]header.Pair, 1<<20)
	list[1<<19] = header.Pair{Name: "Name", Value: "v"}
	name := strings.Repeat("N", 1<<20)
	if value, is := header.Find(list, name); value != "" || is {
		t.Errorf("%q %v", value, is)
	}
	if value, is := header.Find(list, "NAME"); value != "v" || !is {
		t.Errorf("%q %v", value, is)
	}
	list = append(list, header.Pair{Name: strings.ToLower(name), Value: "long"}, header.Pair{Name: name[1:], Value: "other"})
	if value, is := header.Find(list, name); value != "long" || !is {
		t.Errorf("%q %v", value, is)
	}
}

func TestP12_3Print(t *testing.T) {
	for _, x := range []struct {
		want string
		list []header.Pair
	}{
		{"a=b", []header.Pair{{"a", "b"}}},
		{"a=", []header.Pair{{"a", ""}}},
		{"A b=C d", []header.Pair{{"A b", "C d"}}},
		{"a=b=c", []header.Pair{{"a", "b=c"}}},
		{"a==", []header.Pair{{"a", "="}}},
		{"a=b; Path=/x; Secure", []header.Pair{{"a", "b"}, {"Path", "/x"}, {"Secure", ""}}},
		{"a=b; ", []header.Pair{{"a", "b"}, {"", ""}}},
		{"a=b; ; ", []header.Pair{{"a", "b"}, {"", ""}, {"", ""}}},
		{"a=b; =c", []header.Pair{{"a", "b"}, {"", "c"}}},
		{"a=b; c==", []header.Pair{{"a", "b"}, {"c", "="}}},
		{"a=; a; a; a=a", []header.Pair{{"a", ""}, {"a", ""}, {"a", ""}, {"a", "a"}}},
		{"\xff=\x80; \u00a0=\u00a0", []header.Pair{{"\xff", "\x80"}, {"\u00a0", "\u00a0"}}},
		{"a\tb=c\td; e\tf=g\th", []header.Pair{{"a\tb", "c\td"}, {"e\tf", "g\th"}}},
	} {
		if s, e := header.Print(x.list[0], x.list[1:]); s != x.want || e != api.OK {
			t.Errorf("Print(%q): %q %v", x.list, s, e)
		}
	}
	for _, p := range []header.Pair{{"", ""}, {"", "b"}, {" ", "b"}, {"a ", "b"}, {"\ta", "b"}, {"a", " b"}, {"a", "b\t"}, {"a", " "}, {"a=", "b"}, {"a=b", ""}, {"a", "b;"}, {"a;", "b"}, {"a", "b; c"}, {"a\n", "b"}, {"a", "\x00"}, {"a\x7f", ""}} {
		for _, list := range [][]header.Pair{nil, {}, {{"Secure", ""}}} {
			if s, e := header.Print(p, list); s != "" || e != api.ErrForm {
				t.Errorf("Print(%q, %q): %q %v", p, list, s, e)
			}
		}
	}
	for _, x := range []header.Pair{{" ", ""}, {"", " "}, {"a ", "b"}, {"\ta", "b"}, {"a", " b"}, {"a", "b\t"}, {"=", ""}, {"a=b", ""}, {"a=", "b"}, {"a", "b;"}, {"a;", "b"}, {";", ""}, {"", ";"}, {"a; c", "b"}, {"a\n", "b"}, {"a", "\x00"}, {"", "\x7f"}} {
		for _, list := range [][]header.Pair{{x}, {x, {"Secure", ""}}, {{"Secure", ""}, x}} {
			if s, e := header.Print(header.Pair{Name: "a", Value: "b"}, list); s != "" || e != api.ErrForm {
				t.Errorf("Print(a=b, %q): %q %v", list, s, e)
			}
		}
	}
}

func TestP12_3EachByteInEachPlace(t *testing.T) {
	is := 0
	good := header.Pair{Name: "a", Value: "b"}
	for _, s := range spoilt("ab") {
		for _, x := range []header.Pair{{s, "v"}, {s, ""}, {"n", s}, {"", s}, {s, s}} {
			for _, held := range []bool{holdPrint(t, x), holdPrint(t, good, x), holdPrint(t, x, x), holdPrint(t, good, good, x, header.Pair{})} {
				if held {
					is++
				}
			}
		}
	}
	if is == 0 {
		t.Error("none is printed")
	}
}

func TestP12_3ShortPairs(t *testing.T) {
	var pairs []header.Pair
	for _, name := range short(2, "a", "=", ";", " ") {
		for _, value := range short(2, "b", "=", ";", "\t") {
			pairs = append(pairs, header.Pair{Name: name, Value: value})
		}
	}
	is := 0
	for _, p := range pairs {
		for _, x := range pairs {
			if holdPrint(t, p, x) {
				is++
			}
			holdPrint(t, header.Pair{Name: "a"}, p, x)
		}
	}
	if is == 0 {
		t.Error("none is printed")
	}
}

func TestP12_3LongTexts(t *testing.T) {
	good := header.Pair{Name: "a", Value: "b"}
	for n := range 4100 {
		long := strings.Repeat("x", n)
		for _, x := range []struct {
			p    header.Pair
			l    []header.Pair
			most int
		}{
			{header.Pair{Name: long, Value: "b"}, nil, 256},
			{header.Pair{Name: "a", Value: long}, nil, 1024},
			{good, []header.Pair{{long, ""}}, 4096 - 5},
			{good, []header.Pair{{long, "d"}}, 4096 - 7},
			{good, []header.Pair{{"", long}}, 4096 - 6},
			{good, []header.Pair{{"c", long}, {}}, 4096 - 9},
			{good, []header.Pair{{}, {"c", ""}, {long, ""}, {"d", "e"}}, 4096 - 15},
			{good, make([]header.Pair, n), (4096 - 3) / 2},
			{header.Pair{Name: "a"}, make([]header.Pair, n), 4094 / 2},
		} {
			s, e := header.Print(x.p, x.l)
			if is := n <= x.most && (n > 0 || x.p.Name != ""); is != (e == api.OK) || !is && (s != "" || e != api.ErrForm) {
				t.Errorf("%d: %.40q %.40q: %d bytes %v", n, x.p, x.l, len(s), e)
			}
		}
	}
}

func TestP12_3HugeLists(t *testing.T) {
	huge := strings.Repeat("x", 1<<20)
	for _, x := range []header.Pair{{}, {"a", "b"}, {huge, ""}, {huge, huge}} {
		list := make([]header.Pair, 1<<20)
		for i := range list {
			list[i] = x
		}
		if s, e := header.Print(header.Pair{Name: "a", Value: "b"}, list); s != "" || e != api.ErrForm {
			t.Errorf("%.40q: %d bytes %v", x, len(s), e)
		}
	}
	if s, e := header.Print(header.Pair{Name: huge, Value: huge}, nil); s != "" || e != api.ErrForm {
		t.Errorf("%d bytes %v", len(s), e)
	}
}

func TestP12_2P12_3WhatIsHandedInStays(t *testing.T) {
	room := []header.Pair{{"C", "d"}, {"E", ""}, {"behind", "it"}, {"and", "that"}}
	list, was := room[:2], slices.Clone(room)
	if s, e := header.Print(header.Pair{Name: "a", Value: "b"}, list); s != "a=b; C=d; E" || e != api.OK {
		t.Errorf("%q %v", s, e)
	}
	if _, e := header.Print(header.Pair{Name: " a", Value: "b"}, list); e != api.ErrForm {
		t.Error(e)
	}
	for _, name := range []string{"c", "e", "behind", "x"} {
		holdFind(t, list, name)
	}
	if !slices.Equal(room, was) {
		t.Errorf("%q", room)
	}
}

func TestP12_4ThereAndBack(t *testing.T) {
	r := rand.New(rand.NewSource(124))
	all := append(headers(), longs()...)
	all = append(all, short(7, "a", "=", ";", " ", "\t")...)
	for _, s := range headers() {
		all = append(all, spoilt(s)...)
	}
	for range 20000 {
		all = append(all, "a="+drawn(r, "aaAb;;==  \t\x80\xff\"", 60))
	}
	for _, n := range []int{2044, 2045, 2046, 2047, 2048} {
		// Of a semicolon two bytes are printed.
		all = append(all, "a="+strings.Repeat(";", n), "a=b"+strings.Repeat(";", n), "ab=c"+strings.Repeat(";", n))
	}
	back := 0
	for _, s := range all {
		if holdBack(t, s) {
			back++
		}
	}
	if back < 20000 {
		t.Errorf("%d there and back", back)
	}
}

func TestP12_4WhatIsPrintedIsParted(t *testing.T) {
	r := rand.New(rand.NewSource(125))
	draw := func() header.Pair {
		return header.Pair{Name: drawn(r, "aB-\x80 ", 4), Value: drawn(r, "aB=/\xff\t", 4)}
	}
	good := 0
	for range 40000 {
		p, list := draw(), make([]header.Pair, r.Intn(4))
		for i := range list {
			list[i] = draw()
		}
		if !holdPrint(t, p, list...) {
			continue
		}
		good++
		s, _ := header.Print(p, list)
		if again, others, e := header.Parse(s); e != api.OK || again != p || !slices.Equal(others, list) {
			t.Errorf("%q is %q %q %v, not %q %q", s, again, others, e, p, list)
		}
	}
	if good < 1000 {
		t.Errorf("%d printed", good)
	}
}
