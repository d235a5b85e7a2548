package tests

import (
	"path"
	"regexp"
	"slices"
	"strings"
	"testing"

	"loop.example/g00483/impl"
)

// What a name, a path and a text that has a normal path are made of, said
// another way than the program says it.
var (
	nameForm  = regexp.MustCompile(`\A[a-z0-9]{1,6}\z`)
	pathForm  = regexp.MustCompile(`\A(/|(/[a-z0-9]{1,6}){1,4})\z`)
	looseForm = regexp.MustCompile(`\A(/+([a-z0-9]{1,6}|\.|\.\.))*/*\z`)
)

// somePaths are right, and of every depth.
var somePaths = []string{
	"/", "/a", "/z", "/0", "/9", "/ab", "/abc", "/abcdef", "/000000", "/a/b", "/ab/c", "/a/a", "/b/a",
	"/a/bc", "/abc/d", "/abcdef/ghijkl", "/a/b/c", "/a/a/a", "/a/b/cd", "/a/b/c/d", "/a/b/c/de", "/a/a/a/a",
	"/abcdef/ghijkl/mnopqr/stuvwx", "/012345/6789az/a/0",
}

// noPaths are wrong.
var noPaths = []string{
	"", "a", "?", ".", "..", "a/", "a/b", "//", "///", "//a", "/a/", "/a//", "/a//b", "/a/b/", "/a/b//c",
	"/a/b/c/", "/a/b/c/d/", "/a/b/c/d//", "/a/b/c/d/e", "/a/b/c/d/e/f", "/abcdefg", "/a/abcdefg", "/abcdefg/a",
	"/a/b/c/abcdefg", "/.", "/..", "/a/.", "/a/..", "/a/./b", "/a/../b", "/A", "/a/B", "/Z/a", "/a.b", "/a b",
	" /a", "/a ", "/a\n", "/a\x00", "\x00/a", "/\x00", "/\xff", "/a\xff", "/\xc3\xa4", "/a/\u0661", "/\uff41",
	"/`", "/{", "/:", "/\\", "\\a", "/-", "/_",
	strings.Repeat("/", 1000), strings.Repeat("/a", 1000), "/" + strings.Repeat("a", 1000),
}

// everyText gives all texts of at most that many of these signs, one by one.
func everyText(signs string, most int, each func(s string)) {
	for list := []string{""}; ; most-- {
		var next []string
		for _, s := range list {
			each(s)
			for i := range len(signs) {
				next = append(next, s+signs[i:i+1])
			}
		}
		if list = next; most == 0 {
			return
		}
	}
}

func shareText(a string, b string) bool { return overlap(a, b) || overlap(b, a) }

// loose gives the normal path that the document asks for, by the library's
// own: two dots at the root are nothing there, too.
func loose(s string) (string, bool) {
	if len(s) > 60 || !strings.HasPrefix(s, "/") || !looseForm.MatchString(s) {
		return "", false
	}
	if p := path.Clean(s); pathForm.MatchString(p) {
		return p, true
	}
	return "", false
}

func TestPathLimits(t *testing.T) {
	if impl.MaxName != 6 || impl.MaxDeep != 4 {
		t.Error(impl.MaxName, impl.MaxDeep)
	}
}

func TestNameOk(t *testing.T) {
	for _, s := range []string{"a", "z", "0", "9", "m", "5", "ab", "a0", "0a", "abcde", "abcdef", "zzzzzz", "000000", "999999", "a1b2c3"} {
		if !impl.NameOk(s) {
			t.Errorf("NameOk(%q) is false", s)
		}
	}
	for _, s := range []string{
		"", "abcdefg", "0000000", strings.Repeat("a", 262), strings.Repeat("a", 1000), "`", "{", "/", ":", "a`", "{a", "a/", ":9",
		"A", "Z", "M", "aB", "Ab", "ABCDEF", ".", "..", "...", "a.", ".a", "a/b", "/a", "//", " ", "a ", " a", "-", "_", "a-b",
		"\x00", "a\x00", "\x00a", "\n", "a\n", "\x7f", "\x80", "\xff", "a\xff", "\xffa", "\u00e4", "a\u00e4", "\u0661", "\uff41", "\uff11",
		"\u0430", "\U0001f600", "\u0161", "\u0130", "?",
	} {
		if impl.NameOk(s) {
			t.Errorf("NameOk(%q) is true", s)
		}
	}
}

func TestNameOkOfEachByte(t *testing.T) {
	for c := range 256 {
		one := string([]byte{byte(c)})
		for _, s := range []string{one, one + "a", "a" + one, "aa" + one + "aa", "aaaaa" + one, one + "aaaaa"} {
			if got, want := impl.NameOk(s), nameForm.MatchString(s); got != want {
				t.Errorf("NameOk(%q) = %t", s, got)
			}
		}
	}
}

func TestNameOkOfEachRune(t *testing.T) {
	for r := rune(0); r <= 0x10ffff; r++ {
		if s := string(r); impl.NameOk(s) != nameForm.MatchString(s) {
			t.Errorf("NameOk(%q) = %t", s, impl.NameOk(s))
		}
	}
}

func TestPathOk(t *testing.T) {
	for _, p := range somePaths {
		if !impl.PathOk(p) {
			t.Errorf("PathOk(%q) is false", p)
		}
	}
	for _, p := range noPaths {
		if impl.PathOk(p) {
			t.Errorf("PathOk(%q) is true", p)
		}
	}
}

func TestPathsOfFewSigns(t *testing.T) {
	everyText("/a.A", 9, func(s string) {
		if got := impl.PathOk(s); got != pathForm.MatchString(s) {
			t.Fatalf("PathOk(%q) = %t", s, got)
		}
		p, ok := impl.Normal(s)
		if want, wantOk := loose(s); p != want || ok != wantOk {
			t.Fatalf("Normal(%q) = %q, %t, want %q, %t", s, p, ok, want, wantOk)
		}
	})
}

func TestNamesAndPathOf(t *testing.T) {
	for p, want := range map[string][]string{
		"/":                            nil,
		"/a":                           {"a"},
		"/a/b":                         {"a", "b"},
		"/b/a":                         {"b", "a"},
		"/0/9/z":                       {"0", "9", "z"},
		"/abcdef/ghijkl/mnopqr/stuvwx": {"abcdef", "ghijkl", "mnopqr", "stuvwx"},
	} {
		if got := impl.Names(p); !slices.Equal(got, want) {
			t.Errorf("Names(%q) = %q", p, got)
		}
		if got := impl.PathOf(want); got != p {
			t.Errorf("PathOf(%q) = %q", want, got)
		}
	}
	for _, p := range somePaths {
		if got := impl.PathOf(impl.Names(p)); got != p {
			t.Errorf("PathOf(Names(%q)) = %q", p, got)
		}
	}
	if got := impl.PathOf([]string{}); got != "/" {
		t.Errorf("PathOf of no names = %q", got)
	}
}

func TestNamesOfNoPath(t *testing.T) {
	for _, p := range noPaths {
		if got := impl.Names(p); len(got) != 0 {
			t.Errorf("Names(%q) = %q", p, got)
		}
	}
}

func TestPathOfRefuses(t *testing.T) {
	for _, list := range [][]string{
		{""}, {"", ""}, {"", "a"}, {"a", ""}, {"a", "", "b"}, {"/"}, {"/a"}, {"a/"}, {"a/b"}, {"a", "b/c"}, {"a/b", "c"}, {"a/b/c/d"},
		{"."}, {".."}, {"a", "."}, {"a", ".."}, {"A"}, {"a", "B"}, {"B", "a"}, {"abcdefg"}, {"a", "abcdefg"}, {"a", "b", "c", "abcdefg"},
		{"a", "b", "c", "d", "e"}, {"a", "b", "c", "d", ""}, {"a", "b", "c", "d", ".."}, {"\xff"}, {"\u00e4"}, {"a", "\x00"},
		slices.Repeat([]string{"a"}, 1000), slices.Repeat([]string{""}, 1000),
	} {
		if got := impl.PathOf(list); got != "" {
			t.Errorf("PathOf(%q) = %q", list, got)
		}
	}
}

func TestNormal(t *testing.T) {
	for s, want := range map[string]string{
		"/": "/", "//": "/", "///": "/", "/.": "/", "/./": "/", "/./.": "/", "/..": "/", "/../": "/", "/../..": "/",
		"/../../..": "/", "/./..": "/", "/.././..": "/", "/../a": "/a", "/../../a": "/a", "/../a/..": "/", "/a/..": "/",
		"/a/../..": "/", "/a/../../b": "/b", "/a/../b": "/b", "/a/b/..": "/a", "/a/b/../..": "/", "/a/b/../../c": "/c",
		"/a/b/../c": "/a/c", "/a/b/c/../../d": "/a/d", "/a/./b": "/a/b", "/./a": "/a", "/a/.": "/a", "/a/./.": "/a",
		"/a/": "/a", "//a": "/a", "//a//b/": "/a/b", "/a///b///": "/a/b", "/a/.//..": "/",
		"/abcdef": "/abcdef", "/abcdef/..": "/", "/a/b/c/d": "/a/b/c/d", "/a/b/c/d/": "/a/b/c/d", "/a/b/c/d/.": "/a/b/c/d",
		"/a/b/c/d/..": "/a/b/c", "/a/b/c/d/e/..": "/a/b/c/d", "/a/b/c/d/../e": "/a/b/c/e", "/a/../b/c/d/e": "/b/c/d/e",
		"/a/b/c/d/e/f/../..": "/a/b/c/d", "/a/b/c/d/e/f/../../../g": "/a/b/c/g", "/a/b/c/d/e/../../f": "/a/b/c/f",
		"/../a/b/c/d": "/a/b/c/d",
	} {
		if p, ok := impl.Normal(s); !ok || p != want {
			t.Errorf("Normal(%q) = %q, %t, want %q", s, p, ok, want)
		}
	}
}

func TestNormalRefuses(t *testing.T) {
	for _, s := range []string{
		"", "a", "a/b", ".", "..", "./a", "../a", " /a", "\x00/a", "\\a", "/A", "/a/B", "/toolong", "/a/toolong",
		"/...", "/....", "/.a", "/a.", "/..a", "/a..", "/. ", "/ .", "/ ..", "/ ", "/a b", "/\x00", "/a\n", "/\xff", "/\u00e4",
		"/a/b/c/d/e", "/a/b/c/d/e/", "/a/b/c/d/e/.", "/../a/b/c/d/e", "/a/b/c/d/e/../f", "/a/b/c/d/e/f/..",
		"/A/..", "/toolong/..", "/.../..", "/a/B/..", "/a/B/../..", "/A/../b", "/\xff/../a", "/a/toolong/../b", "/../A/..", "/A/../..",
		"/abcdefg/../a", strings.Repeat("/a", 1000), strings.Repeat("a", 60),
	} {
		if p, ok := impl.Normal(s); ok || p != "" {
			t.Errorf("Normal(%q) = %q, %t", s, p, ok)
		}
	}
}

func TestNormalSize(t *testing.T) {
	for size := 55; size <= 70; size++ {
		for s, want := range map[string]string{
			strings.Repeat("/", size):                      "/",
			strings.Repeat("/", size-1) + "a":              "/a",
			"/a" + strings.Repeat("/", size-2):             "/a",
			"/a/b" + strings.Repeat("/", size-7) + "/..":   "/a",
			"/abcdef" + strings.Repeat("/", size-9) + "/.": "/abcdef",
			"/a/.." + strings.Repeat("/", size-6) + "b":    "/b",
		} {
			if p, ok := impl.Normal(s); len(s) <= 60 != ok || ok && p != want || !ok && p != "" {
				t.Errorf("Normal of %d bytes, %q = %q, %t", len(s), s, p, ok)
			}
		}
	}
	for s, want := range map[string]string{
		strings.Repeat("/..", 20):                                  "/",
		strings.Repeat("/.", 30):                                   "/",
		strings.Repeat("/a/..", 12):                                "/",
		strings.Repeat("/a", 17) + strings.Repeat("/..", 8) + "//": "",
		strings.Repeat("/a", 12) + strings.Repeat("/..", 12):       "/",
		strings.Repeat("/a", 14) + strings.Repeat("/..", 10):       "/a/a/a/a",
		strings.Repeat("/a", 15) + strings.Repeat("/..", 10):       "",
	} {
		if p, ok := impl.Normal(s); len(s) > 60 || p != want || ok != (want != "") {
			t.Errorf("Normal(%q) of %d bytes = %q, %t, want %q", s, len(s), p, ok, want)
		}
	}
	if p, ok := impl.Normal(strings.Repeat("/", 1<<20)); ok || p != "" {
		t.Errorf("Normal of 1048576 bytes = %q, %t", p, ok)
	}
}

func TestNormalStays(t *testing.T) {
	stays := func(p string) {
		t.Helper()
		if again, ok := impl.Normal(p); !ok || again != p {
			t.Fatalf("Normal(%q) = %q, %t", p, again, ok)
		}
	}
	for _, p := range somePaths {
		stays(p)
	}
	everyText("/a.", 10, func(s string) {
		if p, ok := impl.Normal(s); ok {
			if !impl.PathOk(p) {
				t.Fatalf("Normal(%q) = %q is no path", s, p)
			}
			stays(p)
		}
	})
}

func TestAboveAndLast(t *testing.T) {
	for p, want := range map[string][2]string{
		"/": {"/", ""}, "/a": {"/", "a"}, "/abcdef": {"/", "abcdef"}, "/a/b": {"/a", "b"}, "/ab/cd/ef": {"/ab/cd", "ef"},
		"/a/b/c/d": {"/a/b/c", "d"}, "/abcdef/ghijkl/mnopqr/stuvwx": {"/abcdef/ghijkl/mnopqr", "stuvwx"}, "/a/a": {"/a", "a"},
	} {
		if above, last := impl.Above(p), impl.Last(p); above != want[0] || last != want[1] {
			t.Errorf("Above(%q) = %q, Last = %q", p, above, last)
		}
	}
	for _, p := range noPaths {
		if above, last := impl.Above(p), impl.Last(p); above != "" || last != "" {
			t.Errorf("Above(%q) = %q, Last = %q", p, above, last)
		}
	}
	for _, p := range somePaths[1:] {
		if got := impl.PathJoin(impl.Above(p), impl.Last(p)); got != p {
			t.Errorf("PathJoin(Above, Last) of %q = %q", p, got)
		}
	}
}

func TestWithin(t *testing.T) {
	for _, p := range somePaths {
		for _, q := range somePaths {
			want := p == q || q == "/" || strings.HasPrefix(p+"/", q+"/")
			if got := impl.Within(p, q); got != want {
				t.Errorf("Within(%q, %q) = %t", p, q, got)
			}
		}
		for i := range p {
			q := p[:i]
			if p[i] != '/' || i == 0 {
				continue
			}
			if !impl.Within(p, q) || impl.Within(q, p) {
				t.Errorf("Within(%q, %q) = %t, the other way %t", p, q, impl.Within(p, q), impl.Within(q, p))
			}
		}
	}
	for _, pair := range [][2]string{{"/ab", "/a"}, {"/a", "/ab"}, {"/a/bc", "/a/b"}, {"/b/a", "/a"}, {"/a", "/a/b"}, {"/", "/a"}} {
		if impl.Within(pair[0], pair[1]) {
			t.Errorf("Within(%q, %q) is true", pair[0], pair[1])
		}
	}
}

func TestWithinOfNoPath(t *testing.T) {
	for _, no := range noPaths {
		if impl.Within(no, no) {
			t.Errorf("Within(%q, %q) is true", no, no)
		}
		for _, p := range somePaths {
			if impl.Within(no, p) || impl.Within(p, no) {
				t.Errorf("Within of %q and %q is true", no, p)
			}
		}
	}
}

func TestPathJoin(t *testing.T) {
	for _, c := range [][3]string{
		{"/", "a", "/a"}, {"/", "abcdef", "/abcdef"}, {"/a", "b", "/a/b"}, {"/a", "a", "/a/a"}, {"/a/b/c", "d", "/a/b/c/d"},
		{"/a/b/c/d", "e", ""}, {"/", "", ""}, {"/a", "", ""}, {"/a/b/c/d", "", ""}, {"/", "/", ""}, {"/", "/a", ""}, {"/", "a/", ""},
		{"/", "a/b", ""}, {"/a", "b/c", ""}, {"/", ".", ""}, {"/", "..", ""}, {"/a", ".", ""}, {"/a", "..", ""}, {"/", "A", ""},
		{"/", "abcdefg", ""}, {"/a", "\xff", ""}, {"/a", "\u00e4", ""}, {"/a/", "b", ""}, {"//", "a", ""}, {"", "a", ""}, {"", "", ""},
		{"a", "b", ""}, {"/A", "b", ""}, {"/abcdefg", "a", ""}, {"/a/b/c/d/e", "f", ""}, {"/..", "a", ""},
	} {
		if got := impl.PathJoin(c[0], c[1]); got != c[2] {
			t.Errorf("PathJoin(%q, %q) = %q, want %q", c[0], c[1], got, c[2])
		}
	}
	for _, no := range noPaths {
		if got := impl.PathJoin(no, "a"); got != "" {
			t.Errorf("PathJoin(%q, a) = %q", no, got)
		}
	}
}

func TestPathsLeaveArguments(t *testing.T) {
	whole := []string{"ab", "cd", "spare", "room"}
	was := slices.Clone(whole)
	for size := range len(whole) + 1 {
		p := impl.PathOf(whole[:size])
		if !slices.Equal(whole, was) {
			t.Fatalf("PathOf of %d names left %q", size, whole)
		}
		for _, name := range whole[:size] {
			if shareText(p, name) {
				t.Errorf("PathOf shares memory with %q", name)
			}
		}
	}
	one := []string{"a", "B", "spare"}
	impl.PathOf(one[:2])
	if !slices.Equal(one, []string{"a", "B", "spare"}) {
		t.Errorf("PathOf of no name left %q", one)
	}
}

func TestPathsAnswerNewMemory(t *testing.T) {
	for _, p := range somePaths[1:] {
		p = strings.Clone(p)
		list := impl.Names(p)
		normal, _ := impl.Normal(p)
		for _, got := range append(slices.Clone(list), normal, impl.Above(p), impl.Last(p), impl.PathOf(list)) {
			if shareText(got, p) {
				t.Errorf("an answer %q shares memory with %q", got, p)
			}
		}
		for i, name := range list {
			for _, other := range list[:i] {
				if shareText(name, other) {
					t.Errorf("the names %q and %q share memory", name, other)
				}
			}
		}
		name := strings.Clone("new")
		for _, onto := range []string{p, "/"} {
			if got := impl.PathJoin(onto, name); got != "" && (shareText(got, onto) || shareText(got, name)) {
				t.Errorf("PathJoin onto %q shares memory", onto)
			}
		}
	}
}

func TestNamesTwiceIsNotOneList(t *testing.T) {
	first, second := impl.Names("/a/b"), impl.Names("/a/b")
	first[0] = "changed"
	if second[0] != "a" || impl.Names("/a/b")[0] != "a" {
		t.Error("two answers share memory")
	}
}
