package tests

import (
	"strings"
	"testing"
	"unsafe"

	"loop.example/pargeting/impl"
)

// goodPath is a path with what the document says of it.
type goodPath struct {
	path   string
	levels int
	up     string
	name   string
}

func goodPaths() []goodPath {
	return []goodPath{
		{"/a", 1, "/", "a"},
		{"/z", 1, "/", "z"},
		{"/ab", 1, "/", "ab"},
		{"/abc", 1, "/", "abc"},
		{"/a/b", 2, "/a", "b"},
		{"/a/a", 2, "/a", "a"},
		{"/ab/c", 2, "/ab", "c"},
		{"/a/bc", 2, "/a", "bc"},
		{"/abc/xyz", 2, "/abc", "xyz"},
		{"/a/b/c", 3, "/a/b", "c"},
		{"/a/a/a", 3, "/a/a", "a"},
		{"/ab/c/def", 3, "/ab/c", "def"},
		{"/zzz/zzz/zzz", 3, "/zzz/zzz", "zzz"},
	}
}

// badPaths are texts that are no paths; the root, which is none either, is asked by itself.
func badPaths() []string {
	return []string{
		"", " ", "a", "abc", "a/", "a/b", "ab/c/d", "aa/b/c",
		"/a/", "/a/b/", "/a/b/c/", "/abc/", "//", "///", "//a", "/a//b", "/a/b//c", "/a//",
		"/abcd", "/abcd/b", "/a/bcde", "/a/b/cdef", "/a/b/c/d", "/zzz/zzz/zzz/z", "/zzz/zzz/zzzz",
		"/A", "/Ab", "/aB", "/a/B", "/Z", "/0", "/a1", "/a/9", "/a/b/c0",
		" /a", "/a ", "/ a", "/a b", "/a/ b", "/ ", "/a\n", "\n/a", "/a\t", "/a\x00", "\x00/a", "/\x00",
		"/`", "/{", "/@", "/[", "/.", "/..", "/a/..", "/./a", "/a/.", "/-", "/_", "\\a", "/a\\b", "/*",
		"/é", "/ä", "/aé", "/日", "/a/日本", "／a", "/ａ", "/ſ", "/\u212a",
		"\xff", "/\xff", "/a\xff", "\xff/a", "/a/\xff", "/a\xff/b", "/\xc3", "/a/\xe2\x82", "/\xed\xa0\x80", "/a\x80", "/\xc1\xa1", "/\xc0\xaf",
		"\xafa", "/\xe1", "/\x61\xcc\x81", "\ufffd", "/\ufffd",
		strings.Repeat("a", 100000), strings.Repeat("/", 100000), "/" + strings.Repeat("a", 100000),
		strings.Repeat("/a", 50000), "/a/b/" + strings.Repeat("c", 100000), strings.Repeat("\xff", 100000), strings.Repeat("日", 50000),
	}
}

// badNames are texts that are no names.
func badNames() []string {
	return []string{
		"", " ", "/", "//", "/a", "a/", "a/b", "/a/b", "abcd", "aaaa", "A", "aB", "Z", "0", "a1", "9", " a", "a ", "a b",
		".", "..", "-", "_", "`", "{", "\x00", "a\x00", "\n", "a\n", "é", "aé", "日", "ａ", "\xff", "a\xff", "\xc3", "\xe2\x82", "\ufffd",
		strings.Repeat("a", 100000), strings.Repeat("/", 100000), strings.Repeat("\xff", 100000),
	}
}

// short keeps what a failed test tells readable.
func short(s string) string {
	if len(s) > 40 {
		return s[:40] + ".."
	}
	return s
}

func wantJoin(t *testing.T, dir, name, want string, wantOk bool) {
	t.Helper()
	if got, ok := impl.PathJoin(dir, name); got != want || ok != wantOk {
		t.Errorf("PathJoin(%q, %q) = %q, %v; want %q, %v", short(dir), short(name), short(got), ok, want, wantOk)
	}
}

func wantUnder(t *testing.T, s, dir string, want bool) {
	t.Helper()
	if got := impl.PathUnder(s, dir); got != want {
		t.Errorf("PathUnder(%q, %q) = %v; want %v", short(s), short(dir), got, want)
	}
}

func wantMove(t *testing.T, s, from, to, want string, wantOk bool) {
	t.Helper()
	if got, ok := impl.PathMove(s, from, to); got != want || ok != wantOk {
		t.Errorf("PathMove(%q, %q, %q) = %q, %v; want %q, %v", short(s), short(from), short(to), short(got), ok, want, wantOk)
	}
}

func TestPathBounds(t *testing.T) {
	if impl.PathDeep != 3 || impl.NameMost != 3 {
		t.Errorf("PathDeep %d, NameMost %d; want 3, 3", impl.PathDeep, impl.NameMost)
	}
}

func TestPathPartsOfPaths(t *testing.T) {
	for _, g := range goodPaths() {
		if !impl.PathOk(g.path) {
			t.Errorf("PathOk(%q) = false", g.path)
		}
		if got := impl.PathLevels(g.path); got != g.levels {
			t.Errorf("PathLevels(%q) = %d; want %d", g.path, got, g.levels)
		}
		if got := impl.PathUp(g.path); got != g.up {
			t.Errorf("PathUp(%q) = %q; want %q", g.path, got, g.up)
		}
		if got := impl.PathName(g.path); got != g.name {
			t.Errorf("PathName(%q) = %q; want %q", g.path, got, g.name)
		}
		wantJoin(t, g.up, g.name, g.path, true)
	}
}

func TestPathPartsOfNoPaths(t *testing.T) {
	for _, s := range append(badPaths(), "/") {
		if impl.PathOk(s) {
			t.Errorf("PathOk(%q) = true", short(s))
		}
		if got := impl.PathLevels(s); got != 0 {
			t.Errorf("PathLevels(%q) = %d; want 0", short(s), got)
		}
		if got := impl.PathUp(s); got != "" {
			t.Errorf("PathUp(%q) = %q; want the empty text", short(s), short(got))
		}
		if got := impl.PathName(s); got != "" {
			t.Errorf("PathName(%q) = %q; want the empty text", short(s), short(got))
		}
	}
}

// Each byte, at each place of a path and as a path's only letter.
func TestPathEachByte(t *testing.T) {
	for b := 0; b < 256; b++ {
		letter := 'a' <= b && b <= 'z'
		c := string([]byte{byte(b)})
		for _, s := range []string{"/" + c, "/" + c + "b", "/a" + c, "/a/" + c, "/a/b/c" + c, "/a" + c + "c/b"} {
			if got := impl.PathOk(s); got != letter && !(b == '/' && s == "/a/c/b") {
				t.Errorf("PathOk(%q) = %v", s, got)
			}
		}
		if got := impl.PathOk(c + "a"); got != (b == '/') {
			t.Errorf("PathOk(%q) = %v", c+"a", got)
		}
		want := ""
		if letter {
			want = "/a/" + c
		}
		wantJoin(t, "/a", c, want, letter)
	}
}

func TestPathNameMost(t *testing.T) {
	most := strings.Repeat("m", impl.NameMost)
	for _, ahead := range []string{"", "/a", "/a/b"} {
		if !impl.PathOk(ahead+"/"+most) || impl.PathOk(ahead+"/"+most+"m") {
			t.Errorf("NameMost letters, and one more, behind %q", ahead)
		}
	}
	wantJoin(t, "/", most, "/"+most, true)
	wantJoin(t, "/", most+"m", "", false)
	wantJoin(t, "/a", most, "/a/"+most, true)
	wantJoin(t, "/a", most+"m", "", false)
}

func TestPathDeepest(t *testing.T) {
	deepest := strings.Repeat("/d", impl.PathDeep)
	if !impl.PathOk(deepest) || impl.PathLevels(deepest) != impl.PathDeep || impl.PathOk(deepest+"/d") {
		t.Error("PathDeep names, and one more")
	}
	wantJoin(t, deepest[2:], "d", deepest, true)
	wantJoin(t, deepest, "d", "", false)
}

func TestPathJoin(t *testing.T) {
	wantJoin(t, "/", "a", "/a", true)
	wantJoin(t, "/", "abc", "/abc", true)
	wantJoin(t, "/a", "b", "/a/b", true)
	wantJoin(t, "/a", "a", "/a/a", true)
	wantJoin(t, "/ab/cd", "efg", "/ab/cd/efg", true)
	wantJoin(t, "/abc/abc", "abc", "/abc/abc/abc", true)
	wantJoin(t, "/a/b/c", "d", "", false)
	wantJoin(t, "/a/b/c", "", "", false)
}

func TestPathJoinWrong(t *testing.T) {
	for _, dir := range badPaths() {
		wantJoin(t, dir, "a", "", false)
		wantJoin(t, dir, "", "", false)
	}
	for _, name := range badNames() {
		wantJoin(t, "/", name, "", false)
		wantJoin(t, "/a", name, "", false)
		wantJoin(t, "/a/b", name, "", false)
		wantJoin(t, "/a/b/c", name, "", false)
		wantJoin(t, "", name, "", false)
	}
}

func TestPathUnder(t *testing.T) {
	for _, g := range goodPaths() {
		wantUnder(t, g.path, "/", true)
		wantUnder(t, g.path, g.path, false)
		wantUnder(t, g.path, g.up, true)
		wantUnder(t, g.up, g.path, false)
	}
	wantUnder(t, "/a/b/c", "/a", true)
	wantUnder(t, "/a/b/c", "/a/b", true)
	wantUnder(t, "/a/b/c", "/a/c", false)
	wantUnder(t, "/a/b/c", "/b", false)
	wantUnder(t, "/a/b/c", "/b/c", false)
	wantUnder(t, "/b/a", "/a", false)
	wantUnder(t, "/ab", "/a", false)
	wantUnder(t, "/a", "/ab", false)
	wantUnder(t, "/ab/c", "/a", false)
	wantUnder(t, "/abc/b", "/ab", false)
	wantUnder(t, "/a/bc", "/a/b", false)
	wantUnder(t, "/a/bc/d", "/a/b", false)
	wantUnder(t, "/", "/", false)
	wantUnder(t, "/", "/a", false)
}

func TestPathUnderWrong(t *testing.T) {
	for _, bad := range badPaths() {
		wantUnder(t, bad, "/", false)
		wantUnder(t, bad, "/a", false)
		wantUnder(t, bad, "/abc", false)
		wantUnder(t, "/a/b/c", bad, false)
		wantUnder(t, "/abc/b", bad, false)
		wantUnder(t, bad, bad, false)
		// Wrong as it is, it begins with the other one.
		wantUnder(t, bad+"/a", bad, false)
	}
}

func TestPathMove(t *testing.T) {
	for _, g := range goodPaths() {
		wantMove(t, g.path, g.path, "/x", "/x", true)
		wantMove(t, g.path, g.path, "/x/y/z", "/x/y/z", true)
		wantMove(t, g.path, g.path, g.path, g.path, true)
		wantMove(t, g.path, "/xyz", "/w", g.path, true)
	}
	wantMove(t, "/a/b", "/a", "/d", "/d/b", true)
	wantMove(t, "/a/b/c", "/a", "/d", "/d/b/c", true)
	wantMove(t, "/a/b/c", "/a/b", "/d", "/d/c", true)
	wantMove(t, "/a/b/c", "/a/b", "/d/e", "/d/e/c", true)
	wantMove(t, "/a/b/c", "/a", "/xyz", "/xyz/b/c", true)
	wantMove(t, "/abc/b", "/abc", "/d", "/d/b", true)
	wantMove(t, "/a/a/a", "/a", "/b", "/b/a/a", true)
	wantMove(t, "/a/b", "/a", "/a", "/a/b", true)
	wantMove(t, "/a/b", "/a", "/a/c", "/a/c/b", true)
	wantMove(t, "/a", "/a", "/a/b", "/a/b", true)
}

func TestPathMoveOfOthers(t *testing.T) {
	wantMove(t, "/ab", "/a", "/d", "/ab", true)
	wantMove(t, "/ab/c", "/a", "/d", "/ab/c", true)
	wantMove(t, "/a/bc", "/a/b", "/d", "/a/bc", true)
	wantMove(t, "/a/bc/d", "/a/b", "/d", "/a/bc/d", true)
	wantMove(t, "/a", "/ab", "/d", "/a", true)
	wantMove(t, "/a", "/a/b", "/d", "/a", true)
	wantMove(t, "/a/b", "/a/b/c", "/d", "/a/b", true)
	wantMove(t, "/b/a", "/a", "/d", "/b/a", true)
	wantMove(t, "/d", "/a", "/d", "/d", true)
	wantMove(t, "/d/b", "/a", "/d", "/d/b", true)
	// Too deep is only what would be moved.
	wantMove(t, "/x/y/z", "/a", "/d/e/f", "/x/y/z", true)
}

func TestPathMoveTooDeep(t *testing.T) {
	wantMove(t, "/a/b", "/a", "/d/e", "/d/e/b", true)
	wantMove(t, "/a/b", "/a", "/d/e/f", "", false)
	wantMove(t, "/a/b/c", "/a", "/d/e", "", false)
	wantMove(t, "/a/b/c", "/a", "/d/e/f", "", false)
	wantMove(t, "/a/b/c", "/a/b", "/d/e/f", "", false)
	wantMove(t, "/a/b/c", "/a", "/a/x", "", false)
	wantMove(t, "/a/b/c", "/a/b/c", "/d/e/f", "/d/e/f", true)
}

func TestPathMoveWrong(t *testing.T) {
	for _, bad := range append(badPaths(), "/") {
		wantMove(t, bad, "/a", "/d", "", false)
		wantMove(t, "/a", bad, "/d", "", false)
		wantMove(t, "/a/b", bad, "/d", "", false)
		wantMove(t, "/a", "/a", bad, "", false)
		wantMove(t, "/a/b", "/a", bad, "", false)
		// Where it is moved to is asked also where nothing is moved.
		wantMove(t, "/c", "/a", bad, "", false)
		wantMove(t, bad, bad, "/d", "", false)
		wantMove(t, bad, bad, bad, "", false)
	}
}

// sharesMemory says whether two texts lie, in part, on the same bytes.
func sharesMemory(a, b string) bool {
	if a == "" || b == "" {
		return false
	}
	x, y := uintptr(unsafe.Pointer(unsafe.StringData(a))), uintptr(unsafe.Pointer(unsafe.StringData(b)))
	return x < y+uintptr(len(b)) && y < x+uintptr(len(a))
}

func TestPathAnswersAreNewMemory(t *testing.T) {
	a, ab, b := strings.Clone("/a"), strings.Clone("/a/b"), strings.Clone("b")
	fresh := func(what, answer string, arguments ...string) {
		for _, x := range arguments {
			if sharesMemory(answer, x) {
				t.Errorf("%s: %q shares memory with %q", what, answer, x)
			}
		}
	}
	fresh("PathUp", impl.PathUp(a), a)
	fresh("PathUp", impl.PathUp(ab), ab)
	fresh("PathName", impl.PathName(ab), ab)
	joined, _ := impl.PathJoin(a, b)
	fresh("PathJoin", joined, a, b)
	for _, m := range [][3]string{{a, a, ab}, {ab, a, a}, {a, ab, ab}} {
		moved, _ := impl.PathMove(m[0], m[1], m[2])
		fresh("PathMove", moved, m[0], m[1], m[2])
	}
}
