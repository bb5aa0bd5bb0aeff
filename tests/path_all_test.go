package tests

import (
	"regexp"
	"slices"
	"strings"
	"testing"

	"loop.example/pargeting/impl"
)

// The chapter's words once more, said in another way, to hold the program against.

var (
	wholePath = regexp.MustCompile(`\A(/[a-z]{1,3}){1,3}\z`)
	wholeName = regexp.MustCompile(`\A[a-z]{1,3}\z`)
)

// namesOf are the names of a path; of the root, or of what is no path, there are none.
func namesOf(s string) []string {
	if !wholePath.MatchString(s) {
		return nil
	}
	return strings.Split(s[1:], "/")
}

func textOf(names []string) string {
	return "/" + strings.Join(names, "/")
}

func beginsWith(names, others []string) bool {
	if len(others) > len(names) {
		return false
	}
	for i, o := range others {
		if names[i] != o {
			return false
		}
	}
	return true
}

// eachText tells all texts of at most that many pieces.
func eachText(pieces []string, most int, tell func(string)) {
	tell("")
	if most == 0 {
		return
	}
	for _, p := range pieces {
		eachText(pieces, most-1, func(s string) { tell(p + s) })
	}
}

func allTexts(pieces []string, most int) []string {
	seen := map[string]bool{}
	var texts []string
	eachText(pieces, most, func(s string) {
		if !seen[s] {
			seen[s] = true
			texts = append(texts, s)
		}
	})
	return texts
}

func TestPathPartsOfAllTexts(t *testing.T) {
	for _, s := range allTexts([]string{"/", "a", "/bcd", "/e", "A", "\xff"}, 6) {
		names := namesOf(s)
		up, name := "", ""
		if n := len(names); n > 0 {
			up, name = textOf(names[:n-1]), names[n-1]
		}
		if got := impl.PathOk(s); got != (names != nil) {
			t.Fatalf("PathOk(%q) = %v", s, got)
		}
		if got := impl.PathLevels(s); got != len(names) {
			t.Fatalf("PathLevels(%q) = %d; want %d", s, got, len(names))
		}
		if got := impl.PathUp(s); got != up {
			t.Fatalf("PathUp(%q) = %q; want %q", s, got, up)
		}
		if got := impl.PathName(s); got != name {
			t.Fatalf("PathName(%q) = %q; want %q", s, got, name)
		}
		if names == nil {
			continue
		}
		if got, ok := impl.PathJoin(impl.PathUp(s), impl.PathName(s)); got != s || !ok {
			t.Fatalf("PathJoin of PathUp and PathName of %q = %q, %v", s, got, ok)
		}
	}
}

func TestPathJoinOfAllTexts(t *testing.T) {
	dirs := allTexts([]string{"/", "/a", "/ab", "c", "/B"}, 4)
	names := allTexts([]string{"/", "a", "b", "0"}, 4)
	for _, dir := range dirs {
		for _, name := range names {
			ahead := namesOf(dir)
			want, wantOk := "", false
			if (dir == "/" || ahead != nil) && wholeName.MatchString(name) && len(ahead) < 3 {
				want, wantOk = textOf(slices.Concat(ahead, []string{name})), true
			}
			got, ok := impl.PathJoin(dir, name)
			if got != want || ok != wantOk {
				t.Fatalf("PathJoin(%q, %q) = %q, %v; want %q, %v", dir, name, got, ok, want, wantOk)
			}
			if ok && (impl.PathUp(got) != dir || impl.PathName(got) != name) {
				t.Fatalf("PathJoin(%q, %q) is in %q, with the name %q", dir, name, impl.PathUp(got), impl.PathName(got))
			}
		}
	}
}

func TestPathUnderOfAllTexts(t *testing.T) {
	texts := allTexts([]string{"/", "/a", "/ab", "b", "A"}, 4)
	for _, s := range texts {
		for _, dir := range texts {
			names, ahead := namesOf(s), namesOf(dir)
			want := names != nil && (dir == "/" || ahead != nil) && len(names) > len(ahead) && beginsWith(names, ahead)
			if got := impl.PathUnder(s, dir); got != want {
				t.Fatalf("PathUnder(%q, %q) = %v; want %v", s, dir, got, want)
			}
		}
	}
}

// movedText is what PathMove is to tell of three texts with these names.
func movedText(names, old, target []string) (string, bool) {
	if names == nil || old == nil || target == nil {
		return "", false
	}
	if !beginsWith(names, old) {
		return textOf(names), true
	}
	moved := slices.Concat(target, names[len(old):])
	if len(moved) > 3 {
		return "", false
	}
	return textOf(moved), true
}

func TestPathMoveOfAllTexts(t *testing.T) {
	texts := allTexts([]string{"/a", "/ab", "/"}, 4)
	parts := map[string][]string{}
	for _, s := range texts {
		parts[s] = namesOf(s)
	}
	for _, s := range texts {
		for _, from := range texts {
			for _, to := range texts {
				want, wantOk := movedText(parts[s], parts[from], parts[to])
				if got, ok := impl.PathMove(s, from, to); got != want || ok != wantOk {
					t.Fatalf("PathMove(%q, %q, %q) = %q, %v; want %q, %v", s, from, to, got, ok, want, wantOk)
				}
			}
		}
	}
}
