package impl

import (
	"iter"
	"strings"
)

// Bounds of paths.
const (
	PathDeep = 3
	NameMost = 3
)

// pathRoot is what all paths are in, and no path itself.
const pathRoot = "/"

// pathStroke stands ahead of each name of a path.
const pathStroke = '/'

// pathText is any text that is asked as a path.
type pathText string

// PathOk says whether a text is a path.
func PathOk(s string) bool {
	return pathText(s).ok()
}

// PathLevels is how many names a path has.
func PathLevels(s string) int {
	p := pathText(s)
	if !p.ok() {
		return 0
	}
	return p.levels()
}

// PathUp is the path that a path is in.
func PathUp(s string) string {
	p := pathText(s)
	if !p.ok() {
		return ""
	}
	stroke := p.lastStroke()
	if stroke == 0 {
		return pathRoot
	}
	return p[:stroke].fresh()
}

// PathName is the last name of a path.
func PathName(s string) string {
	p := pathText(s)
	if !p.ok() {
		return ""
	}
	return p[p.lastStroke()+1:].fresh()
}

// PathJoin is a path with one name more.
func PathJoin(dir string, name string) (string, bool) {
	stem, ok := pathText(dir).stem()
	// A text such as "b/c" would make a path too, so the name is asked by itself.
	if !ok || !nameOk(name) {
		return "", false
	}
	return pathText(string(stem) + string(pathStroke) + name).ifOk()
}

// PathUnder says whether a path is below another one.
func PathUnder(s string, dir string) bool {
	p := pathText(s)
	stem, ok := pathText(dir).stem()
	return ok && p.ok() && p.below(stem)
}

// PathMove is where a path is when another one is moved.
func PathMove(s string, from string, to string) (string, bool) {
	p, old, target := pathText(s), pathText(from), pathText(to)
	if !p.ok() || !old.ok() || !target.ok() {
		return "", false
	}
	if p != old && !p.below(old) {
		return p.fresh(), true
	}
	return (target + p[len(old):]).ifOk()
}

// names yields what stands between the strokes of a text, each with the place of the stroke ahead of it.
// Where no stroke is ahead that place is -1, so that no such text passes for a path.
func (p pathText) names() iter.Seq2[int, string] {
	return func(yield func(int, string) bool) {
		stroke := -1
		for i, r := range p {
			if r != pathStroke {
				continue
			}
			if i > 0 && !yield(stroke, string(p[stroke+1:i])) {
				return
			}
			stroke = i
		}
		yield(stroke, string(p[stroke+1:]))
	}
}

func (p pathText) ok() bool {
	levels := 0
	for stroke, name := range p.names() {
		levels++
		if stroke < 0 || levels > PathDeep || !nameOk(name) {
			return false
		}
	}
	return true
}

func (p pathText) levels() int {
	levels := 0
	for range p.names() {
		levels++
	}
	return levels
}

// lastStroke is the place of the stroke ahead of the last name.
func (p pathText) lastStroke() int {
	last := -1
	for stroke := range p.names() {
		last = stroke
	}
	return last
}

// stem is what all that is below a path or the root begins with: of the root nothing,
// as its stroke is already the one ahead of the first name.
func (p pathText) stem() (pathText, bool) {
	if p == pathRoot {
		return "", true
	}
	return p, p.ok()
}

// below takes the stroke behind the stem along, as a name may begin another one.
func (p pathText) below(stem pathText) bool {
	return strings.HasPrefix(string(p), string(stem)+string(pathStroke))
}

func (p pathText) ifOk() (string, bool) {
	if !p.ok() {
		return "", false
	}
	return p.fresh(), true
}

// fresh copies, as a piece of a text, or a text with nothing added, would share its memory with an argument.
func (p pathText) fresh() string {
	return strings.Clone(string(p))
}

func nameOk(name string) bool {
	// Letters are one byte each, so bytes may be counted, and a long text is not gone through.
	if len(name) < 1 || len(name) > NameMost {
		return false
	}
	for _, r := range name {
		if r < 'a' || r > 'z' {
			return false
		}
	}
	return true
}
