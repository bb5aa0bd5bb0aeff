package tests

import (
	"maps"
	"regexp"
	"slices"
	"testing"

	"loop.example/pargeting/impl"
)

// The chapter's words once more, said of a map of paths, to hold the program against.

var wholeData = regexp.MustCompile(`\A[a-z0-9]{0,6}\z`)

// spread is a tree by its paths; the root is not among them.
type spread map[string]impl.Ent

func spreadOf(t []impl.Ent) (spread, bool) {
	s := spread{}
	for i, e := range t {
		if i >= 16 || !wholePath.MatchString(e.Path) || !wholeData.MatchString(e.Data) || e.Dir && e.Data != "" {
			return nil, false
		}
		if i > 0 && t[i-1].Path >= e.Path {
			return nil, false
		}
		s[e.Path] = e
	}
	for path := range s {
		if s.holder(path) != 0 {
			return nil, false
		}
	}
	return s, true
}

// upOf is the path of all names but the last.
func upOf(path string) string {
	names := namesOf(path)
	return textOf(names[:len(names)-1])
}

// holder is the code of what a path would be in: 0 of a directory, or else DoNone or DoNotDir.
func (s spread) holder(path string) int {
	up := upOf(path)
	e, there := s[up]
	switch {
	case up == "/":
		return 0
	case !there:
		return 2
	case !e.Dir:
		return 3
	}
	return 0
}

func (s spread) list() []impl.Ent {
	var t []impl.Ent
	for _, path := range slices.Sorted(maps.Keys(s)) {
		t = append(t, s[path])
	}
	return t
}

func opIsRead(op impl.Op) bool {
	if !wholePath.MatchString(op.Path) {
		return false
	}
	switch op.Kind {
	case 1, 3, 4:
		return op.To == "" && op.Data == ""
	case 2:
		return op.To == "" && wholeData.MatchString(op.Data)
	case 5:
		return wholePath.MatchString(op.To) && op.Data == ""
	}
	return false
}

// do is the chapter's table, a kind a function.
func (s spread) do(op impl.Op) (spread, int) {
	if !opIsRead(op) {
		return s, 1
	}
	return []func(impl.Op) (spread, int){s.doMake, s.doPut, s.doRm, s.doRmdir, s.doMove}[op.Kind-1](op)
}

func (s spread) with(e impl.Ent) spread {
	c := maps.Clone(s)
	c[e.Path] = e
	return c
}

func (s spread) without(path string) spread {
	c := maps.Clone(s)
	delete(c, path)
	return c
}

func (s spread) doMake(op impl.Op) (spread, int) {
	_, there := s[op.Path]
	switch {
	case s.holder(op.Path) != 0:
		return s, s.holder(op.Path)
	case there:
		return s, 4
	case len(s) == 16:
		return s, 8
	}
	return s.with(dirAt(op.Path)), 0
}

func (s spread) doPut(op impl.Op) (spread, int) {
	old, there := s[op.Path]
	switch {
	case s.holder(op.Path) != 0:
		return s, s.holder(op.Path)
	case there && old.Dir:
		return s, 5
	case !there && len(s) == 16:
		return s, 8
	}
	return s.with(fileAt(op.Path, op.Data)), 0
}

func (s spread) doRm(op impl.Op) (spread, int) {
	old, there := s[op.Path]
	switch {
	case !there:
		return s, 2
	case old.Dir:
		return s, 5
	}
	return s.without(op.Path), 0
}

func (s spread) doRmdir(op impl.Op) (spread, int) {
	old, there := s[op.Path]
	switch {
	case !there:
		return s, 2
	case !old.Dir:
		return s, 3
	}
	for path := range s {
		if upOf(path) == op.Path {
			return s, 6
		}
	}
	return s.without(op.Path), 0
}

func (s spread) doMove(op impl.Op) (spread, int) {
	_, there := s[op.Path]
	_, onTo := s[op.To]
	switch {
	case !there:
		return s, 2
	case s.holder(op.To) != 0:
		return s, s.holder(op.To)
	case onTo:
		return s, 4
	case beginsWith(namesOf(op.To), namesOf(op.Path)):
		return s, 7
	}
	moved := spread{}
	for path, e := range s {
		at, ok := movedText(namesOf(path), namesOf(op.Path), namesOf(op.To))
		if !ok {
			return s, 8
		}
		moved[at] = impl.Ent{Path: at, Dir: e.Dir, Data: e.Data}
	}
	return moved, 0
}

// get is what the spread has at a path or the root, and its code: 0 of a directory.
func (s spread) get(path string) (impl.Ent, bool) {
	if path == "/" {
		return dirAt("/"), true
	}
	e, there := s[path]
	return e, there
}

func (s spread) namesIn(path string) ([]string, int) {
	if path != "/" && !wholePath.MatchString(path) {
		return nil, 1
	}
	e, there := s.get(path)
	switch {
	case !there:
		return nil, 2
	case !e.Dir:
		return nil, 3
	}
	var names []string
	for _, below := range slices.Sorted(maps.Keys(s)) {
		if upOf(below) == path {
			names = append(names, namesOf(below)[len(namesOf(path))])
		}
	}
	return names, 0
}

func (s spread) turned(other spread) []string {
	paths := map[string]bool{}
	for path := range s {
		paths[path] = true
	}
	for path := range other {
		paths[path] = true
	}
	maps.DeleteFunc(paths, func(path string, _ bool) bool {
		a, there := s[path]
		b, beside := other[path]
		return there && beside && a == b
	})
	return slices.Sorted(maps.Keys(paths))
}

// asTheTableSays holds TreeDo against the table, and what it told against being a tree and what it turned.
func asTheTableSays(t *testing.T, tree []impl.Ent, op impl.Op) ([]impl.Ent, int) {
	t.Helper()
	s, ok := spreadOf(tree)
	if !ok {
		t.Fatalf("%v is no tree", tree)
	}
	done, wantCode := s.do(op)
	got, code := treeDo(t, tree, op)
	if !slices.Equal(got, done.list()) || code != wantCode {
		t.Fatalf("TreeDo(%v, %v) = %v, %d; want %v, %d", tree, op, got, code, done.list(), wantCode)
	}
	if !impl.TreeOk(got) {
		t.Fatalf("TreeDo(%v, %v) = %v, which is no tree", tree, op, got)
	}
	if turned := treeTurned(t, tree, got); !slices.Equal(turned, s.turned(done)) {
		t.Fatalf("TreeTurned(%v, %v) = %q; want %q", tree, got, turned, s.turned(done))
	}
	return got, code
}

// treesOf tells all trees with these names at each level: of each name nothing, a file, or a directory with all that may be in it.
func treesOf(up string, levels [][]string) [][]impl.Ent {
	trees := [][]impl.Ent{nil}
	if len(levels) == 0 {
		return trees
	}
	for _, name := range levels[0] {
		path := up + "/" + name
		at := [][]impl.Ent{nil, treeWith(fileAt(path, "x"))}
		for _, below := range treesOf(path, levels[1:]) {
			at = append(at, slices.Concat(treeWith(dirAt(path)), below))
		}
		var more [][]impl.Ent
		for _, ahead := range trees {
			for _, here := range at {
				more = append(more, slices.Concat(ahead, here))
			}
		}
		trees = more
	}
	return trees
}

func someNames() [][]string {
	return [][]string{{"a", "ab"}, {"a", "b"}, {"c"}}
}

func pathsOf(up string, levels [][]string) []string {
	if len(levels) == 0 {
		return nil
	}
	var paths []string
	for _, name := range levels[0] {
		paths = append(paths, up+"/"+name)
		paths = append(paths, pathsOf(up+"/"+name, levels[1:])...)
	}
	return paths
}

func opsAt(paths []string) []impl.Op {
	var ops []impl.Op
	for _, path := range paths {
		ops = append(ops, makeOp(path), putOp(path, "x"), putOp(path, ""), rmOp(path), rmdirOp(path))
		for _, to := range paths {
			ops = append(ops, moveOp(path, to))
		}
	}
	return ops
}

func TestTreeDoToAllSmallTrees(t *testing.T) {
	trees, ops := treesOf("", someNames()), opsAt(pathsOf("", someNames()))
	seen := map[int]int{}
	for _, tree := range trees {
		for _, op := range ops {
			_, code := asTheTableSays(t, tree, op)
			seen[op.Kind*10+code]++
		}
	}
	// Each code of each kind has come, but those that ask for more than these trees have.
	for _, k := range []int{10, 12, 13, 14, 20, 22, 23, 25, 30, 32, 35, 40, 42, 43, 46, 50, 52, 53, 54, 57, 58} {
		if seen[k] == 0 {
			t.Errorf("Kind %d has not told %d", k/10, k%10)
		}
	}
}

func TestTreeGetAndListOfAllSmallTrees(t *testing.T) {
	paths := append(pathsOf("", someNames()), "/", "", "a", "/A", "/a/", "/q", "/a/b/c/d")
	for _, tree := range treesOf("", someNames()) {
		s, ok := spreadOf(tree)
		if !ok || !treeOk(t, tree) {
			t.Fatalf("%v: TreeOk tells %v", tree, impl.TreeOk(tree))
		}
		for _, path := range paths {
			want, wantThere := s.get(path)
			if got, there := treeGet(t, tree, path); got != want || there != wantThere {
				t.Fatalf("TreeGet(%v, %q) = %v, %v; want %v, %v", tree, path, got, there, want, wantThere)
			}
			wantNames, wantCode := s.namesIn(path)
			if got, code := treeList(t, tree, path); !slices.Equal(got, wantNames) || code != wantCode {
				t.Fatalf("TreeList(%v, %q) = %q, %d; want %q, %d", tree, path, got, code, wantNames, wantCode)
			}
		}
	}
}

func TestTreeTurnedOfManyPairs(t *testing.T) {
	trees := treesOf("", someNames())
	for i := 0; i < len(trees); i += 7 {
		a, _ := spreadOf(trees[i])
		for j := 0; j < len(trees); j += 5 {
			b, _ := spreadOf(trees[j])
			if got, want := treeTurned(t, trees[i], trees[j]), a.turned(b); !slices.Equal(got, want) {
				t.Fatalf("TreeTurned(%v, %v) = %q; want %q", trees[i], trees[j], got, want)
			}
			if got := treeSame(t, trees[i], trees[j]); got != (i == j) {
				t.Fatalf("TreeSame(%v, %v) = %v", trees[i], trees[j], got)
			}
		}
	}
}

// All lists of at most three of these, most of them no trees.
func TestTreeOkOfAllShortLists(t *testing.T) {
	var ents []impl.Ent
	for _, path := range []string{"", "/", "/a", "/a/b", "/a/b/c", "/ab", "/b", "/A"} {
		for _, data := range []string{"", "x", "!"} {
			ents = append(ents, impl.Ent{Path: path, Data: data}, impl.Ent{Path: path, Dir: true, Data: data})
		}
	}
	check := func(list []impl.Ent) {
		t.Helper()
		s, want := spreadOf(list)
		if got := impl.TreeOk(list); got != want {
			t.Fatalf("TreeOk(%v) = %v", list, got)
		}
		e, there := impl.TreeGet(list, "/")
		if there != want || e.Dir != want {
			t.Fatalf("TreeGet(%v, /) = %v, %v", list, e, there)
		}
		wantNames, wantCode := s.namesIn("/")
		if !want {
			wantNames, wantCode = nil, 1
		}
		if names, code := impl.TreeList(list, "/"); !slices.Equal(names, wantNames) || code != wantCode {
			t.Fatalf("TreeList(%v, /) = %q, %d; want %q, %d", list, names, code, wantNames, wantCode)
		}
		if !want {
			if done, code := impl.TreeDo(list, makeOp("/q")); len(done) != 0 || code != 1 {
				t.Fatalf("TreeDo(%v) = %v, %d", list, done, code)
			}
		}
	}
	for _, a := range ents {
		check(treeWith(a))
		for _, b := range ents {
			check(treeWith(a, b))
			for _, c := range ents {
				check(treeWith(a, b, c))
			}
		}
	}
}

// A long way from nothing on, to trees that are full and back; the steps are chosen by a fixed rule.
func TestTreeDoOnALongWay(t *testing.T) {
	state := uint32(1)
	pick := func(n int) int {
		state = state*1664525 + 1013904223
		return int(state>>16) % n
	}
	paths := append(pathsOf("", [][]string{{"a", "aa", "ab", "b"}, {"a", "ab", "b"}, {"a", "z"}}), "/a/a/a/a", "/A", "/", "")
	datas := []string{"", "x", "y1", "abc123", "abc1234", "!"}
	var tree []impl.Ent
	room := 0
	for range 30000 {
		op := impl.Op{Kind: pick(7), Path: paths[pick(len(paths))]}
		// Making comes more often than taking away, so that the tree gets full.
		if op.Kind == impl.OpRm && pick(3) > 0 {
			op.Kind = impl.OpPut
		}
		if op.Kind == impl.OpMove || pick(20) == 0 {
			op.To = paths[pick(len(paths))]
		}
		if op.Kind == impl.OpPut || pick(20) == 0 {
			op.Data = datas[pick(len(datas))]
		}
		var code int
		tree, code = asTheTableSays(t, tree, op)
		if code == impl.DoRoom && op.Kind != impl.OpMove {
			room++
		}
	}
	if room == 0 {
		t.Error("the tree was never full")
	}
}
