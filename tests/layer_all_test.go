package tests

import (
	"maps"
	"slices"
	"strings"
	"testing"

	"loop.example/pargeting/impl"
)

// The chapter's words once more, said of a map of paths, to hold the program against.

// sheet is a layer by its paths.
type sheet map[string]impl.Mark

func sheetOf(l []impl.Mark) (sheet, bool) {
	s := sheet{}
	for i, m := range l {
		if i >= 32 || m.Kind < 1 || m.Kind > 4 || !wholePath.MatchString(m.Path) || !wholeData.MatchString(m.Data) || m.Kind != 1 && m.Data != "" {
			return nil, false
		}
		if i > 0 && l[i-1].Path >= m.Path {
			return nil, false
		}
		s[m.Path] = m
	}
	for path, m := range s {
		up := upOf(path)
		if in, there := s[up]; up != "/" && (!there || in.Kind != 2 && in.Kind != 4) {
			return nil, false
		}
		if s.belowBare(path) && m.Kind != 1 && m.Kind != 2 {
			return nil, false
		}
	}
	return s, true
}

func (s sheet) belowBare(path string) bool {
	for at, m := range s {
		if m.Kind == 4 && strings.HasPrefix(path, at+"/") {
			return true
		}
	}
	return false
}

func (s sheet) hides(path string) bool {
	if !wholePath.MatchString(path) {
		return false
	}
	for at, m := range s {
		if m.Kind != 2 && (at == path || strings.HasPrefix(path, at+"/")) {
			return true
		}
	}
	return false
}

func (s sheet) list() []impl.Mark {
	var l []impl.Mark
	for _, path := range slices.Sorted(maps.Keys(s)) {
		l = append(l, s[path])
	}
	return l
}

func (s sheet) on(tree spread) ([]impl.Ent, bool) {
	seen := spread{}
	for path, e := range tree {
		if !s.hides(path) {
			seen[path] = e
		}
	}
	for path, m := range s {
		switch m.Kind {
		case 1:
			seen[path] = fileAt(path, m.Data)
		case 2, 4:
			seen[path] = dirAt(path)
		}
	}
	if len(seen) > 16 {
		return nil, false
	}
	return seen.list(), true
}

func (s sheet) join(lower sheet) ([]impl.Mark, bool) {
	both := sheet{}
	for path, m := range lower {
		if _, there := s[path]; !there && !s.hides(path) {
			both[path] = m
		}
	}
	for path, m := range s {
		if in, there := lower[path]; m.Kind == 2 && there && in.Kind != 2 {
			m.Kind = 4
		}
		both[path] = m
	}
	joined := sheet{}
	for path, m := range both {
		if both.belowBare(path) && m.Kind == 3 {
			continue
		}
		if both.belowBare(path) && m.Kind == 4 {
			m.Kind = 2
		}
		joined[path] = m
	}
	if len(joined) > 32 {
		return nil, false
	}
	return joined.list(), true
}

func diffOf(from, to spread) []impl.Mark {
	s := sheet{}
	for _, path := range from.turned(to) {
		e, there := to[path]
		up := upOf(path)
		switch {
		case there && e.Dir:
			s[path] = dirMark(path)
		case there:
			s[path] = fileMark(path, e.Data)
		case up == "/" || to[up].Dir:
			s[path] = goneMark(path)
		}
	}
	for _, path := range slices.Collect(maps.Keys(s)) {
		for up := upOf(path); up != "/"; up = upOf(up) {
			if _, there := s[up]; !there {
				s[up] = dirMark(up)
			}
		}
	}
	return s.list()
}

func mustSheet(t *testing.T, l []impl.Mark) sheet {
	t.Helper()
	s, ok := sheetOf(l)
	if !ok {
		t.Fatalf("%v is no layer", l)
	}
	return s
}

func mustSpread(t *testing.T, tree []impl.Ent) spread {
	t.Helper()
	s, ok := spreadOf(tree)
	if !ok {
		t.Fatalf("%v is no tree", tree)
	}
	return s
}

// layersOf tells all layers with these names at each level, and files with that data: of each name nothing, and each kind with all that may be in it.
func layersOf(up string, levels [][]string, data string, inBare bool) [][]impl.Mark {
	layers := [][]impl.Mark{nil}
	if len(levels) == 0 {
		return layers
	}
	for _, name := range levels[0] {
		path := up + "/" + name
		at := [][]impl.Mark{nil, layerWith(fileMark(path, data))}
		for _, below := range layersOf(path, levels[1:], data, inBare) {
			at = append(at, slices.Concat(layerWith(dirMark(path)), below))
		}
		if !inBare {
			at = append(at, layerWith(goneMark(path)))
			for _, below := range layersOf(path, levels[1:], data, true) {
				at = append(at, slices.Concat(layerWith(bareMark(path)), below))
			}
		}
		var more [][]impl.Mark
		for _, ahead := range layers {
			for _, here := range at {
				more = append(more, slices.Concat(ahead, here))
			}
		}
		layers = more
	}
	return layers
}

// withData is the tree with other data in all files.
func withData(tree []impl.Ent, data string) []impl.Ent {
	t := slices.Clone(tree)
	for i := range t {
		if !t[i].Dir {
			t[i].Data = data
		}
	}
	return t
}

func TestLayerOkAndHidesOfAllSmallLayers(t *testing.T) {
	paths := append(pathsOf("", [][]string{{"a", "ab", "b"}, {"a", "b", "bc"}, {"c", "cd"}}), "/", "", "a", "/A", "/a/", "/a/b/c/d")
	layers := layersOf("", someNames()[:2], "x", false)
	layers = append(layers, layersOf("", [][]string{{"a"}, {"b"}, {"c", "cd"}}, "", false)...)
	for _, l := range layers {
		s := mustSheet(t, l)
		if !layerOk(t, l) {
			t.Fatalf("LayerOk(%v) = false", l)
		}
		for _, path := range paths {
			if got := layerHides(t, l, path); got != s.hides(path) {
				t.Fatalf("LayerHides(%v, %q) = %v", l, path, got)
			}
		}
	}
}

// All lists of at most three of these, most of them no layers.
func TestLayerOkOfAllShortLists(t *testing.T) {
	var marks []impl.Mark
	for _, path := range []string{"", "/", "/a", "/a/b", "/a/b/c", "/ab", "/A"} {
		for kind := -1; kind <= 5; kind++ {
			marks = append(marks, impl.Mark{Path: path, Kind: kind})
		}
		marks = append(marks, fileMark(path, "x"), fileMark(path, "!"), impl.Mark{Path: path, Kind: impl.MarkDir, Data: "x"}, impl.Mark{Path: path, Kind: impl.MarkBare, Data: "x"})
	}
	check := func(l []impl.Mark) {
		t.Helper()
		s, want := sheetOf(l)
		if got := impl.LayerOk(l); got != want {
			t.Fatalf("LayerOk(%v) = %v", l, got)
		}
		if got := impl.LayerHides(l, "/a/b"); got != s.hides("/a/b") {
			t.Fatalf("LayerHides(%v, /a/b) = %v", l, got)
		}
		if _, ok := impl.LayerOn(l, nil); ok != want {
			t.Fatalf("LayerOn(%v) tells %v", l, ok)
		}
		if _, ok := impl.LayerJoin(l, nil); ok != want {
			t.Fatalf("LayerJoin(%v, nothing) tells %v", l, ok)
		}
		if _, ok := impl.LayerJoin(nil, l); ok != want {
			t.Fatalf("LayerJoin(nothing, %v) tells %v", l, ok)
		}
	}
	for _, a := range marks {
		check(layerWith(a))
		for _, b := range marks {
			check(layerWith(a, b))
			for _, c := range marks {
				check(layerWith(a, b, c))
			}
		}
	}
}

func TestLayerOnAllSmallTrees(t *testing.T) {
	names := [][]string{{"a", "ab"}, {"b"}, {"c"}}
	for _, tree := range treesOf("", names) {
		tree = withData(tree, "y")
		s := mustSpread(t, tree)
		for _, l := range layersOf("", names, "x", false) {
			want, wantOk := mustSheet(t, l).on(s)
			got, ok := layerOn(t, l, tree)
			if !slices.Equal(got, want) || ok != wantOk {
				t.Fatalf("LayerOn(%v, %v) = %v, %v; want %v, %v", l, tree, got, ok, want, wantOk)
			}
			if !impl.TreeOk(got) {
				t.Fatalf("LayerOn(%v, %v) = %v, which is no tree", l, tree, got)
			}
		}
	}
}

// asTheWordsSay holds LayerJoin against the words.
func asTheWordsSay(t *testing.T, a, b []impl.Mark) ([]impl.Mark, bool) {
	t.Helper()
	want, wantOk := mustSheet(t, a).join(mustSheet(t, b))
	joined, ok := layerJoin(t, a, b)
	if !slices.Equal(joined, want) || ok != wantOk {
		t.Fatalf("LayerJoin(%v, %v) = %v, %v; want %v, %v", a, b, joined, ok, want, wantOk)
	}
	if !impl.LayerOk(joined) {
		t.Fatalf("LayerJoin(%v, %v) = %v, which is no layer", a, b, joined)
	}
	return joined, ok
}

// Pairs of layers on all trees of the same names: all pairs, of one chain of names and of two in one directory, and many, of names that begin others.
func TestLayerJoinOfAllSmallLayers(t *testing.T) {
	for _, few := range []struct {
		names [][]string
		step  int
	}{
		{[][]string{{"a"}, {"b"}, {"c"}}, 1},
		{[][]string{{"a"}, {"b", "bc"}}, 1},
		{[][]string{{"a", "ab"}, {"b"}}, 7},
	} {
		trees := treesOf("", few.names)
		for i := range trees {
			trees[i] = withData(trees[i], "z")
		}
		lower := layersOf("", few.names, "y", false)
		for i, a := range layersOf("", few.names, "x", false) {
			for j := i % few.step; j < len(lower); j += few.step {
				joined, _ := asTheWordsSay(t, a, lower[j])
				for _, tree := range trees {
					if !oneForTwo(t, a, lower[j], joined, tree) {
						t.Fatalf("%v does not lie on %v", lower[j], tree)
					}
				}
			}
		}
	}
}

func TestLayerJoinOfThree(t *testing.T) {
	layers := layersOf("", [][]string{{"a"}, {"b"}, {"c"}}, "x", false)
	for _, a := range layers {
		for _, b := range layers {
			ab, _ := layerJoin(t, a, b)
			for _, c := range layers {
				bc, _ := layerJoin(t, b, c)
				one, _ := layerJoin(t, ab, c)
				other, _ := layerJoin(t, a, bc)
				for _, tree := range treesOf("", [][]string{{"a"}, {"b"}, {"c"}}) {
					x, _ := layerOn(t, one, tree)
					y, _ := layerOn(t, other, tree)
					if !slices.Equal(x, y) {
						t.Fatalf("%v, %v and %v on %v: joined from above %v, from below %v", a, b, c, tree, x, y)
					}
				}
			}
		}
	}
}

func TestLayerDiffOfManyPairs(t *testing.T) {
	trees := treesOf("", someNames())
	for i := 0; i < len(trees); i += 7 {
		from := mustSpread(t, trees[i])
		for j := i % 5; j < len(trees); j += 5 {
			// The files of one are the same, and then others.
			for _, data := range []string{"x", "y"} {
				tree := withData(trees[j], data)
				to := mustSpread(t, tree)
				diff := layerDiff(t, trees[i], tree)
				if want := diffOf(from, to); !slices.Equal(diff, want) {
					t.Fatalf("LayerDiff(%v, %v) = %v; want %v", trees[i], tree, diff, want)
				}
				makesTheOther(t, trees[i], tree, diff)
			}
		}
	}
}

// wayside chooses layers and trees by a fixed rule.
type wayside struct {
	state uint32
	paths []string
	datas []string
}

func (w *wayside) pick(n int) int {
	w.state = w.state*1664525 + 1013904223
	return int(w.state>>16) % n
}

func (w *wayside) layer() []impl.Mark {
	s, most := sheet{}, 1+w.pick(32)
	for _, path := range w.paths {
		m := impl.Mark{Path: path, Kind: 1 + w.pick(4)}
		// A MarkDir comes more often than others, so that there is much in it.
		if w.pick(3) > 0 {
			m.Kind = impl.MarkDir
		}
		if m.Kind == impl.MarkFile {
			m.Data = w.datas[w.pick(len(w.datas))]
		}
		with := maps.Clone(s)
		with[path] = m
		if _, ok := sheetOf(with.list()); ok && len(with) <= most && w.pick(4) > 0 {
			s = with
		}
	}
	return s.list()
}

func (w *wayside) tree() []impl.Ent {
	s := spread{}
	for _, path := range w.paths {
		e := fileAt(path, w.datas[w.pick(len(w.datas))])
		if w.pick(2) == 0 {
			e = dirAt(path)
		}
		if s.holder(path) == 0 && len(s) < 16 && w.pick(3) > 0 {
			s[path] = e
		}
	}
	return s.list()
}

// Greater layers and trees, up to what there may be and beyond.
func TestLayersOnALongWay(t *testing.T) {
	w := &wayside{
		state: 7,
		paths: slices.Sorted(slices.Values(pathsOf("", [][]string{{"a", "aa", "ab", "b", "c"}, {"a", "ab", "b"}, {"a", "z"}}))),
		datas: []string{"", "x", "y1", "abc123"},
	}
	seen := map[string]int{}
	for range 2000 {
		a, b, tree, other := w.layer(), w.layer(), w.tree(), w.tree()
		want, wantOk := mustSheet(t, b).on(mustSpread(t, tree))
		if got, ok := layerOn(t, b, tree); !slices.Equal(got, want) || ok != wantOk {
			t.Fatalf("LayerOn(%v, %v) = %v, %v; want %v, %v", b, tree, got, ok, want, wantOk)
		}
		if !wantOk {
			seen["a layer that has no room"]++
		}
		if joined, ok := asTheWordsSay(t, a, b); !ok {
			seen["a join that has no room"]++
		} else if oneForTwo(t, a, b, joined, tree) {
			seen["a join on a tree"]++
		}
		diff := layerDiff(t, tree, other)
		if want := diffOf(mustSpread(t, tree), mustSpread(t, other)); !slices.Equal(diff, want) {
			t.Fatalf("LayerDiff(%v, %v) = %v; want %v", tree, other, diff, want)
		}
		makesTheOther(t, tree, other, diff)
	}
	for _, what := range []string{"a layer that has no room", "a join that has no room", "a join on a tree"} {
		if seen[what] < 20 {
			t.Errorf("%s has come %d times", what, seen[what])
		}
	}
}
