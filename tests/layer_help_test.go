package tests

import (
	"slices"
	"testing"

	"loop.example/pargeting/impl"
)

func fileMark(path, data string) impl.Mark {
	return impl.Mark{Path: path, Kind: impl.MarkFile, Data: data}
}

func dirMark(path string) impl.Mark {
	return impl.Mark{Path: path, Kind: impl.MarkDir}
}

func goneMark(path string) impl.Mark {
	return impl.Mark{Path: path, Kind: impl.MarkGone}
}

func bareMark(path string) impl.Mark {
	return impl.Mark{Path: path, Kind: impl.MarkBare}
}

func layerWith(marks ...impl.Mark) []impl.Mark {
	return marks
}

// marksAnd is a layer of that many in all: these, whose paths come ahead of /b, and files behind them.
func marksAnd(n int, marks ...impl.Mark) []impl.Mark {
	l := slices.Clone(marks)
	for _, name := range manyNames(n - len(marks)) {
		l = append(l, fileMark("/"+name, "m"))
	}
	return l
}

// goneAnd is marksAnd with what is gone in the place of files.
func goneAnd(n int, marks ...impl.Mark) []impl.Mark {
	l := marksAnd(n, marks...)
	for i := len(marks); i < n; i++ {
		l[i] = goneMark(l[i].Path)
	}
	return l
}

func lendLayer(l []impl.Mark) lent[impl.Mark] {
	return lend(l, impl.Mark{Path: "mark", Kind: 77, Data: "mark"})
}

func keepLayer(l []impl.Mark) []impl.Mark {
	return keep(l, impl.Mark{Path: "written", Kind: 88, Data: "written"})
}

// The functions of the chapter, with a look at the memory of arguments and answers at each call.

func layerOk(t *testing.T, l []impl.Mark) bool {
	t.Helper()
	a := lendLayer(l)
	ok := impl.LayerOk(a.list)
	a.untouched(t, "LayerOk")
	return ok
}

func layerSame(t *testing.T, a, b []impl.Mark) bool {
	t.Helper()
	x, y := lendLayer(a), lendLayer(b)
	same := impl.LayerSame(x.list, y.list)
	x.untouched(t, "LayerSame")
	y.untouched(t, "LayerSame")
	return same
}

func layerHides(t *testing.T, l []impl.Mark, path string) bool {
	t.Helper()
	a := lendLayer(l)
	hides := impl.LayerHides(a.list, path)
	a.untouched(t, "LayerHides")
	return hides
}

func layerOn(t *testing.T, l []impl.Mark, tree []impl.Ent) ([]impl.Ent, bool) {
	t.Helper()
	x, y := lendLayer(l), lendTree(tree)
	seen, ok := impl.LayerOn(x.list, y.list)
	seen = keep(seen, fileAt("written", "written"))
	x.untouched(t, "LayerOn")
	y.untouched(t, "LayerOn")
	return seen, ok
}

func layerJoin(t *testing.T, a, b []impl.Mark) ([]impl.Mark, bool) {
	t.Helper()
	x, y := lendLayer(a), lendLayer(b)
	joined, ok := impl.LayerJoin(x.list, y.list)
	joined = keepLayer(joined)
	x.untouched(t, "LayerJoin")
	y.untouched(t, "LayerJoin")
	return joined, ok
}

func layerDiff(t *testing.T, from, to []impl.Ent) []impl.Mark {
	t.Helper()
	x, y := lendTree(from), lendTree(to)
	l := keepLayer(impl.LayerDiff(x.list, y.list))
	x.untouched(t, "LayerDiff")
	y.untouched(t, "LayerDiff")
	return l
}

func wantHides(t *testing.T, l []impl.Mark, want bool, paths ...string) {
	t.Helper()
	for _, path := range paths {
		if got := layerHides(t, l, path); got != want {
			t.Errorf("LayerHides(%v, %q) = %v", brief(l), short(path), got)
		}
	}
}

// wantSeen is for a layer that can lie on a tree: what is told, and that it is a tree.
func wantSeen(t *testing.T, l []impl.Mark, tree []impl.Ent, want ...impl.Ent) {
	t.Helper()
	got, ok := layerOn(t, l, tree)
	if !slices.Equal(got, want) || !ok {
		t.Errorf("LayerOn(%v, %v) = %v, %v; want %v, true", l, tree, got, ok, want)
	}
	if !treeOk(t, got) {
		t.Errorf("LayerOn(%v, %v) = %v, which is no tree", l, tree, got)
	}
}

func wantNotSeen(t *testing.T, l []impl.Mark, tree []impl.Ent) {
	t.Helper()
	if got, ok := layerOn(t, l, tree); len(got) != 0 || ok {
		t.Errorf("LayerOn(%v, %v) = %v, %v; want none, false", brief(l), brief(tree), brief(got), ok)
	}
}

// wantJoined is for two layers that can be one: what is told, that it is a layer, and that on trees it is the one on the other.
func wantJoined(t *testing.T, a, b []impl.Mark, want ...impl.Mark) {
	t.Helper()
	got, ok := layerJoin(t, a, b)
	if !slices.Equal(got, want) || !ok {
		t.Errorf("LayerJoin(%v, %v) = %v, %v; want %v, true", a, b, got, ok, want)
	}
	if !layerOk(t, got) {
		t.Errorf("LayerJoin(%v, %v) = %v, which is no layer", a, b, got)
	}
	for _, tree := range goodTrees() {
		oneForTwo(t, a, b, got, tree)
	}
}

func wantNotJoined(t *testing.T, a, b []impl.Mark) {
	t.Helper()
	if got, ok := layerJoin(t, a, b); len(got) != 0 || ok {
		t.Errorf("LayerJoin(%v, %v) = %v, %v; want none, false", brief(a), brief(b), brief(got), ok)
	}
}

// oneForTwo holds a joined layer on a tree against a on b on it, and says whether b can lie on it:
// what is too much between may be less in the end, and of that nothing is promised.
func oneForTwo(t *testing.T, a, b, joined []impl.Mark, tree []impl.Ent) bool {
	t.Helper()
	between, ok := layerOn(t, b, tree)
	if !ok {
		return false
	}
	want, wantOk := layerOn(t, a, between)
	got, gotOk := layerOn(t, joined, tree)
	if !slices.Equal(got, want) || gotOk != wantOk {
		t.Fatalf("%v on %v on %v is %v, %v; joined, as %v, it is %v, %v", a, b, tree, want, wantOk, joined, got, gotOk)
	}
	return true
}

// wantDiff is for two trees: what is told, that it is a layer, and that on the one it is the other.
func wantDiff(t *testing.T, from, to []impl.Ent, want ...impl.Mark) {
	t.Helper()
	got := layerDiff(t, from, to)
	if !slices.Equal(got, want) {
		t.Errorf("LayerDiff(%v, %v) = %v; want %v", from, to, got, want)
	}
	makesTheOther(t, from, to, got)
}

func makesTheOther(t *testing.T, from, to []impl.Ent, diff []impl.Mark) {
	t.Helper()
	if !layerOk(t, diff) {
		t.Fatalf("LayerDiff(%v, %v) = %v, which is no layer", from, to, diff)
	}
	if got, ok := layerOn(t, diff, from); !slices.Equal(got, to) || !ok {
		t.Fatalf("LayerDiff(%v, %v) = %v, and that makes %v, %v", from, to, diff, got, ok)
	}
	if (len(diff) == 0) != slices.Equal(from, to) {
		t.Fatalf("LayerDiff(%v, %v) = %v", from, to, diff)
	}
}
