package tests

import (
	"testing"

	"loop.example/pargeting/impl"
)

// brokenOvers are such as are not ok, each in one way by itself.
func brokenOvers() []impl.Over {
	ab := treeWith(dirAt("/a"), fileAt("/a/b", "x"))
	full := filesAnd(impl.TreeMost)
	overs := []impl.Over{
		// More than OverMost Layers.
		overWith(nil, nil, nil, nil, nil, nil, nil),
		overWith(ab, layerWith(goneMark("/a")), nil, nil, nil, nil, nil),
		overWith(ab, nil, someLayer(), nil, someLayer(), nil, layerWith(goneMark("/a"))),
		overWith(nil, nil, make([][]impl.Mark, 1000)...),
		// Upper, on what is beneath, has more than TreeMost.
		overWith(full, layerWith(fileMark("/a", ""))),
		overWith(full, layerWith(dirMark("/z")), nil, nil, nil, nil),
		overWith(nil, marksAnd(impl.TreeMost+1)),
		overWith(nil, marksAnd(2*impl.TreeMost)),
		overWith(nil, layerWith(dirMark("/a")), marksAnd(impl.TreeMost)),
	}
	overs = append(overs, needlessOvers()...)
	for _, tree := range brokenTrees() {
		overs = append(overs, overWith(tree, nil), overWith(tree, nil, layerWith(goneMark("/a"))), overWith(tree, layerWith(fileMark("/q", ""))))
	}
	for place := range impl.OverMost {
		// Beneath, there are more than TreeMost at that place, also if a layer on it takes them away.
		layers := make([][]impl.Mark, impl.OverMost)
		layers[place] = layerWith(fileMark("/a", ""))
		overs = append(overs, overWith(full, nil, layers...), overWith(full, nil, layers[:place+1]...))
		layers = append([][]impl.Mark(nil), layers...)
		layers[impl.OverMost-1] = goneAnd(impl.TreeMost)
		if place < impl.OverMost-1 {
			overs = append(overs, overWith(full, nil, layers...))
		}
		for _, l := range brokenLayers() {
			layers := make([][]impl.Mark, impl.OverMost)
			layers[place] = l
			overs = append(overs, overWith(nil, nil, layers[:place+1]...), overWith(ab, layerWith(goneMark("/a")), layers...))
		}
	}
	for _, l := range brokenLayers() {
		overs = append(overs, overWith(nil, l), overWith(ab, l, layerWith(goneMark("/a")), nil))
	}
	return overs
}

// needlessOvers have an Upper that can lie on what is beneath, and is not what differs.
func needlessOvers() []impl.Over {
	ab := treeWith(dirAt("/a"), fileAt("/a/b", "x"))
	overs := []impl.Over{
		// On what a layer makes of nothing, and of another tree.
		overWith(nil, layerWith(fileMark("/a", "x")), layerWith(fileMark("/a", "x"))),
		overWith(ab, layerWith(goneMark("/a")), layerWith(goneMark("/a"))),
		overWith(treeWith(fileAt("/a", "y")), layerWith(fileMark("/a", "x")), nil, layerWith(fileMark("/a", "x"))),
		overWith(ab, layerWith(dirMark("/a"), goneMark("/a/b")), layerWith(goneMark("/a"))),
		overWith(ab, layerWith(dirMark("/a"), goneMark("/a/b")), layerWith(bareMark("/a"))),
	}
	for _, upper := range [][]impl.Mark{
		// As it is beneath.
		layerWith(dirMark("/a")),
		layerWith(dirMark("/a"), fileMark("/a/b", "x")),
		layerWith(goneMark("/b")),
		layerWith(dirMark("/a"), goneMark("/a/c")),
		layerWith(dirMark("/a"), dirMark("/a/c"), goneMark("/a/c/d")),
		layerWith(dirMark("/c"), goneMark("/c/d")),
		// Something that differs, and something needless beside it, below it and ahead of it.
		layerWith(dirMark("/a"), fileMark("/c", "")),
		layerWith(dirMark("/a"), fileMark("/a/b", "x"), fileMark("/a/c", "")),
		layerWith(dirMark("/a"), goneMark("/a/b"), goneMark("/a/c")),
		layerWith(goneMark("/a"), goneMark("/b")),
		layerWith(fileMark("/a", ""), goneMark("/ab")),
		layerWith(dirMark("/a"), dirMark("/a/b"), goneMark("/a/b/c")),
		// A MarkBare is never of LayerDiff, also where all it hides is to be gone.
		layerWith(bareMark("/a")),
		layerWith(bareMark("/a"), fileMark("/a/b", "x")),
		layerWith(bareMark("/a"), fileMark("/a/b", "y")),
		layerWith(bareMark("/a"), fileMark("/a/c", "")),
		layerWith(bareMark("/c")),
		layerWith(bareMark("/c"), fileMark("/c/d", "")),
		layerWith(dirMark("/a"), bareMark("/a/b")),
		layerWith(dirMark("/a"), bareMark("/a/c")),
	} {
		overs = append(overs, overWith(ab, upper), overWith(nil, upper, layerWith(dirMark("/a"), fileMark("/a/b", "x"))), overWith(ab, upper, nil, nil, nil, nil))
	}
	return overs
}

// wantNothing is for what is not ok: the one fixed answer of each function.
func wantNothing(t *testing.T, o impl.Over) {
	t.Helper()
	if overOk(t, o) {
		t.Errorf("OverOk(%v) = true", brief(o))
	}
	if got, ok := overLower(t, o); len(got) != 0 || ok {
		t.Errorf("OverLower(%v) = %v, %v; want none, false", brief(o), brief(got), ok)
	}
	if got, ok := overView(t, o); len(got) != 0 || ok {
		t.Errorf("OverView(%v) = %v, %v; want none, false", brief(o), brief(got), ok)
	}
	for _, path := range []string{"/", "/a", "/a/b", "/ba", "/q", "", "a"} {
		wantOverGet(t, o, path, impl.Ent{}, 0, false)
	}
	for _, op := range []impl.Op{makeOp("/q"), putOp("/a", ""), rmOp("/ba"), rmdirOp("/a"), moveOp("/a", "/q"), moveOp("/q", "/r"), {}, putOp("/A", ""), {Kind: 9, Path: "/a"}} {
		if got, code := overDo(t, o, op); !alike(got, impl.Over{}) || code != impl.DoBad {
			t.Errorf("OverDo(%v, %v) = %v, %d; want nothing, %d", brief(o), op, brief(got), code, impl.DoBad)
		}
	}
	pushed, ok := overPush(t, o)
	wantOver(t, "OverPush", o, pushed, impl.Over{}, ok, false)
	wantOver(t, "OverDrop", o, overDrop(t, o), impl.Over{}, true, true)
	flat, ok := overFlat(t, o)
	wantOver(t, "OverFlat", o, flat, impl.Over{}, ok, false)
	wantOver(t, "OverSink", o, overSink(t, o), impl.Over{}, true, true)
}

func TestOverBroken(t *testing.T) {
	for _, o := range brokenOvers() {
		wantNothing(t, o)
	}
}

// What is not ok is the same as itself, as OverSame is of any two.
func TestOverSameBroken(t *testing.T) {
	for _, o := range brokenOvers() {
		if !overSame(t, o, copyOver(o)) || overSame(t, o, impl.Over{}) || overSame(t, impl.Over{}, o) {
			t.Errorf("OverSame of %v", brief(o))
		}
	}
}

func TestOverMostLayers(t *testing.T) {
	l := layerWith(fileMark("/a", "x"))
	for n := range 8 {
		layers := make([][]impl.Mark, n)
		for i := range layers {
			layers[i] = l
		}
		o := overWith(nil, nil, layers...)
		if got := overOk(t, o); got != (n <= impl.OverMost) {
			t.Errorf("OverOk of %d layers = %v", n, got)
		}
		pushed, ok := overPush(t, o)
		if ok != (n < impl.OverMost) || ok && len(pushed.Layers) != n+1 || n == impl.OverMost && !alike(pushed, o) || n > impl.OverMost && !alike(pushed, impl.Over{}) {
			t.Errorf("OverPush of %d layers = %v, %v", n, pushed, ok)
		}
	}
}
