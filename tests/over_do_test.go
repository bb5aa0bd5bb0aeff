package tests

import (
	"slices"
	"testing"

	"loop.example/pargeting/impl"
)

// wantUpper is for what can be done: what Upper has behind it.
func wantUpper(t *testing.T, o impl.Over, op impl.Op, want ...impl.Mark) impl.Over {
	t.Helper()
	got, code := asToTheSeen(t, o, op)
	if code != impl.DoFine || !slices.Equal(got.Upper, want) {
		t.Errorf("OverDo(%v, %v) tells %d, with Upper %v; want %v", o, op, code, got.Upper, want)
	}
	return got
}

func wantOverEnded(t *testing.T, o impl.Over, op impl.Op, wantCode int) {
	t.Helper()
	if got, code := asToTheSeen(t, o, op); code != wantCode || !alike(got, o) {
		t.Errorf("OverDo(%v, %v) = %v, %d; want it as it was, %d", o, brief(op), got, code, wantCode)
	}
}

func TestOverDoMake(t *testing.T) {
	o := someOver()
	up := o.Upper
	wantUpper(t, o, makeOp("/n"), append(slices.Clone(up), dirMark("/n"))...)
	wantUpper(t, o, makeOp("/g/n"), append(slices.Clone(up), dirMark("/g"), dirMark("/g/n"))...)
	wantUpper(t, o, makeOp("/ab/y"), append(slices.Clone(up), dirMark("/ab/y"))...)
	// In the place of what is gone, in a layer and in Upper.
	wantUpper(t, o, makeOp("/e"), append(slices.Clone(up), dirMark("/e"))...)
	wantUpper(t, o, makeOp("/a/cc"), dirMark("/a"), fileMark("/a/b", "3"), dirMark("/a/cc"), dirMark("/ab"), fileMark("/ab/x", "u"))
	wantOverEnded(t, o, makeOp("/z/z"), impl.DoNone)
	wantOverEnded(t, o, makeOp("/e/z"), impl.DoNone)
	wantOverEnded(t, o, makeOp("/f/z"), impl.DoNotDir)
	wantOverEnded(t, o, makeOp("/a/b/z"), impl.DoNotDir)
	wantOverEnded(t, o, makeOp("/a"), impl.DoThere)
	wantOverEnded(t, o, makeOp("/ab/x"), impl.DoThere)
	wantOverEnded(t, o, makeOp("/k"), impl.DoThere)
}

func TestOverDoPut(t *testing.T) {
	o := someOver()
	up := o.Upper
	wantUpper(t, o, putOp("/n", "1"), append(slices.Clone(up), fileMark("/n", "1"))...)
	wantUpper(t, o, putOp("/g/h", "1"), append(slices.Clone(up), dirMark("/g"), fileMark("/g/h", "1"))...)
	wantUpper(t, o, putOp("/a/c/d", ""), dirMark("/a"), fileMark("/a/b", "3"), dirMark("/a/c"), fileMark("/a/c/d", ""), goneMark("/a/cc"), dirMark("/ab"), fileMark("/ab/x", "u"))
	wantUpper(t, o, putOp("/e", "x"), append(slices.Clone(up), fileMark("/e", "x"))...)
	wantUpper(t, o, putOp("/ab/x", "v"), dirMark("/a"), fileMark("/a/b", "3"), goneMark("/a/cc"), dirMark("/ab"), fileMark("/ab/x", "v"))
	wantOverEnded(t, o, putOp("/z/z", ""), impl.DoNone)
	wantOverEnded(t, o, putOp("/e/z", ""), impl.DoNone)
	wantOverEnded(t, o, putOp("/k/z", ""), impl.DoNotDir)
	wantOverEnded(t, o, putOp("/a", ""), impl.DoIsDir)
	wantOverEnded(t, o, putOp("/ab", "y"), impl.DoIsDir)
}

func TestOverDoRm(t *testing.T) {
	o := someOver()
	up := o.Upper
	wantUpper(t, o, rmOp("/f"), append(slices.Clone(up), goneMark("/f"))...)
	wantUpper(t, o, rmOp("/m"), append(slices.Clone(up), goneMark("/m"))...)
	wantUpper(t, o, rmOp("/a/b"), dirMark("/a"), goneMark("/a/b"), goneMark("/a/cc"), dirMark("/ab"), fileMark("/ab/x", "u"))
	// What is in Upper alone leaves nothing behind.
	wantUpper(t, o, rmOp("/ab/x"), dirMark("/a"), fileMark("/a/b", "3"), goneMark("/a/cc"), dirMark("/ab"))
	wantOverEnded(t, o, rmOp("/z"), impl.DoNone)
	wantOverEnded(t, o, rmOp("/a/cc"), impl.DoNone)
	wantOverEnded(t, o, rmOp("/a/c/d"), impl.DoNone)
	wantOverEnded(t, o, rmOp("/e"), impl.DoNone)
	wantOverEnded(t, o, rmOp("/g"), impl.DoIsDir)
	wantOverEnded(t, o, rmOp("/ab"), impl.DoIsDir)
}

func TestOverDoRmdir(t *testing.T) {
	o := doOver(t, someOver(), rmOp("/g/h"), rmOp("/ab/x"))
	wantUpper(t, o, rmdirOp("/g"), dirMark("/a"), fileMark("/a/b", "3"), goneMark("/a/cc"), dirMark("/ab"), goneMark("/g"))
	wantUpper(t, o, rmdirOp("/ab"), dirMark("/a"), fileMark("/a/b", "3"), goneMark("/a/cc"), dirMark("/g"), goneMark("/g/h"))
	wantOverEnded(t, o, rmdirOp("/e"), impl.DoNone)
	wantOverEnded(t, o, rmdirOp("/z"), impl.DoNone)
	wantOverEnded(t, o, rmdirOp("/f"), impl.DoNotDir)
	wantOverEnded(t, o, rmdirOp("/a/b"), impl.DoNotDir)
	wantOverEnded(t, o, rmdirOp("/a"), impl.DoKept)
	wantOverEnded(t, o, rmdirOp("/a/c"), impl.DoKept)
	wantOverEnded(t, someOver(), rmdirOp("/g"), impl.DoKept)
	wantOverEnded(t, someOver(), rmdirOp("/ab"), impl.DoKept)
}

func TestOverDoMove(t *testing.T) {
	o := someOver()
	wantUpper(t, o, moveOp("/f", "/n"), dirMark("/a"), fileMark("/a/b", "3"), goneMark("/a/cc"), dirMark("/ab"), fileMark("/ab/x", "u"), goneMark("/f"), fileMark("/n", "f"))
	// A directory with what is of Upper, of a layer and of Base.
	wantUpper(t, o, moveOp("/a", "/q"), goneMark("/a"), dirMark("/ab"), fileMark("/ab/x", "u"), dirMark("/q"), fileMark("/q/b", "3"), dirMark("/q/c"), fileMark("/q/c/q", "n"))
	wantUpper(t, o, moveOp("/g", "/a/g"), dirMark("/a"), fileMark("/a/b", "3"), goneMark("/a/cc"), dirMark("/a/g"), fileMark("/a/g/h", ""), dirMark("/ab"), fileMark("/ab/x", "u"), goneMark("/g"))
	wantUpper(t, o, moveOp("/ab", "/e"), dirMark("/a"), fileMark("/a/b", "3"), goneMark("/a/cc"), dirMark("/e"), fileMark("/e/x", "u"))
	wantOverEnded(t, o, moveOp("/e", "/q"), impl.DoNone)
	wantOverEnded(t, o, moveOp("/a/cc", "/q"), impl.DoNone)
	wantOverEnded(t, o, moveOp("/f", "/e/q"), impl.DoNone)
	wantOverEnded(t, o, moveOp("/f", "/k/q"), impl.DoNotDir)
	wantOverEnded(t, o, moveOp("/f", "/ab/x"), impl.DoThere)
	wantOverEnded(t, o, moveOp("/f", "/f"), impl.DoThere)
	wantOverEnded(t, o, moveOp("/a", "/a/c/z"), impl.DoUnder)
	wantOverEnded(t, o, moveOp("/g", "/a/c/z"), impl.DoRoom)
	wantOverEnded(t, o, moveOp("/a", "/g/z"), impl.DoRoom)
}

// TreeMost are seen, of Base, of a layer, of Upper, and of several.
func TestOverDoNoRoom(t *testing.T) {
	for _, o := range []impl.Over{
		overWith(filesAnd(impl.TreeMost, dirAt("/a")), nil),
		overWith(nil, nil, marksAnd(impl.TreeMost, dirMark("/a"))),
		overWith(nil, marksAnd(impl.TreeMost, dirMark("/a")), nil, nil),
		overWith(filesAnd(impl.TreeMost)[:impl.TreeMost-1], layerWith(dirMark("/a")), layerWith(goneMark("/q"))),
		overWith(filesAnd(impl.TreeMost), layerWith(dirMark("/a")), layerWith(goneMark("/ba"))),
	} {
		seen := mustView(t, o)
		if len(seen) != impl.TreeMost {
			t.Fatalf("of %v are seen %d", o, len(seen))
		}
		last := seen[impl.TreeMost-1].Path
		wantOverEnded(t, o, makeOp("/z"), impl.DoRoom)
		wantOverEnded(t, o, makeOp("/a/z"), impl.DoRoom)
		wantOverEnded(t, o, putOp("/z", "x"), impl.DoRoom)
		wantOverEnded(t, o, putOp("/a/z", ""), impl.DoRoom)
		doOver(t, o, putOp(last, "new"), moveOp(last, "/a/z"), moveOp("/a", "/z"), rmOp("/z/z"), makeOp("/z/y"))
	}
}

// Beneath there may be TreeMost, and TreeMost others seen.
func TestOverDoOtherwiseInAll(t *testing.T) {
	for _, o := range []impl.Over{overWith(filesAnd(impl.TreeMost), nil), overWith(nil, nil, marksAnd(impl.TreeMost))} {
		for _, e := range filesAnd(impl.TreeMost) {
			o = doOver(t, o, moveOp(e.Path, "/z"+e.Path[2:]))
		}
		if len(o.Upper) != 2*impl.TreeMost {
			t.Errorf("Upper is %v", o.Upper)
		}
		wantOverEnded(t, o, makeOp("/q"), impl.DoRoom)
		pushed, ok := overPush(t, o)
		if !ok {
			t.Fatalf("OverPush(%v) tells false", o)
		}
		for _, e := range filesAnd(impl.TreeMost) {
			pushed = doOver(t, pushed, moveOp("/z"+e.Path[2:], e.Path))
		}
		wantTrees(t, pushed, mustView(t, o), mustLower(t, o))
	}
}

func TestOverDoWrongOps(t *testing.T) {
	for _, op := range wrongOps() {
		for _, o := range []impl.Over{{}, someOver(), overWith(filesAnd(impl.TreeMost), layerWith(goneMark("/ba")), nil, nil, nil, nil)} {
			if got, code := overDo(t, o, op); !alike(got, o) || code != impl.DoBad {
				t.Errorf("OverDo(%v, %v) = %v, %d; want it as it was, %d", o, brief(op), brief(got), code, impl.DoBad)
			}
		}
	}
}

func TestOverDoAsItWasBeneath(t *testing.T) {
	for _, o := range []impl.Over{
		overWith(treeWith(dirAt("/a"), fileAt("/a/b", "x"), fileAt("/c", "")), nil),
		overWith(nil, nil, layerWith(dirMark("/a"), fileMark("/a/b", "x"), fileMark("/c", ""))),
		overWith(treeWith(dirAt("/a"), fileAt("/a/b", "y")), nil, layerWith(bareMark("/a"), fileMark("/a/b", "w")), layerWith(dirMark("/a"), fileMark("/a/b", "x"), fileMark("/c", ""))),
	} {
		// At once, and behind another one.
		wantUpper(t, o, putOp("/a/b", "x"))
		wantUpper(t, o, putOp("/c", ""))
		other := wantUpper(t, o, putOp("/a/b", "z"), dirMark("/a"), fileMark("/a/b", "z"))
		wantUpper(t, other, putOp("/a/b", "x"))
		// Of several, the others stay.
		both := wantUpper(t, other, putOp("/c", "z"), dirMark("/a"), fileMark("/a/b", "z"), fileMark("/c", "z"))
		wantUpper(t, both, putOp("/a/b", "x"), fileMark("/c", "z"))
		wantUpper(t, both, putOp("/c", ""), dirMark("/a"), fileMark("/a/b", "z"))
		// Behind its being gone, with what it is in.
		gone := wantUpper(t, o, rmOp("/a/b"), dirMark("/a"), goneMark("/a/b"))
		wantUpper(t, gone, putOp("/a/b", "x"))
		gone = wantUpper(t, gone, rmdirOp("/a"), goneMark("/a"))
		made := wantUpper(t, gone, makeOp("/a"), dirMark("/a"), goneMark("/a/b"))
		wantUpper(t, made, putOp("/a/b", "x"))
		wantUpper(t, made, putOp("/a/b", ""), dirMark("/a"), fileMark("/a/b", ""))
		// What is made and taken away again.
		file := wantUpper(t, o, putOp("/a/q", "1"), dirMark("/a"), fileMark("/a/q", "1"))
		wantUpper(t, file, rmOp("/a/q"))
		dir := wantUpper(t, o, makeOp("/q"), dirMark("/q"))
		wantUpper(t, dir, rmdirOp("/q"))
	}
}

func TestOverDoMovedBack(t *testing.T) {
	for _, o := range []impl.Over{
		someOver(),
		overDrop(t, someOver()),
		overSink(t, someOver()),
		overWith(someTree(), nil),
		overWith(someTree(), layerWith(dirMark("/a"), goneMark("/a/b"), dirMark("/a/c"), fileMark("/a/c/d", "new"), fileMark("/a/c/e", ""), dirMark("/a/ccc"), fileMark("/n", ""))),
		overWith(nil, layerWith(dirMark("/a"), goneMark("/a/b"), dirMark("/a/d")), marksAnd(8, dirMark("/a"), fileMark("/a/b", ""), fileMark("/a/c", "c"))),
	} {
		for _, way := range [][]string{{"/a", "/z"}, {"/a", "/z", "/y"}, {"/a", "/abz", "/zz", "/z"}} {
			moved := o
			for i := range way[1:] {
				moved = doOver(t, moved, moveOp(way[i], way[i+1]))
			}
			if alike(moved, o) || !slices.Contains(moved.Upper, goneMark("/a")) {
				t.Errorf("%v, moved along %q, is %v", o, way, moved)
			}
			back := doOver(t, moved, moveOp(way[len(way)-1], "/a"))
			wantOver(t, "moved and moved back", o, back, o, true, true)
		}
	}
	// Another one is made in its place between, and taken away.
	o := overWith(someTree(), nil)
	back := doOver(t, o, moveOp("/a", "/z"), makeOp("/a"), putOp("/a/b", "other"), rmOp("/a/b"), rmdirOp("/a"), moveOp("/z", "/a"))
	wantOver(t, "moved and moved back", o, back, o, true, true)
	// Two that change places.
	turned := doOver(t, o, moveOp("/a", "/z"), moveOp("/e", "/a"), moveOp("/z", "/e"))
	wantOver(t, "changed", o, turned, overWith(someTree(), layerWith(dirMark("/a"), goneMark("/a/b"), goneMark("/a/c"), goneMark("/a/cc"),
		dirMark("/e"), fileMark("/e/b", "x"), dirMark("/e/c"), fileMark("/e/c/d", ""), fileMark("/e/cc", "1"))), true, true)
	back = doOver(t, turned, moveOp("/a", "/z"), moveOp("/e", "/a"), moveOp("/z", "/e"))
	wantOver(t, "changed back", o, back, o, true, true)
}

// What is gone in a layer is not there, so that what is made in its place has nothing of what is beneath that.
func TestOverDoMadeAgain(t *testing.T) {
	base := treeWith(dirAt("/a"), fileAt("/a/b", "x"), fileAt("/c", "y"))
	o := overWith(base, nil, layerWith(goneMark("/a"), goneMark("/c")))
	wantTrees(t, o, nil, nil)
	dir := wantUpper(t, o, makeOp("/a"), dirMark("/a"))
	wantTrees(t, dir, nil, treeWith(dirAt("/a")))
	wantOverGet(t, dir, "/a/b", impl.Ent{}, 0, false)
	// As it was beneath the layer, which is not what is beneath.
	same := wantUpper(t, dir, putOp("/a/b", "x"), dirMark("/a"), fileMark("/a/b", "x"))
	same = wantUpper(t, same, putOp("/c", "y"), dirMark("/a"), fileMark("/a/b", "x"), fileMark("/c", "y"))
	wantTrees(t, same, nil, base)
	file := wantUpper(t, o, putOp("/a", "z"), fileMark("/a", "z"))
	wantTrees(t, file, nil, treeWith(fileAt("/a", "z")))
	wantUpper(t, file, rmOp("/a"))
	dir = wantUpper(t, o, makeOp("/c"), dirMark("/c"))
	wantUpper(t, dir, putOp("/c/d", ""), dirMark("/c"), fileMark("/c/d", ""))
	// The layer that makes it again lies on the one in which it is gone.
	pushed, _ := overPush(t, same)
	wantTrees(t, pushed, base, base)
	wantFlat(t, pushed, bareMark("/a"), fileMark("/a/b", "x"), fileMark("/c", "y"))
	again := wantUpper(t, pushed, rmOp("/a/b"), dirMark("/a"), goneMark("/a/b"))
	wantUpper(t, again, putOp("/a/b", "x"))
}

// What is taken away in Upper, with something beneath below it.
func TestOverDoTakenAwayWithAllBelow(t *testing.T) {
	base := treeWith(dirAt("/a"), dirAt("/a/b"), fileAt("/a/b/c", "x"), fileAt("/a/d", ""))
	for _, o := range []impl.Over{overWith(base, nil), overWith(nil, nil, layerWith(dirMark("/a"), dirMark("/a/b"), fileMark("/a/b/c", "x"), fileMark("/a/d", "")))} {
		o = wantUpper(t, o, rmOp("/a/b/c"), dirMark("/a"), dirMark("/a/b"), goneMark("/a/b/c"))
		o = wantUpper(t, o, rmdirOp("/a/b"), dirMark("/a"), goneMark("/a/b"))
		file := wantUpper(t, o, putOp("/a/b", "f"), dirMark("/a"), fileMark("/a/b", "f"))
		wantUpper(t, file, rmOp("/a/b"), dirMark("/a"), goneMark("/a/b"))
		o = wantUpper(t, o, rmOp("/a/d"), dirMark("/a"), goneMark("/a/b"), goneMark("/a/d"))
		o = wantUpper(t, o, rmdirOp("/a"), goneMark("/a"))
		wantTrees(t, o, base, nil)
		// What is made in its place has nothing of what is beneath.
		dir := wantUpper(t, o, makeOp("/a"), dirMark("/a"), goneMark("/a/b"), goneMark("/a/d"))
		wantUpper(t, dir, makeOp("/a/b"), dirMark("/a"), dirMark("/a/b"), goneMark("/a/b/c"), goneMark("/a/d"))
		wantUpper(t, o, putOp("/a", ""), fileMark("/a", ""))
	}
	moved := wantUpper(t, overWith(base, nil), moveOp("/a/b", "/z"), dirMark("/a"), goneMark("/a/b"), dirMark("/z"), fileMark("/z/c", "x"))
	wantUpper(t, moved, moveOp("/a", "/z/a"), goneMark("/a"), dirMark("/z"), dirMark("/z/a"), fileMark("/z/a/d", ""), fileMark("/z/c", "x"))
}
