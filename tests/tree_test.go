package tests

import (
	"slices"
	"strings"
	"testing"

	"loop.example/pargeting/impl"
)

// someTree goes one to three names deep, and has names that begin others.
func someTree() []impl.Ent {
	return treeWith(
		dirAt("/a"),
		fileAt("/a/b", "x"),
		dirAt("/a/c"),
		fileAt("/a/c/d", ""),
		fileAt("/a/cc", "1"),
		fileAt("/ab", "y"),
		dirAt("/e"),
	)
}

func goodTrees() [][]impl.Ent {
	return [][]impl.Ent{
		nil,
		{},
		treeWith(dirAt("/a")),
		treeWith(fileAt("/a", "")),
		treeWith(fileAt("/a", "z9")),
		treeWith(dirAt("/a"), fileAt("/a/b", "")),
		treeWith(dirAt("/a"), fileAt("/a/b", ""), fileAt("/ab", "")),
		treeWith(fileAt("/a", ""), dirAt("/ab"), fileAt("/ab/c", "")),
		treeWith(dirAt("/a"), dirAt("/a/a"), dirAt("/a/a/a")),
		treeWith(dirAt("/abc"), dirAt("/abc/abc"), fileAt("/abc/abc/abc", "abc123")),
		someTree(),
		filesAnd(impl.TreeMost),
		filesAnd(impl.TreeMost, dirAt("/a"), dirAt("/a/b"), dirAt("/a/b/c")),
	}
}

func TestTreeBoundsAndCodes(t *testing.T) {
	got := []int{impl.TreeMost, impl.DataMost, impl.OpMake, impl.OpPut, impl.OpRm, impl.OpRmdir, impl.OpMove,
		impl.DoFine, impl.DoBad, impl.DoNone, impl.DoNotDir, impl.DoThere, impl.DoIsDir, impl.DoKept, impl.DoUnder, impl.DoRoom}
	if want := []int{16, 6, 1, 2, 3, 4, 5, 0, 1, 2, 3, 4, 5, 6, 7, 8}; !slices.Equal(got, want) {
		t.Errorf("the constants are %v; want %v", got, want)
	}
}

func TestTreeOk(t *testing.T) {
	for _, tree := range goodTrees() {
		if !treeOk(t, tree) {
			t.Errorf("TreeOk(%v) = false", tree)
		}
	}
	if !impl.TreeOk(nil) {
		t.Error("TreeOk(nil) = false")
	}
}

func TestTreeSame(t *testing.T) {
	trees := append(goodTrees()[1:], brokenTrees()...)
	for i, a := range trees {
		for j, b := range trees {
			if got := treeSame(t, a, slices.Clone(b)); got != (i == j) {
				t.Errorf("TreeSame(%v, %v) = %v", brief(a), brief(b), got)
			}
		}
	}
	if !impl.TreeSame(nil, []impl.Ent{}) || !impl.TreeSame([]impl.Ent{}, nil) || !impl.TreeSame(nil, nil) {
		t.Error("TreeSame: the empty list and the nil list are not the same")
	}
}

func TestTreeSameInOnePartAlone(t *testing.T) {
	tree := someTree()
	for i := range tree {
		for _, turn := range []func(*impl.Ent){
			func(e *impl.Ent) { e.Path += "x" },
			func(e *impl.Ent) { e.Path = "" },
			func(e *impl.Ent) { e.Dir = !e.Dir },
			func(e *impl.Ent) { e.Data += "x" },
		} {
			other := slices.Clone(tree)
			turn(&other[i])
			if treeSame(t, tree, other) || treeSame(t, other, tree) {
				t.Errorf("TreeSame(%v, %v) = true", tree, other)
			}
		}
		if shorter := slices.Delete(slices.Clone(tree), i, i+1); treeSame(t, tree, shorter) || treeSame(t, shorter, tree) {
			t.Errorf("TreeSame(%v, %v) = true", tree, shorter)
		}
	}
	swapped := treeWith(fileAt("/b", ""), fileAt("/a", ""))
	if treeSame(t, swapped, treeWith(fileAt("/a", ""), fileAt("/b", ""))) {
		t.Error("TreeSame of two in another order = true")
	}
}

func TestTreeGet(t *testing.T) {
	for _, tree := range goodTrees() {
		for _, e := range tree {
			wantGet(t, tree, e.Path, e, true)
		}
		wantGet(t, tree, "/", dirAt("/"), true)
		for _, path := range []string{"/q", "/a/q", "/a/c/q", "/ab/q", "/a/b/q", "/abd", "/q/a"} {
			wantGet(t, tree, path, impl.Ent{}, false)
		}
	}
	wantGet(t, nil, "/a", impl.Ent{}, false)
}

func TestTreeGetNoPath(t *testing.T) {
	for _, path := range badPaths() {
		wantGet(t, someTree(), path, impl.Ent{}, false)
	}
	// Each of these would be there, were it a path.
	for _, path := range []string{"a", "a/b", "//a", "/a/", "/a//b", "", "/a/b/"} {
		wantGet(t, someTree(), path, impl.Ent{}, false)
	}
}

func TestTreeList(t *testing.T) {
	wantList(t, nil, "/", "", impl.DoFine)
	wantList(t, nil, "/a", "", impl.DoNone)
	wantList(t, someTree(), "/", "a ab e", impl.DoFine)
	wantList(t, someTree(), "/a", "b c cc", impl.DoFine)
	wantList(t, someTree(), "/a/c", "d", impl.DoFine)
	wantList(t, someTree(), "/e", "", impl.DoFine)
	wantList(t, someTree(), "/q", "", impl.DoNone)
	wantList(t, someTree(), "/a/q", "", impl.DoNone)
	wantList(t, someTree(), "/q/a", "", impl.DoNone)
	wantList(t, someTree(), "/ab/q", "", impl.DoNone)
	wantList(t, someTree(), "/a/b/q", "", impl.DoNone)
	wantList(t, someTree(), "/ab", "", impl.DoNotDir)
	wantList(t, someTree(), "/a/b", "", impl.DoNotDir)
	wantList(t, someTree(), "/a/c/d", "", impl.DoNotDir)
	wantList(t, filesAnd(impl.TreeMost), "/", strings.Join(manyNames(impl.TreeMost), " "), impl.DoFine)
	// In order, and each once, though what is below comes between.
	wantList(t, treeWith(dirAt("/a"), dirAt("/a/a"), fileAt("/a/a/a", ""), dirAt("/aa"), fileAt("/aa/a", ""), fileAt("/aaa", ""), dirAt("/b"), fileAt("/b/a", "")), "/", "a aa aaa b", impl.DoFine)
}

func TestTreeListNoPath(t *testing.T) {
	for _, path := range badPaths() {
		wantList(t, nil, path, "", impl.DoBad)
		wantList(t, someTree(), path, "", impl.DoBad)
	}
}

func TestTreeDoMake(t *testing.T) {
	wantDone(t, nil, makeOp("/a"), dirAt("/a"))
	wantDone(t, treeWith(dirAt("/a")), makeOp("/a/b"), dirAt("/a"), dirAt("/a/b"))
	wantDone(t, treeWith(dirAt("/a"), dirAt("/a/b")), makeOp("/a/b/c"), dirAt("/a"), dirAt("/a/b"), dirAt("/a/b/c"))
	wantDone(t, treeWith(fileAt("/ab", "x")), makeOp("/a"), dirAt("/a"), fileAt("/ab", "x"))
	wantDone(t, treeWith(dirAt("/a"), fileAt("/ab", "x")), makeOp("/a/b"), dirAt("/a"), dirAt("/a/b"), fileAt("/ab", "x"))
	wantDone(t, treeWith(fileAt("/a", "x")), makeOp("/ab"), fileAt("/a", "x"), dirAt("/ab"))
	wantEnded(t, nil, makeOp("/a/b"), impl.DoNone)
	wantEnded(t, someTree(), makeOp("/q/r"), impl.DoNone)
	wantEnded(t, someTree(), makeOp("/a/q/r"), impl.DoNone)
	// What it would be in is in a file, and so nothing is there.
	wantEnded(t, someTree(), makeOp("/ab/c/d"), impl.DoNone)
	wantEnded(t, someTree(), makeOp("/ab/c"), impl.DoNotDir)
	wantEnded(t, someTree(), makeOp("/a/b/c"), impl.DoNotDir)
	wantEnded(t, someTree(), makeOp("/a"), impl.DoThere)
	wantEnded(t, someTree(), makeOp("/ab"), impl.DoThere)
	wantEnded(t, someTree(), makeOp("/a/c"), impl.DoThere)
	wantEnded(t, someTree(), makeOp("/a/c/d"), impl.DoThere)
}

func TestTreeDoMakeRoom(t *testing.T) {
	ahead := filesAnd(impl.TreeMost-1, dirAt("/a"))
	wantDone(t, ahead, makeOp("/a/b"), slices.Insert(slices.Clone(ahead), 1, dirAt("/a/b"))...)
	full := filesAnd(impl.TreeMost, dirAt("/a"))
	wantEnded(t, full, makeOp("/ab"), impl.DoRoom)
	wantEnded(t, full, makeOp("/a/b"), impl.DoRoom)
	wantEnded(t, full, makeOp("/q/b"), impl.DoNone)
	wantEnded(t, full, makeOp("/ba/b"), impl.DoNotDir)
	wantEnded(t, full, makeOp("/a"), impl.DoThere)
	wantEnded(t, full, makeOp("/ba"), impl.DoThere)
}

func TestTreeDoPut(t *testing.T) {
	wantDone(t, nil, putOp("/a", "x"), fileAt("/a", "x"))
	wantDone(t, nil, putOp("/a", ""), fileAt("/a", ""))
	wantDone(t, nil, putOp("/a", "ab0189"), fileAt("/a", "ab0189"))
	wantDone(t, treeWith(dirAt("/a"), fileAt("/ab", "y")), putOp("/a/b", "x"), dirAt("/a"), fileAt("/a/b", "x"), fileAt("/ab", "y"))
	wantDone(t, treeWith(dirAt("/a"), dirAt("/a/b")), putOp("/a/b/c", ""), dirAt("/a"), dirAt("/a/b"), fileAt("/a/b/c", ""))
	// Where a file is already: other data, none, and the same.
	wantDone(t, treeWith(fileAt("/a", "x"), fileAt("/b", "x")), putOp("/a", "y"), fileAt("/a", "y"), fileAt("/b", "x"))
	wantDone(t, treeWith(fileAt("/a", "x"), fileAt("/b", "x")), putOp("/b", ""), fileAt("/a", "x"), fileAt("/b", ""))
	wantDone(t, treeWith(fileAt("/a", "x"), fileAt("/b", "x")), putOp("/a", "x"), fileAt("/a", "x"), fileAt("/b", "x"))
	wantDone(t, treeWith(fileAt("/a", "")), putOp("/a", ""), fileAt("/a", ""))
	wantEnded(t, nil, putOp("/a/b", "x"), impl.DoNone)
	wantEnded(t, someTree(), putOp("/q/r", ""), impl.DoNone)
	wantEnded(t, someTree(), putOp("/ab/c/d", ""), impl.DoNone)
	wantEnded(t, someTree(), putOp("/ab/c", "x"), impl.DoNotDir)
	wantEnded(t, someTree(), putOp("/a/b/c", ""), impl.DoNotDir)
	wantEnded(t, someTree(), putOp("/a", "x"), impl.DoIsDir)
	wantEnded(t, someTree(), putOp("/e", ""), impl.DoIsDir)
	wantEnded(t, someTree(), putOp("/a/c", ""), impl.DoIsDir)
}

func TestTreeDoPutRoom(t *testing.T) {
	ahead := filesAnd(impl.TreeMost-1, dirAt("/a"))
	wantDone(t, ahead, putOp("/a/b", "x"), slices.Insert(slices.Clone(ahead), 1, fileAt("/a/b", "x"))...)
	full := filesAnd(impl.TreeMost, dirAt("/a"), fileAt("/a/b", "x"))
	wantEnded(t, full, putOp("/ab", "x"), impl.DoRoom)
	wantEnded(t, full, putOp("/a/c", ""), impl.DoRoom)
	wantEnded(t, full, putOp("/q/b", ""), impl.DoNone)
	wantEnded(t, full, putOp("/ba/b", ""), impl.DoNotDir)
	wantEnded(t, full, putOp("/a", ""), impl.DoIsDir)
	wantDone(t, full, putOp("/a/b", "x"), full...)
	other := slices.Clone(full)
	other[1].Data = "y"
	wantDone(t, full, putOp("/a/b", "y"), other...)
}

func TestTreeDoRm(t *testing.T) {
	wantDone(t, treeWith(fileAt("/a", "x")), rmOp("/a"))
	wantDone(t, treeWith(dirAt("/a"), fileAt("/a/b", ""), fileAt("/ab", "")), rmOp("/a/b"), dirAt("/a"), fileAt("/ab", ""))
	wantDone(t, treeWith(dirAt("/a"), fileAt("/a/b", ""), fileAt("/ab", "")), rmOp("/ab"), dirAt("/a"), fileAt("/a/b", ""))
	wantDone(t, treeWith(fileAt("/a", ""), fileAt("/ab", "")), rmOp("/a"), fileAt("/ab", ""))
	wantDone(t, filesAnd(impl.TreeMost), rmOp("/ba"), filesAnd(impl.TreeMost)[1:]...)
	wantEnded(t, nil, rmOp("/a"), impl.DoNone)
	wantEnded(t, someTree(), rmOp("/q"), impl.DoNone)
	wantEnded(t, someTree(), rmOp("/a/q"), impl.DoNone)
	wantEnded(t, someTree(), rmOp("/ab/q"), impl.DoNone)
	wantEnded(t, someTree(), rmOp("/q/r/s"), impl.DoNone)
	wantEnded(t, someTree(), rmOp("/a"), impl.DoIsDir)
	wantEnded(t, someTree(), rmOp("/e"), impl.DoIsDir)
	wantEnded(t, someTree(), rmOp("/a/c"), impl.DoIsDir)
}

func TestTreeDoRmdir(t *testing.T) {
	wantDone(t, treeWith(dirAt("/a")), rmdirOp("/a"))
	wantDone(t, treeWith(dirAt("/a"), dirAt("/a/b"), dirAt("/ab")), rmdirOp("/a/b"), dirAt("/a"), dirAt("/ab"))
	// It is empty, though its name begins that of others.
	wantDone(t, treeWith(dirAt("/a"), dirAt("/ab"), fileAt("/ab/c", "")), rmdirOp("/a"), dirAt("/ab"), fileAt("/ab/c", ""))
	wantDone(t, treeWith(dirAt("/a"), dirAt("/a/b"), fileAt("/a/bc", "")), rmdirOp("/a/b"), dirAt("/a"), fileAt("/a/bc", ""))
	wantEnded(t, nil, rmdirOp("/a"), impl.DoNone)
	wantEnded(t, someTree(), rmdirOp("/q"), impl.DoNone)
	wantEnded(t, someTree(), rmdirOp("/ab/q"), impl.DoNone)
	wantEnded(t, someTree(), rmdirOp("/ab"), impl.DoNotDir)
	wantEnded(t, someTree(), rmdirOp("/a/c/d"), impl.DoNotDir)
	wantEnded(t, someTree(), rmdirOp("/a"), impl.DoKept)
	wantEnded(t, someTree(), rmdirOp("/a/c"), impl.DoKept)
	wantEnded(t, treeWith(dirAt("/a"), dirAt("/a/b")), rmdirOp("/a"), impl.DoKept)
}

func TestTreeDoMove(t *testing.T) {
	wantDone(t, treeWith(fileAt("/a", "x")), moveOp("/a", "/b"), fileAt("/b", "x"))
	wantDone(t, treeWith(dirAt("/a"), fileAt("/b", "")), moveOp("/b", "/a/b"), dirAt("/a"), fileAt("/a/b", ""))
	wantDone(t, treeWith(dirAt("/a"), dirAt("/a/b"), fileAt("/c", "x")), moveOp("/c", "/a/b/d"), dirAt("/a"), dirAt("/a/b"), fileAt("/a/b/d", "x"))
	wantDone(t, treeWith(dirAt("/a"), dirAt("/b")), moveOp("/a", "/b/a"), dirAt("/b"), dirAt("/b/a"))
	wantDone(t, treeWith(dirAt("/a"), fileAt("/a/b", "1"), fileAt("/a/c", "2")), moveOp("/a/c", "/a/a"), dirAt("/a"), fileAt("/a/a", "2"), fileAt("/a/b", "1"))
	// All that is below goes along, and the places in the order change.
	wantDone(t, treeWith(dirAt("/a"), dirAt("/a/b"), fileAt("/a/b/c", "x"), dirAt("/d"), fileAt("/e", "y")), moveOp("/a", "/z"),
		dirAt("/d"), fileAt("/e", "y"), dirAt("/z"), dirAt("/z/b"), fileAt("/z/b/c", "x"))
	wantDone(t, treeWith(dirAt("/a"), dirAt("/a/b"), fileAt("/a/b/c", "x"), dirAt("/d")), moveOp("/a/b", "/d/b"),
		dirAt("/a"), dirAt("/d"), dirAt("/d/b"), fileAt("/d/b/c", "x"))
	wantDone(t, treeWith(dirAt("/b"), fileAt("/b/a", ""), fileAt("/c", "")), moveOp("/b", "/a"), dirAt("/a"), fileAt("/a/a", ""), fileAt("/c", ""))
	// A move takes no more room.
	full := filesAnd(impl.TreeMost, dirAt("/a"), fileAt("/a/b", "x"))
	wantDone(t, full, moveOp("/a", "/aa"), filesAnd(impl.TreeMost, dirAt("/aa"), fileAt("/aa/b", "x"))...)
}

func TestTreeDoMoveOfNamesThatBeginOthers(t *testing.T) {
	tree := treeWith(dirAt("/a"), fileAt("/a/b", "x"), dirAt("/ab"), fileAt("/ab/c", "y"), fileAt("/abc", "z"))
	wantDone(t, tree, moveOp("/a", "/d"), dirAt("/ab"), fileAt("/ab/c", "y"), fileAt("/abc", "z"), dirAt("/d"), fileAt("/d/b", "x"))
	wantDone(t, tree, moveOp("/ab", "/b"), dirAt("/a"), fileAt("/a/b", "x"), fileAt("/abc", "z"), dirAt("/b"), fileAt("/b/c", "y"))
	wantDone(t, tree, moveOp("/a", "/ab/a"), dirAt("/ab"), dirAt("/ab/a"), fileAt("/ab/a/b", "x"), fileAt("/ab/c", "y"), fileAt("/abc", "z"))
	wantDone(t, treeWith(dirAt("/a"), fileAt("/a/b", "x")), moveOp("/a", "/aa"), dirAt("/aa"), fileAt("/aa/b", "x"))
	wantDone(t, treeWith(dirAt("/aa"), fileAt("/aa/b", "x")), moveOp("/aa", "/a"), dirAt("/a"), fileAt("/a/b", "x"))
}

func TestTreeDoMoveEnds(t *testing.T) {
	wantEnded(t, nil, moveOp("/a", "/b"), impl.DoNone)
	wantEnded(t, someTree(), moveOp("/q", "/r"), impl.DoNone)
	wantEnded(t, someTree(), moveOp("/ab/q", "/r"), impl.DoNone)
	wantEnded(t, someTree(), moveOp("/a", "/q/a"), impl.DoNone)
	wantEnded(t, someTree(), moveOp("/e", "/ab/c/d"), impl.DoNone)
	wantEnded(t, someTree(), moveOp("/e", "/ab/c"), impl.DoNotDir)
	wantEnded(t, someTree(), moveOp("/e", "/a"), impl.DoThere)
	wantEnded(t, someTree(), moveOp("/e", "/ab"), impl.DoThere)
	wantEnded(t, someTree(), moveOp("/a/b", "/a/cc"), impl.DoThere)
	// Into itself, and onto itself.
	wantEnded(t, someTree(), moveOp("/a", "/a/q"), impl.DoUnder)
	wantEnded(t, someTree(), moveOp("/a", "/a/c/q"), impl.DoUnder)
	wantEnded(t, someTree(), moveOp("/e", "/e/e"), impl.DoUnder)
	wantEnded(t, someTree(), moveOp("/a", "/a"), impl.DoThere)
	wantEnded(t, someTree(), moveOp("/ab", "/ab"), impl.DoThere)
	wantEnded(t, someTree(), moveOp("/ab", "/ab/q"), impl.DoNotDir)
}

func TestTreeDoMoveTooDeep(t *testing.T) {
	tree := treeWith(dirAt("/a"), fileAt("/a/b", ""), dirAt("/c"), dirAt("/c/d"), fileAt("/c/d/e", ""), dirAt("/f"), dirAt("/f/g"))
	wantDone(t, tree, moveOp("/a", "/f/a"), dirAt("/c"), dirAt("/c/d"), fileAt("/c/d/e", ""), dirAt("/f"), dirAt("/f/a"), fileAt("/f/a/b", ""), dirAt("/f/g"))
	wantEnded(t, tree, moveOp("/a", "/f/g/a"), impl.DoRoom)
	wantEnded(t, tree, moveOp("/c", "/f/c"), impl.DoRoom)
	wantEnded(t, tree, moveOp("/c", "/f/g/c"), impl.DoRoom)
	wantEnded(t, tree, moveOp("/c/d", "/f/g/d"), impl.DoRoom)
	wantDone(t, tree, moveOp("/c/d", "/f/d"), dirAt("/a"), fileAt("/a/b", ""), dirAt("/c"), dirAt("/f"), dirAt("/f/d"), fileAt("/f/d/e", ""), dirAt("/f/g"))
	wantDone(t, tree, moveOp("/c/d/e", "/f/g/e"), dirAt("/a"), fileAt("/a/b", ""), dirAt("/c"), dirAt("/c/d"), dirAt("/f"), dirAt("/f/g"), fileAt("/f/g/e", ""))
	// One of several that go along is too deep: none goes.
	wantEnded(t, treeWith(dirAt("/a"), fileAt("/a/b", ""), dirAt("/a/c"), fileAt("/a/c/d", ""), fileAt("/a/e", ""), dirAt("/f")), moveOp("/a", "/f/a"), impl.DoRoom)
}

// Two codes apply, and the one that is listed first is told.
func TestTreeDoMoveFirstCode(t *testing.T) {
	tree := treeWith(dirAt("/a"), dirAt("/a/b"), fileAt("/a/b/c", ""), fileAt("/a/f", ""), dirAt("/d"), dirAt("/d/e"), fileAt("/f", ""))
	wantEnded(t, tree, moveOp("/q", "/f/a"), impl.DoNone)
	wantEnded(t, tree, moveOp("/q", "/d"), impl.DoNone)
	wantEnded(t, tree, moveOp("/q", "/q/a"), impl.DoNone)
	wantEnded(t, tree, moveOp("/a", "/q/a"), impl.DoNone)
	wantEnded(t, tree, moveOp("/a", "/a/q/r"), impl.DoNone)
	wantEnded(t, tree, moveOp("/a", "/f/a"), impl.DoNotDir)
	wantEnded(t, tree, moveOp("/a", "/a/f/q"), impl.DoNotDir)
	wantEnded(t, tree, moveOp("/f", "/f/q"), impl.DoNotDir)
	wantEnded(t, tree, moveOp("/a", "/a/b"), impl.DoThere)
	wantEnded(t, tree, moveOp("/a", "/a/b/c"), impl.DoThere)
	wantEnded(t, tree, moveOp("/a", "/d/e"), impl.DoThere)
	wantEnded(t, tree, moveOp("/a", "/a/q"), impl.DoUnder)
}

func TestTreeTurned(t *testing.T) {
	for _, tree := range goodTrees() {
		wantTurned(t, tree, tree)
		var paths []string
		for _, e := range tree {
			paths = append(paths, e.Path)
		}
		wantTurned(t, nil, tree, paths...)
	}
	wantTurned(t, treeWith(fileAt("/a", "x")), treeWith(fileAt("/a", "y")), "/a")
	wantTurned(t, treeWith(fileAt("/a", "x")), treeWith(fileAt("/a", "")), "/a")
	wantTurned(t, treeWith(fileAt("/a", "")), treeWith(dirAt("/a")), "/a")
	wantTurned(t, treeWith(dirAt("/a"), fileAt("/a/b", "")), treeWith(dirAt("/a")), "/a/b")
	wantTurned(t, treeWith(dirAt("/a"), fileAt("/a/b", "")), treeWith(fileAt("/a", "")), "/a", "/a/b")
	wantTurned(t, treeWith(dirAt("/a"), fileAt("/a/b", "")), treeWith(fileAt("/ab", "")), "/a", "/a/b", "/ab")
	wantTurned(t, treeWith(fileAt("/a", ""), fileAt("/c", "")), treeWith(fileAt("/b", ""), fileAt("/d", "")), "/a", "/b", "/c", "/d")
	wantTurned(t, treeWith(fileAt("/c", ""), fileAt("/d", "")), treeWith(fileAt("/a", ""), fileAt("/d", "x")), "/a", "/c", "/d")
	// As many as there can be.
	var paths []string
	for _, name := range manyNames(2 * impl.TreeMost) {
		paths = append(paths, "/"+name)
	}
	wantTurned(t, filesAnd(2 * impl.TreeMost)[:impl.TreeMost], filesAnd(2 * impl.TreeMost)[impl.TreeMost:], paths...)
}

func TestTreeTurnedByWhatIsDone(t *testing.T) {
	turned := func(op impl.Op, want ...string) {
		t.Helper()
		done, _ := treeDo(t, someTree(), op)
		wantTurned(t, someTree(), done, want...)
	}
	turned(makeOp("/a/d"), "/a/d")
	turned(putOp("/ab", "z"), "/ab")
	turned(putOp("/ab", "y"))
	turned(putOp("/aa", ""), "/aa")
	turned(rmOp("/a/c/d"), "/a/c/d")
	turned(rmdirOp("/e"), "/e")
	turned(moveOp("/a/c", "/aa"), "/a/c", "/a/c/d", "/aa", "/aa/d")
	turned(moveOp("/a", "/e/a"))
	turned(rmOp("/q"))
}

func TestTreeDoStepByStep(t *testing.T) {
	var tree []impl.Ent
	for _, op := range []impl.Op{
		makeOp("/a"), putOp("/a/b", "x"), putOp("/ab", "y"), makeOp("/a/c"), putOp("/a/c/d", "z"), moveOp("/a", "/c"), putOp("/c/b", ""), rmOp("/ab"), moveOp("/c/c", "/a"), rmOp("/c/b"), rmdirOp("/c"),
	} {
		next, code := treeDo(t, tree, op)
		if code != impl.DoFine {
			t.Fatalf("TreeDo(%v, %v) tells %d", tree, op, code)
		}
		tree = next
	}
	if want := treeWith(dirAt("/a"), fileAt("/a/d", "z")); !slices.Equal(tree, want) {
		t.Errorf("in the end %v; want %v", tree, want)
	}
}

// What is told lies on no bytes of what was given; texts too.
func TestTreeAnswersAreNewMemory(t *testing.T) {
	given := []impl.Ent{dirAt(strings.Clone("/abc")), fileAt(strings.Clone("/abc/def"), strings.Clone("data12")), fileAt(strings.Clone("/xyz"), strings.Clone("data34"))}
	texts := func(t []impl.Ent) []string {
		var all []string
		for _, e := range t {
			all = append(all, e.Path, e.Data)
		}
		return all
	}
	fresh := func(what string, answer []string, arguments ...string) {
		for i, x := range answer {
			for _, y := range slices.Concat(texts(given), arguments, answer[:i]) {
				if sharesMemory(x, y) {
					t.Errorf("%s: %q shares memory with %q", what, x, y)
				}
			}
		}
	}
	path := strings.Clone("/abc/def")
	e, _ := impl.TreeGet(given, path)
	fresh("TreeGet", []string{e.Path, e.Data}, path)
	root := strings.Clone("/")
	e, _ = impl.TreeGet(given, root)
	fresh("TreeGet", []string{e.Path, e.Data}, root)
	names, _ := impl.TreeList(given, "/abc")
	fresh("TreeList", names)
	names, _ = impl.TreeList(given, "/")
	fresh("TreeList", names)
	fresh("TreeTurned", impl.TreeTurned(given, nil))
	fresh("TreeTurned", impl.TreeTurned(nil, given))
	for _, op := range []impl.Op{makeOp("/new"), putOp("/new", "data56"), putOp("/xyz", "data56"), rmOp("/xyz"), rmdirOp("/abc"), moveOp("/abc", "/new"), moveOp("/xyz", "/abc/xyz"), rmOp("none")} {
		op.Path, op.To, op.Data = strings.Clone(op.Path), strings.Clone(op.To), strings.Clone(op.Data)
		done, _ := impl.TreeDo(given, op)
		fresh("TreeDo", texts(done), op.Path, op.To, op.Data)
	}
}
