package tests

import (
	"slices"
	"strings"
	"testing"

	"loop.example/pargeting/impl"
)

// someLayer has marks of each kind, one to three names deep, and names that begin others.
func someLayer() []impl.Mark {
	return layerWith(
		dirMark("/a"),
		goneMark("/a/b"),
		bareMark("/a/c"),
		fileMark("/a/c/q", "n"),
		dirMark("/ab"),
		dirMark("/ab/d"),
		goneMark("/ab/d/e"),
		bareMark("/ab/d/f"),
		fileMark("/ab/d/g", ""),
		fileMark("/f", "x1"),
		goneMark("/g"),
		bareMark("/h"),
		dirMark("/h/i"),
		dirMark("/h/i/j"),
		fileMark("/h/i/k", "123456"),
	)
}

func goodLayers() [][]impl.Mark {
	return [][]impl.Mark{
		nil,
		{},
		layerWith(fileMark("/a", "")),
		layerWith(fileMark("/a", "z9")),
		layerWith(dirMark("/a")),
		layerWith(goneMark("/a")),
		layerWith(bareMark("/a")),
		layerWith(dirMark("/a"), fileMark("/a/b", "")),
		layerWith(dirMark("/a"), dirMark("/a/b")),
		layerWith(dirMark("/a"), goneMark("/a/b")),
		layerWith(dirMark("/a"), bareMark("/a/b")),
		layerWith(bareMark("/a"), fileMark("/a/b", "")),
		layerWith(bareMark("/a"), dirMark("/a/b")),
		layerWith(bareMark("/a"), dirMark("/a/b"), fileMark("/a/b/c", "")),
		layerWith(bareMark("/a"), dirMark("/a/b"), dirMark("/a/b/c")),
		layerWith(dirMark("/a"), bareMark("/a/b"), dirMark("/a/b/c"), goneMark("/a/c")),
		layerWith(dirMark("/a"), dirMark("/a/b"), goneMark("/a/b/c")),
		layerWith(dirMark("/a"), dirMark("/a/b"), bareMark("/a/b/c")),
		// What is gone, or bare, is beside what is bare, though the name of that begins its own.
		layerWith(bareMark("/a"), dirMark("/a/b"), goneMark("/ab"), bareMark("/abc")),
		layerWith(dirMark("/a"), bareMark("/a/b"), goneMark("/a/bc")),
		layerWith(dirMark("/abc"), dirMark("/abc/abc"), fileMark("/abc/abc/abc", "abc123")),
		someLayer(),
		marksAnd(2 * impl.TreeMost),
		goneAnd(2*impl.TreeMost, dirMark("/a"), bareMark("/a/b"), dirMark("/a/b/c")),
	}
}

func TestMarkKinds(t *testing.T) {
	got := []int{impl.MarkFile, impl.MarkDir, impl.MarkGone, impl.MarkBare}
	if want := []int{1, 2, 3, 4}; !slices.Equal(got, want) {
		t.Errorf("the constants are %v; want %v", got, want)
	}
}

func TestLayerOk(t *testing.T) {
	for _, l := range goodLayers() {
		if !layerOk(t, l) {
			t.Errorf("LayerOk(%v) = false", l)
		}
	}
	if !impl.LayerOk(nil) {
		t.Error("LayerOk(nil) = false")
	}
}

func TestLayerSame(t *testing.T) {
	layers := append(goodLayers()[1:], brokenLayers()...)
	for i, a := range layers {
		for j, b := range layers {
			if got := layerSame(t, a, slices.Clone(b)); got != (i == j) {
				t.Errorf("LayerSame(%v, %v) = %v", brief(a), brief(b), got)
			}
		}
	}
	if !impl.LayerSame(nil, []impl.Mark{}) || !impl.LayerSame([]impl.Mark{}, nil) || !impl.LayerSame(nil, nil) {
		t.Error("LayerSame: the empty list and the nil list are not the same")
	}
}

func TestLayerSameInOnePartAlone(t *testing.T) {
	l := someLayer()
	for i := range l {
		for _, turn := range []func(*impl.Mark){
			func(m *impl.Mark) { m.Path += "x" },
			func(m *impl.Mark) { m.Path = "" },
			func(m *impl.Mark) { m.Kind++ },
			func(m *impl.Mark) { m.Kind = -m.Kind },
			func(m *impl.Mark) { m.Data += "x" },
		} {
			other := slices.Clone(l)
			turn(&other[i])
			if layerSame(t, l, other) || layerSame(t, other, l) {
				t.Errorf("LayerSame(%v, %v) = true", l, other)
			}
		}
		if shorter := slices.Delete(slices.Clone(l), i, i+1); layerSame(t, l, shorter) || layerSame(t, shorter, l) {
			t.Errorf("LayerSame(%v, %v) = true", l, shorter)
		}
	}
	swapped := layerWith(fileMark("/b", ""), fileMark("/a", ""))
	if layerSame(t, swapped, layerWith(fileMark("/a", ""), fileMark("/b", ""))) {
		t.Error("LayerSame of two in another order = true")
	}
}

func TestLayerHides(t *testing.T) {
	l := someLayer()
	// At the path of a mark.
	wantHides(t, l, true, "/a/b", "/a/c", "/a/c/q", "/ab/d/e", "/ab/d/f", "/ab/d/g", "/f", "/g", "/h", "/h/i/k")
	wantHides(t, l, false, "/a", "/ab", "/ab/d")
	// Below one; what is below a MarkBare is hidden also at a MarkDir.
	wantHides(t, l, true, "/a/b/c", "/a/c/d", "/a/c/qq", "/f/a", "/f/a/b", "/g/a", "/g/a/b", "/h/a", "/h/i", "/h/i/j", "/h/i/a", "/h/a/b")
	wantHides(t, l, false, "/a/d", "/a/d/e", "/ab/b", "/ab/c", "/ab/c/q", "/ab/d/h")
	// Beside one, and where its name begins another one.
	wantHides(t, l, false, "/aa", "/abc", "/b", "/e", "/ff", "/fa", "/gg", "/gh/a", "/hi", "/hi/j/k", "/a/bb", "/a/bc/d", "/a/cc", "/a/cq", "/ab/d/ee")
}

func TestLayerHidesAheadOfAMark(t *testing.T) {
	l := layerWith(dirMark("/a"), dirMark("/a/b"), goneMark("/a/b/c"))
	wantHides(t, l, false, "/a", "/a/b", "/a/c", "/a/b/cc", "/a/b/d")
	wantHides(t, l, true, "/a/b/c")
	for _, path := range []string{"/a", "/a/b", "/a/b/c", "/b"} {
		wantHides(t, nil, false, path)
		wantHides(t, layerWith(dirMark("/a"), dirMark("/a/b"), dirMark("/a/b/c")), false, path)
	}
	for _, at := range []impl.Mark{fileMark("/a", "x"), goneMark("/a"), bareMark("/a")} {
		wantHides(t, layerWith(at), true, "/a", "/a/b", "/a/b/c", "/a/a")
		wantHides(t, layerWith(at), false, "/ab", "/aa", "/b", "/b/a", "/ab/a")
	}
	for _, at := range []impl.Mark{fileMark("/a/b", "x"), goneMark("/a/b"), bareMark("/a/b")} {
		wantHides(t, layerWith(dirMark("/a"), at), true, "/a/b", "/a/b/c", "/a/b/b")
		wantHides(t, layerWith(dirMark("/a"), at), false, "/a", "/a/bc", "/a/a", "/a/a/b", "/b", "/ab", "/b/b")
	}
}

func TestLayerHidesNoPath(t *testing.T) {
	for _, l := range [][]impl.Mark{nil, someLayer(), layerWith(goneMark("/a")), layerWith(bareMark("/a"), fileMark("/a/b", "x"))} {
		wantHides(t, l, false, "/")
		wantHides(t, l, false, badPaths()...)
	}
	// Each of these would be hidden, were it a path.
	wantHides(t, layerWith(goneMark("/a")), false, "a", "a/b", "//a", "/a/", "/a//b", "/a/b/c/d", "/a/B", "/a/bcde", "/a/ ", "/a\x00")
}

func TestLayerOn(t *testing.T) {
	for _, tree := range goodTrees() {
		wantSeen(t, nil, tree, tree...)
		wantSeen(t, layerWith(), tree, tree...)
	}
	wantSeen(t, layerWith(fileMark("/a", "x")), nil, fileAt("/a", "x"))
	wantSeen(t, layerWith(dirMark("/a"), fileMark("/a/b", "")), nil, dirAt("/a"), fileAt("/a/b", ""))
	wantSeen(t, layerWith(bareMark("/a"), dirMark("/a/b"), fileMark("/a/b/c", "z")), nil, dirAt("/a"), dirAt("/a/b"), fileAt("/a/b/c", "z"))
	wantSeen(t, layerWith(fileMark("/e", "x"), fileMark("/f", "y")), someTree(),
		dirAt("/a"), fileAt("/a/b", "x"), dirAt("/a/c"), fileAt("/a/c/d", ""), fileAt("/a/cc", "1"), fileAt("/ab", "y"), fileAt("/e", "x"), fileAt("/f", "y"))
	wantSeen(t, someLayer(), someTree(),
		dirAt("/a"), dirAt("/a/c"), fileAt("/a/c/q", "n"), fileAt("/a/cc", "1"),
		dirAt("/ab"), dirAt("/ab/d"), dirAt("/ab/d/f"), fileAt("/ab/d/g", ""), dirAt("/e"), fileAt("/f", "x1"),
		dirAt("/h"), dirAt("/h/i"), dirAt("/h/i/j"), fileAt("/h/i/k", "123456"))
}

// Each kind on nothing, on a file, and on a directory with what is below it.
func TestLayerOnEachKind(t *testing.T) {
	file, full := treeWith(fileAt("/a", "y"), fileAt("/ab", "z")), treeWith(dirAt("/a"), dirAt("/a/b"), fileAt("/a/b/c", "y"), fileAt("/ab", "z"))
	ab := fileAt("/ab", "z")
	for _, tree := range [][]impl.Ent{treeWith(ab), file, full} {
		wantSeen(t, layerWith(fileMark("/a", "x")), tree, fileAt("/a", "x"), ab)
		wantSeen(t, layerWith(fileMark("/a", "")), tree, fileAt("/a", ""), ab)
		wantSeen(t, layerWith(goneMark("/a")), tree, ab)
		wantSeen(t, layerWith(bareMark("/a")), tree, dirAt("/a"), ab)
		wantSeen(t, layerWith(bareMark("/a"), dirMark("/a/b")), tree, dirAt("/a"), dirAt("/a/b"), ab)
		wantSeen(t, layerWith(bareMark("/a"), fileMark("/a/b", "x")), tree, dirAt("/a"), fileAt("/a/b", "x"), ab)
		wantSeen(t, layerWith(dirMark("/a"), bareMark("/a/b")), tree, dirAt("/a"), dirAt("/a/b"), ab)
		wantSeen(t, layerWith(dirMark("/a"), goneMark("/a/b")), tree, dirAt("/a"), ab)
	}
	wantSeen(t, layerWith(dirMark("/a")), treeWith(ab), dirAt("/a"), ab)
	wantSeen(t, layerWith(dirMark("/a")), file, dirAt("/a"), ab)
	wantSeen(t, layerWith(dirMark("/a")), full, full...)
	wantSeen(t, layerWith(dirMark("/a"), dirMark("/a/b"), fileMark("/a/b/d", "x")), file, dirAt("/a"), dirAt("/a/b"), fileAt("/a/b/d", "x"), ab)
	wantSeen(t, layerWith(dirMark("/a"), dirMark("/a/b"), fileMark("/a/b/d", "x")), full, dirAt("/a"), dirAt("/a/b"), fileAt("/a/b/c", "y"), fileAt("/a/b/d", "x"), ab)
	wantSeen(t, layerWith(dirMark("/a"), dirMark("/a/b"), dirMark("/a/b/c")), full, dirAt("/a"), dirAt("/a/b"), dirAt("/a/b/c"), ab)
	wantSeen(t, layerWith(dirMark("/a"), fileMark("/a/b", "x")), full, dirAt("/a"), fileAt("/a/b", "x"), ab)
}

func TestLayerOnTakesAwayWhatIsNotThere(t *testing.T) {
	for _, tree := range goodTrees() {
		wantSeen(t, layerWith(goneMark("/q"), goneMark("/zzz")), tree, tree...)
	}
	wantSeen(t, layerWith(goneMark("/a")), nil)
	wantSeen(t, layerWith(dirMark("/a"), goneMark("/a/q"), goneMark("/q")), someTree(), someTree()...)
	wantSeen(t, layerWith(dirMark("/a"), dirMark("/a/q"), goneMark("/a/q/r")), treeWith(fileAt("/a", "x")), dirAt("/a"), dirAt("/a/q"))
	wantSeen(t, goneAnd(2*impl.TreeMost), treeWith(fileAt("/a", "x")), fileAt("/a", "x"))
	wantSeen(t, goneAnd(2*impl.TreeMost), filesAnd(impl.TreeMost))
}

func TestLayerOnNamesThatBeginOthers(t *testing.T) {
	tree := treeWith(dirAt("/a"), fileAt("/a/b", "1"), dirAt("/a/bc"), fileAt("/a/bc/d", "2"), dirAt("/ab"), fileAt("/ab/c", "3"), fileAt("/abc", "4"))
	wantSeen(t, layerWith(goneMark("/a")), tree, dirAt("/ab"), fileAt("/ab/c", "3"), fileAt("/abc", "4"))
	wantSeen(t, layerWith(fileMark("/ab", "x")), tree, dirAt("/a"), fileAt("/a/b", "1"), dirAt("/a/bc"), fileAt("/a/bc/d", "2"), fileAt("/ab", "x"), fileAt("/abc", "4"))
	wantSeen(t, layerWith(dirMark("/a"), bareMark("/a/b")), tree, dirAt("/a"), dirAt("/a/b"), dirAt("/a/bc"), fileAt("/a/bc/d", "2"), dirAt("/ab"), fileAt("/ab/c", "3"), fileAt("/abc", "4"))
	// What is in /a comes ahead of /ab, whichever of the two has it.
	wantSeen(t, layerWith(dirMark("/a"), fileMark("/a/b", "x")), treeWith(dirAt("/a"), fileAt("/ab", "y")), dirAt("/a"), fileAt("/a/b", "x"), fileAt("/ab", "y"))
	wantSeen(t, layerWith(fileMark("/ab", "x")), treeWith(dirAt("/a"), fileAt("/a/b", "y")), dirAt("/a"), fileAt("/a/b", "y"), fileAt("/ab", "x"))
}

func TestLayerOnTreeMost(t *testing.T) {
	full := filesAnd(impl.TreeMost, dirAt("/a"))
	wantSeen(t, layerWith(dirMark("/a"), fileMark("/a/b", "x")), full[:15], slices.Insert(slices.Clone(full[:15]), 1, fileAt("/a/b", "x"))...)
	wantNotSeen(t, layerWith(dirMark("/a"), fileMark("/a/b", "x")), full)
	wantNotSeen(t, layerWith(fileMark("/zzz", "x")), full)
	wantNotSeen(t, layerWith(bareMark("/aa")), full)
	// What comes in the place of something, and what goes, makes room.
	wantSeen(t, layerWith(fileMark("/a", "x")), full, filesAnd(impl.TreeMost, fileAt("/a", "x"))...)
	wantSeen(t, layerWith(goneMark("/a"), fileMark("/aa", "x")), full, filesAnd(impl.TreeMost, fileAt("/aa", "x"))...)
	wantSeen(t, layerWith(fileMark("/aa", "x"), goneMark("/ba")), filesAnd(impl.TreeMost), slices.Insert(filesAnd(impl.TreeMost)[1:], 0, fileAt("/aa", "x"))...)
	wantSeen(t, layerWith(bareMark("/a"), fileMark("/a/z", "x")), filesAnd(impl.TreeMost, dirAt("/a"), fileAt("/a/b", "")), filesAnd(impl.TreeMost, dirAt("/a"), fileAt("/a/z", "x"))...)
	// The layer alone has as many as a tree may have, and one more.
	var seen []impl.Ent
	for _, m := range marksAnd(impl.TreeMost) {
		seen = append(seen, fileAt(m.Path, m.Data))
	}
	wantSeen(t, marksAnd(impl.TreeMost), nil, seen...)
	wantSeen(t, marksAnd(impl.TreeMost), filesAnd(impl.TreeMost), seen...)
	wantNotSeen(t, marksAnd(impl.TreeMost+1), nil)
	wantNotSeen(t, marksAnd(impl.TreeMost+1), filesAnd(impl.TreeMost))
	wantNotSeen(t, marksAnd(2*impl.TreeMost), nil)
}

func TestLayerJoinWithNothing(t *testing.T) {
	for _, l := range goodLayers() {
		wantJoined(t, l, nil, l...)
		wantJoined(t, nil, l, l...)
		wantJoined(t, l, layerWith(), l...)
		wantJoined(t, layerWith(), l, l...)
	}
}

func TestLayerJoinWithItself(t *testing.T) {
	for _, l := range goodLayers() {
		wantJoined(t, l, l, l...)
	}
}

func TestLayerJoin(t *testing.T) {
	wantJoined(t, layerWith(fileMark("/a", "x")), layerWith(fileMark("/b", "y")), fileMark("/a", "x"), fileMark("/b", "y"))
	wantJoined(t, layerWith(fileMark("/b", "x")), layerWith(fileMark("/a", "y")), fileMark("/a", "y"), fileMark("/b", "x"))
	wantJoined(t, layerWith(fileMark("/a", "x")), layerWith(fileMark("/a", "y")), fileMark("/a", "x"))
	wantJoined(t, layerWith(dirMark("/a"), fileMark("/a/b", "x")), layerWith(dirMark("/a"), fileMark("/a/c", "y")), dirMark("/a"), fileMark("/a/b", "x"), fileMark("/a/c", "y"))
	wantJoined(t, layerWith(dirMark("/a"), goneMark("/a/c")), layerWith(dirMark("/a"), fileMark("/a/b", "x"), fileMark("/a/c", "y")), dirMark("/a"), fileMark("/a/b", "x"), goneMark("/a/c"))
	// Order, where a name begins another one.
	wantJoined(t, layerWith(dirMark("/a"), fileMark("/a/b", "x")), layerWith(fileMark("/ab", "y")), dirMark("/a"), fileMark("/a/b", "x"), fileMark("/ab", "y"))
	wantJoined(t, layerWith(fileMark("/ab", "y")), layerWith(dirMark("/a"), fileMark("/a/b", "x")), dirMark("/a"), fileMark("/a/b", "x"), fileMark("/ab", "y"))
	wantJoined(t, layerWith(goneMark("/a")), layerWith(bareMark("/ab"), fileMark("/ab/c", "")), goneMark("/a"), bareMark("/ab"), fileMark("/ab/c", ""))
}

// What the upper one hides of the lower one is not in the join.
func TestLayerJoinHides(t *testing.T) {
	lower := layerWith(dirMark("/a"), dirMark("/a/b"), fileMark("/a/b/c", "x"), goneMark("/a/c"), fileMark("/ab", "y"))
	for _, at := range []impl.Mark{fileMark("/a", "z"), goneMark("/a"), bareMark("/a")} {
		wantJoined(t, layerWith(at), lower, at, fileMark("/ab", "y"))
	}
	for _, at := range []impl.Mark{fileMark("/a/b", "z"), goneMark("/a/b"), bareMark("/a/b")} {
		wantJoined(t, layerWith(dirMark("/a"), at), lower, dirMark("/a"), at, goneMark("/a/c"), fileMark("/ab", "y"))
	}
	wantJoined(t, layerWith(dirMark("/a"), dirMark("/a/b")), lower, lower...)
	wantJoined(t, layerWith(bareMark("/a"), fileMark("/a/c", "")), lower, bareMark("/a"), fileMark("/a/c", ""), fileMark("/ab", "y"))
	wantJoined(t, layerWith(bareMark("/a"), dirMark("/a/b")), lower, bareMark("/a"), dirMark("/a/b"), fileMark("/ab", "y"))
}

// A MarkDir on each kind of the lower one: what that hides stays hidden.
func TestLayerJoinDirOnEachKind(t *testing.T) {
	for _, at := range []impl.Mark{fileMark("/a", "x"), goneMark("/a"), bareMark("/a")} {
		wantJoined(t, layerWith(dirMark("/a")), layerWith(at), bareMark("/a"))
		wantJoined(t, layerWith(dirMark("/a"), fileMark("/a/b", "y")), layerWith(at), bareMark("/a"), fileMark("/a/b", "y"))
		wantJoined(t, layerWith(dirMark("/a"), dirMark("/a/b"), dirMark("/a/b/c")), layerWith(at), bareMark("/a"), dirMark("/a/b"), dirMark("/a/b/c"))
		wantJoined(t, layerWith(dirMark("/a"), goneMark("/a/b")), layerWith(at), bareMark("/a"))
		wantJoined(t, layerWith(dirMark("/a"), bareMark("/a/b"), dirMark("/a/b/c")), layerWith(at), bareMark("/a"), dirMark("/a/b"), dirMark("/a/b/c"))
	}
	wantJoined(t, layerWith(dirMark("/a")), layerWith(dirMark("/a")), dirMark("/a"))
	wantJoined(t, layerWith(dirMark("/a")), nil, dirMark("/a"))
	for _, at := range []impl.Mark{fileMark("/a/b", "x"), goneMark("/a/b"), bareMark("/a/b")} {
		wantJoined(t, layerWith(dirMark("/a"), dirMark("/a/b"), goneMark("/a/b/c")), layerWith(dirMark("/a"), at), dirMark("/a"), bareMark("/a/b"))
		wantJoined(t, layerWith(bareMark("/a"), dirMark("/a/b")), layerWith(dirMark("/a"), at), bareMark("/a"), dirMark("/a/b"))
	}
	// The lower one's MarkBare has more in it, and that is seen still.
	wantJoined(t, layerWith(dirMark("/a"), fileMark("/a/c", "y")), layerWith(bareMark("/a"), fileMark("/a/b", "x"), dirMark("/a/d")), bareMark("/a"), fileMark("/a/b", "x"), fileMark("/a/c", "y"), dirMark("/a/d"))
}

// In one layer what is gone below what is bare is not ok; of two it is left out.
func TestLayerJoinBelowBare(t *testing.T) {
	lower := layerWith(bareMark("/a"), dirMark("/a/b"), fileMark("/a/b/c", "x"), fileMark("/a/d", "y"))
	wantJoined(t, layerWith(dirMark("/a"), goneMark("/a/d")), lower, bareMark("/a"), dirMark("/a/b"), fileMark("/a/b/c", "x"))
	wantJoined(t, layerWith(dirMark("/a"), dirMark("/a/b"), goneMark("/a/b/c"), goneMark("/a/q")), lower, bareMark("/a"), dirMark("/a/b"), fileMark("/a/d", "y"))
	wantJoined(t, layerWith(dirMark("/a"), bareMark("/a/b")), lower, bareMark("/a"), dirMark("/a/b"), fileMark("/a/d", "y"))
	wantJoined(t, layerWith(dirMark("/a"), bareMark("/a/b"), fileMark("/a/b/d", "z")), lower, bareMark("/a"), dirMark("/a/b"), fileMark("/a/b/d", "z"), fileMark("/a/d", "y"))
	wantJoined(t, layerWith(dirMark("/a"), dirMark("/a/b"), bareMark("/a/b/c")), lower, bareMark("/a"), dirMark("/a/b"), dirMark("/a/b/c"), fileMark("/a/d", "y"))
	wantJoined(t, layerWith(dirMark("/a"), dirMark("/a/d"), bareMark("/a/d/e")), lower, bareMark("/a"), dirMark("/a/b"), fileMark("/a/b/c", "x"), dirMark("/a/d"), dirMark("/a/d/e"))
	// Beside what is bare both stay as they are.
	wantJoined(t, layerWith(goneMark("/ab"), bareMark("/ac")), lower, bareMark("/a"), dirMark("/a/b"), fileMark("/a/b/c", "x"), fileMark("/a/d", "y"), goneMark("/ab"), bareMark("/ac"))
	wantJoined(t, layerWith(dirMark("/a"), goneMark("/a/bb"), bareMark("/a/bc")), layerWith(dirMark("/a"), bareMark("/a/b"), goneMark("/a/c")), dirMark("/a"), bareMark("/a/b"), goneMark("/a/bb"), bareMark("/a/bc"), goneMark("/a/c"))
}

func TestLayerJoinMost(t *testing.T) {
	all := marksAnd(2*impl.TreeMost + 1)
	most := all[:2*impl.TreeMost]
	wantJoined(t, most[:impl.TreeMost], most[impl.TreeMost:], most...)
	wantJoined(t, most[impl.TreeMost:], most[:impl.TreeMost], most...)
	wantJoined(t, most, most[3:], most...)
	wantNotJoined(t, all[:impl.TreeMost], all[impl.TreeMost:])
	wantNotJoined(t, all[impl.TreeMost:], all[:impl.TreeMost])
	wantNotJoined(t, layerWith(fileMark("/zzz", "")), most)
	wantNotJoined(t, most, layerWith(fileMark("/zzz", "")))
	wantNotJoined(t, most, layerWith(goneMark("/a")))
	wantNotJoined(t, marksAnd(2*impl.TreeMost), goneAnd(2*impl.TreeMost, dirMark("/a"), dirMark("/a/b")))
	// What is hidden, and what is left out below what is bare, is not counted.
	wantJoined(t, layerWith(goneMark("/a"), fileMark("/zzz", "")), marksAnd(2*impl.TreeMost, dirMark("/a"), fileMark("/a/b", "")),
		append(marksAnd(2*impl.TreeMost-1, goneMark("/a")), fileMark("/zzz", ""))...)
	wantJoined(t, layerWith(dirMark("/a"), goneMark("/a/b"), goneMark("/a/c")), marksAnd(2*impl.TreeMost, bareMark("/a"), fileMark("/a/d", "")),
		marksAnd(2*impl.TreeMost, bareMark("/a"), fileMark("/a/d", ""))...)
	wantJoined(t, layerWith(dirMark("/a"), goneMark("/a/b")), marksAnd(2*impl.TreeMost, fileMark("/a", "x")), marksAnd(2*impl.TreeMost, bareMark("/a"))...)
	wantNotJoined(t, layerWith(dirMark("/a"), fileMark("/a/b", "")), marksAnd(2*impl.TreeMost, bareMark("/a")))
}

func TestLayerDiff(t *testing.T) {
	for _, tree := range goodTrees() {
		wantDiff(t, tree, tree)
		var there, gone []impl.Mark
		for _, e := range tree {
			m := fileMark(e.Path, e.Data)
			if e.Dir {
				m = dirMark(e.Path)
			}
			there = append(there, m)
			if impl.PathUp(e.Path) == "/" {
				gone = append(gone, goneMark(e.Path))
			}
		}
		wantDiff(t, nil, tree, there...)
		wantDiff(t, tree, nil, gone...)
	}
	wantDiff(t, treeWith(fileAt("/a", "x")), treeWith(fileAt("/a", "y")), fileMark("/a", "y"))
	wantDiff(t, treeWith(fileAt("/a", "x")), treeWith(fileAt("/a", "")), fileMark("/a", ""))
	wantDiff(t, treeWith(fileAt("/a", "x")), treeWith(fileAt("/b", "x")), goneMark("/a"), fileMark("/b", "x"))
	wantDiff(t, treeWith(dirAt("/a")), treeWith(dirAt("/a"), dirAt("/a/b")), dirMark("/a"), dirMark("/a/b"))
	wantDiff(t, treeWith(dirAt("/a"), dirAt("/a/b")), treeWith(dirAt("/a")), dirMark("/a"), goneMark("/a/b"))
}

func TestLayerDiffOfWhatWasDone(t *testing.T) {
	diff := func(op impl.Op, want ...impl.Mark) {
		t.Helper()
		done, code := treeDo(t, someTree(), op)
		if code != impl.DoFine {
			t.Fatalf("TreeDo of %v tells %d", op, code)
		}
		wantDiff(t, someTree(), done, want...)
	}
	diff(makeOp("/a/d"), dirMark("/a"), dirMark("/a/d"))
	diff(putOp("/ab", "z"), fileMark("/ab", "z"))
	diff(putOp("/ab", "y"))
	diff(rmOp("/a/c/d"), dirMark("/a"), dirMark("/a/c"), goneMark("/a/c/d"))
	diff(rmdirOp("/e"), goneMark("/e"))
	diff(moveOp("/a/c", "/aa"), dirMark("/a"), goneMark("/a/c"), dirMark("/aa"), fileMark("/aa/d", ""))
	diff(moveOp("/a/c", "/e/c"), dirMark("/a"), goneMark("/a/c"), dirMark("/e"), dirMark("/e/c"), fileMark("/e/c/d", ""))
}

// What was below a directory that is gone, or a file now, is gone with it.
func TestLayerDiffOfOneInThePlaceOfAnother(t *testing.T) {
	full := treeWith(dirAt("/a"), dirAt("/a/b"), fileAt("/a/b/c", "x"), fileAt("/a/d", ""), fileAt("/ab", "y"))
	wantDiff(t, full, treeWith(fileAt("/ab", "y")), goneMark("/a"))
	wantDiff(t, full, treeWith(fileAt("/a", "z"), fileAt("/ab", "y")), fileMark("/a", "z"))
	wantDiff(t, full, treeWith(dirAt("/a"), fileAt("/a/d", ""), fileAt("/ab", "y")), dirMark("/a"), goneMark("/a/b"))
	wantDiff(t, full, treeWith(dirAt("/a"), fileAt("/a/b", ""), fileAt("/a/d", ""), fileAt("/ab", "y")), dirMark("/a"), fileMark("/a/b", ""))
	wantDiff(t, full, treeWith(dirAt("/a"), fileAt("/ab", "y")), dirMark("/a"), goneMark("/a/b"), goneMark("/a/d"))
	wantDiff(t, treeWith(fileAt("/a", "z"), fileAt("/ab", "y")), full, dirMark("/a"), dirMark("/a/b"), fileMark("/a/b/c", "x"), fileMark("/a/d", ""))
	wantDiff(t, treeWith(fileAt("/a", "z")), treeWith(dirAt("/a")), dirMark("/a"))
	wantDiff(t, treeWith(dirAt("/a")), treeWith(fileAt("/a", "")), fileMark("/a", ""))
	wantDiff(t, full, treeWith(dirAt("/a"), dirAt("/a/b"), dirAt("/a/b/c"), fileAt("/a/d", ""), fileAt("/ab", "y")), dirMark("/a"), dirMark("/a/b"), dirMark("/a/b/c"))
}

func TestLayerDiffDeepBelow(t *testing.T) {
	tree := treeWith(dirAt("/a"), dirAt("/a/b"), fileAt("/a/b/c", "x"), fileAt("/a/b/d", "x"), dirAt("/b"), fileAt("/b/c", "x"))
	other := slices.Clone(tree)
	other[3].Data = "y"
	wantDiff(t, tree, other, dirMark("/a"), dirMark("/a/b"), fileMark("/a/b/d", "y"))
	wantDiff(t, tree, slices.Delete(slices.Clone(tree), 2, 3), dirMark("/a"), dirMark("/a/b"), goneMark("/a/b/c"))
	wantDiff(t, tree, slices.Insert(slices.Clone(tree), 4, dirAt("/a/b/e")), dirMark("/a"), dirMark("/a/b"), dirMark("/a/b/e"))
	// Two deep below one: each MarkDir is there once.
	other[2].Data = "y"
	wantDiff(t, tree, other, dirMark("/a"), dirMark("/a/b"), fileMark("/a/b/c", "y"), fileMark("/a/b/d", "y"))
}

func TestLayerDiffMost(t *testing.T) {
	all := filesAnd(2 * impl.TreeMost)
	var want []impl.Mark
	for i, e := range all {
		if i < impl.TreeMost {
			want = append(want, goneMark(e.Path))
		} else {
			want = append(want, fileMark(e.Path, e.Data))
		}
	}
	wantDiff(t, all[:impl.TreeMost], all[impl.TreeMost:], want...)
	// Full trees of which all but the directory differs.
	from, to := treeWith(dirAt("/a")), treeWith(dirAt("/a"))
	want = layerWith(dirMark("/a"))
	for i, name := range manyNames(2 * (impl.TreeMost - 1)) {
		if i%2 == 0 {
			from, want = append(from, fileAt("/a/"+name, "x")), append(want, goneMark("/a/"+name))
		} else {
			to, want = append(to, fileAt("/a/"+name, "x")), append(want, fileMark("/a/"+name, "x"))
		}
	}
	wantDiff(t, from, to, want...)
}

// What is told lies on no bytes of what was given; texts too.
func TestLayerAnswersAreNewMemory(t *testing.T) {
	layer := layerWith(dirMark(strings.Clone("/abc")), fileMark(strings.Clone("/abc/def"), strings.Clone("data12")), bareMark(strings.Clone("/xyz")))
	under := layerWith(dirMark(strings.Clone("/abc")), fileMark(strings.Clone("/abc/ghi"), strings.Clone("data34")), goneMark(strings.Clone("/xyz")))
	tree := treeWith(dirAt(strings.Clone("/abc")), fileAt(strings.Clone("/abc/jkl"), strings.Clone("data56")), fileAt(strings.Clone("/mno"), strings.Clone("data78")))
	inTree := func(t []impl.Ent) (texts []string) {
		for _, e := range t {
			texts = append(texts, e.Path, e.Data)
		}
		return texts
	}
	inLayer := func(l []impl.Mark) (texts []string) {
		for _, m := range l {
			texts = append(texts, m.Path, m.Data)
		}
		return texts
	}
	fresh := func(what string, answer []string) {
		if len(answer) == 0 {
			t.Errorf("%s tells nothing", what)
		}
		for i, x := range answer {
			for _, y := range slices.Concat(inLayer(layer), inLayer(under), inTree(tree), answer[:i]) {
				if sharesMemory(x, y) {
					t.Errorf("%s: %q shares memory with %q", what, x, y)
				}
			}
		}
	}
	seen, _ := impl.LayerOn(layer, tree)
	fresh("LayerOn", inTree(seen))
	seen, _ = impl.LayerOn(nil, tree)
	fresh("LayerOn", inTree(seen))
	for _, pair := range [][2][]impl.Mark{{layer, under}, {under, layer}, {layer, nil}, {nil, layer}} {
		joined, _ := impl.LayerJoin(pair[0], pair[1])
		fresh("LayerJoin", inLayer(joined))
	}
	for _, pair := range [][2][]impl.Ent{{nil, tree}, {tree, nil}, {tree[:1], tree}, {tree, tree[:1]}} {
		fresh("LayerDiff", inLayer(impl.LayerDiff(pair[0], pair[1])))
	}
}
