package tests

import (
	"slices"
	"testing"

	"loop.example/pargeting/impl"
)

// brokenLayers are lists that are no layers, each in one way by itself.
func brokenLayers() [][]impl.Mark {
	layers := [][]impl.Mark{
		// One more than twice TreeMost, and many more.
		marksAnd(2*impl.TreeMost + 1),
		goneAnd(2*impl.TreeMost+1, dirMark("/a"), goneMark("/a/b")),
		marksAnd(400),
		// Not in order.
		layerWith(fileMark("/b", ""), fileMark("/a", "")),
		layerWith(goneMark("/b"), goneMark("/a")),
		layerWith(dirMark("/a"), fileMark("/ab", ""), fileMark("/a/b", "")),
		layerWith(dirMark("/a"), fileMark("/a/c", ""), fileMark("/a/b", "")),
		layerWith(fileMark("/a/b", ""), dirMark("/a")),
		layerWith(fileMark("/b", ""), fileMark("/c", ""), fileMark("/a", "")),
		// Two at one path.
		layerWith(fileMark("/a", ""), fileMark("/a", "")),
		layerWith(fileMark("/a", "x"), fileMark("/a", "y")),
		layerWith(dirMark("/a"), dirMark("/a")),
		layerWith(goneMark("/a"), goneMark("/a")),
		layerWith(bareMark("/a"), bareMark("/a")),
		layerWith(goneMark("/a"), fileMark("/a", "")),
		layerWith(dirMark("/a"), bareMark("/a")),
		layerWith(dirMark("/a"), dirMark("/a/b"), goneMark("/a/b")),
		// In nothing.
		layerWith(fileMark("/a/b", "")),
		layerWith(dirMark("/a/b")),
		layerWith(goneMark("/a/b")),
		layerWith(bareMark("/a/b")),
		layerWith(dirMark("/a"), goneMark("/a/b/c")),
		layerWith(bareMark("/a"), fileMark("/a/b/c", "")),
		layerWith(dirMark("/a"), dirMark("/ab/c")),
		layerWith(bareMark("/ab"), fileMark("/ab/c", ""), fileMark("/abc/c", "")),
		layerWith(dirMark("/a/b"), fileMark("/a/b/c", "")),
		// In a MarkFile, and in a MarkGone.
		layerWith(fileMark("/a", ""), fileMark("/a/b", "")),
		layerWith(fileMark("/a", ""), dirMark("/a/b")),
		layerWith(fileMark("/a", ""), goneMark("/a/b")),
		layerWith(dirMark("/a"), fileMark("/a/b", ""), bareMark("/a/b/c")),
		layerWith(goneMark("/a"), fileMark("/a/b", "")),
		layerWith(goneMark("/a"), dirMark("/a/b")),
		layerWith(goneMark("/a"), goneMark("/a/b")),
		layerWith(goneMark("/a"), bareMark("/a/b")),
		layerWith(dirMark("/a"), goneMark("/a/b"), fileMark("/a/b/c", "")),
		layerWith(bareMark("/a"), fileMark("/a/b", ""), fileMark("/a/b/c", "")),
		// What is gone, or bare, below a MarkBare.
		layerWith(bareMark("/a"), goneMark("/a/b")),
		layerWith(bareMark("/a"), bareMark("/a/b")),
		layerWith(bareMark("/a"), dirMark("/a/b"), goneMark("/a/b/c")),
		layerWith(bareMark("/a"), dirMark("/a/b"), bareMark("/a/b/c")),
		layerWith(dirMark("/a"), bareMark("/a/b"), goneMark("/a/b/c")),
		layerWith(dirMark("/a"), bareMark("/a/b"), bareMark("/a/b/c")),
		layerWith(bareMark("/a"), fileMark("/a/b", ""), goneMark("/a/c")),
	}
	for _, kind := range []int{0, 5, 6, -1, -2, -3, -4, 100, 1 << 40, -1 << 63, 1<<63 - 1, 257, 1<<32 + 2} {
		layers = append(layers, layerWith(impl.Mark{Path: "/a", Kind: kind}), layerWith(dirMark("/a"), impl.Mark{Path: "/a/b", Kind: kind}, goneMark("/b")))
	}
	for _, path := range append(badPaths(), "/") {
		layers = append(layers, layerWith(fileMark(path, "")), layerWith(dirMark(path)), layerWith(goneMark(path)), layerWith(bareMark(path)))
	}
	for _, data := range badData() {
		layers = append(layers, layerWith(fileMark("/a", data)), layerWith(bareMark("/a"), fileMark("/a/b", data), fileMark("/c", "x")))
	}
	for _, kind := range []int{impl.MarkDir, impl.MarkGone, impl.MarkBare} {
		for _, data := range []string{"x", "0", "abc123", " ", "!", "1234567", "\xff"} {
			layers = append(layers, layerWith(impl.Mark{Path: "/a", Kind: kind, Data: data}), layerWith(dirMark("/a"), impl.Mark{Path: "/a/b", Kind: kind, Data: data}))
		}
	}
	return layers
}

func TestLayerOkBroken(t *testing.T) {
	for _, l := range brokenLayers() {
		if layerOk(t, l) {
			t.Errorf("LayerOk(%v) = true", brief(l))
		}
	}
}

func TestLayerHidesBroken(t *testing.T) {
	for _, l := range brokenLayers() {
		wantHides(t, l, false, "/", "/a", "/a/b", "/a/b/c", "/b", "/ba", "", "a", l[0].Path)
		wantHides(t, l, false, l[len(l)-1].Path)
	}
}

func TestLayerOnBroken(t *testing.T) {
	for _, l := range brokenLayers() {
		for _, tree := range [][]impl.Ent{nil, someTree(), filesAnd(impl.TreeMost), treeWith(fileAt("/a/b", ""))} {
			wantNotSeen(t, l, tree)
		}
	}
	for _, tree := range brokenTrees() {
		for _, l := range [][]impl.Mark{nil, someLayer(), goneAnd(2 * impl.TreeMost), layerWith(goneMark("/a")), layerWith(fileMark("/a", "x")), layerWith(fileMark("/a/b", ""))} {
			wantNotSeen(t, l, tree)
		}
	}
}

func TestLayerJoinBroken(t *testing.T) {
	for _, l := range brokenLayers() {
		for _, other := range [][]impl.Mark{nil, someLayer(), marksAnd(2 * impl.TreeMost), layerWith(goneMark("/a")), layerWith(fileMark("/a/b", "")), l} {
			wantNotJoined(t, l, other)
			wantNotJoined(t, other, l)
		}
	}
}

func TestLayerDiffBroken(t *testing.T) {
	for _, tree := range brokenTrees() {
		for _, other := range [][]impl.Ent{nil, someTree(), filesAnd(impl.TreeMost), treeWith(fileAt("/a/b", "")), tree} {
			if got := layerDiff(t, tree, other); len(got) != 0 {
				t.Errorf("LayerDiff(%v, %v) = %v; want none", brief(tree), brief(other), brief(got))
			}
			if got := layerDiff(t, other, tree); len(got) != 0 {
				t.Errorf("LayerDiff(%v, %v) = %v; want none", brief(other), brief(tree), brief(got))
			}
		}
	}
}

func TestLayerDataEachByte(t *testing.T) {
	for b := range 256 {
		want := 'a' <= b && b <= 'z' || '0' <= b && b <= '9'
		for _, data := range []string{string([]byte{byte(b)}), "a1" + string([]byte{byte(b)}), string([]byte{byte(b)}) + "zz9"} {
			if got := layerOk(t, layerWith(fileMark("/a", data))); got != want {
				t.Errorf("LayerOk of a MarkFile with Data %q = %v", data, got)
			}
		}
	}
}

func TestLayerMost(t *testing.T) {
	for _, l := range [][]impl.Mark{marksAnd(2*impl.TreeMost + 1), goneAnd(2*impl.TreeMost + 1), marksAnd(2*impl.TreeMost+1, bareMark("/a"), dirMark("/a/b"))} {
		most := slices.Clone(l[:2*impl.TreeMost])
		if !layerOk(t, most) || layerOk(t, l) {
			t.Error("LayerOk of twice TreeMost, and of one more")
		}
		wantHides(t, most, true, l[2*impl.TreeMost-1].Path)
		wantHides(t, l, false, l[2*impl.TreeMost-1].Path)
	}
}
