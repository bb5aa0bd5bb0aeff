package tests

import (
	"testing"

	"loop.example/pargeting/impl"
)

// wantNotMerged is for three of which at least one is no tree: there is one answer for each function.
func wantNotMerged(t *testing.T, base, a, b []impl.Ent, paths ...string) {
	t.Helper()
	for _, path := range paths {
		if e, there, ok := mergeAt(t, base, a, b, path); e != (impl.Ent{}) || there || ok {
			t.Errorf("MergeAt(%v, %v, %v, %q) = %v, %v, %v; want nothing, false, false", brief(base), brief(a), brief(b), short(path), brief(e), there, ok)
		}
	}
	if clash := mergeClash(t, base, a, b); len(clash) != 0 {
		t.Errorf("MergeClash(%v, %v, %v) = %q; want none", brief(base), brief(a), brief(b), brief(clash))
	}
	if merged, ok := merge(t, base, a, b); len(merged) != 0 || ok {
		t.Errorf("Merge(%v, %v, %v) = %v, %v; want none, false", brief(base), brief(a), brief(b), brief(merged), ok)
	}
}

// Each of the three by itself, two of them, and all: by the same list, and with trees beside it that would merge, or clash.
func TestMergeBroken(t *testing.T) {
	good, other := someTree(), treeWith(dirAt("/a"), fileAt("/a/b", "z"), fileAt("/q", "z"))
	for _, tree := range brokenTrees() {
		paths := []string{"/", "/a", "/q", "", tree[0].Path}
		wantNotMerged(t, tree, good, other, paths...)
		wantNotMerged(t, good, tree, other, paths...)
		wantNotMerged(t, good, other, tree, paths...)
		wantNotMerged(t, tree, nil, nil, paths...)
		wantNotMerged(t, nil, tree, nil, paths...)
		wantNotMerged(t, nil, nil, tree, paths...)
		wantNotMerged(t, good, tree, good, paths...)
		wantNotMerged(t, good, good, tree, paths...)
		wantNotMerged(t, tree, good, good, paths...)
		wantNotMerged(t, tree, tree, good, paths...)
		wantNotMerged(t, tree, good, tree, paths...)
		wantNotMerged(t, good, tree, tree, paths...)
		wantNotMerged(t, tree, tree, tree, paths...)
	}
}

// Each broken in another way.
func TestMergeBrokenUnlike(t *testing.T) {
	trees := brokenTrees()
	for i, tree := range trees {
		next, third := trees[(i+1)%len(trees)], trees[(i+29)%len(trees)]
		wantNotMerged(t, tree, next, third, "/", "/a", "/a/b")
		wantNotMerged(t, tree, next, someTree(), "/", "/a", "/a/b")
		wantNotMerged(t, nil, tree, next, "/", "/a", "/a/b")
	}
}

// What is no tree is not told to clash, though two have the same path unlike.
func TestMergeClashBroken(t *testing.T) {
	x, y := treeWith(fileAt("/b", "x")), treeWith(fileAt("/b", "y"))
	bad := treeWith(fileAt("/b", "z"), fileAt("/a", ""))
	wantClash(t, nil, x, y, "/b")
	wantNotMerged(t, bad, x, y, "/b")
	wantNotMerged(t, x, bad, y, "/b")
	wantNotMerged(t, x, y, bad, "/b")
	// Too many, each of which would be right by itself.
	many := filesAnd(impl.TreeMost + 1)
	wantNotMerged(t, many, many[:3], many[:5], "/ba", many[4].Path)
	wantNotMerged(t, many[:3], many, many[:5], "/ba", many[4].Path)
	wantNotMerged(t, many[:3], many[:5], many, "/ba", many[4].Path)
}

// A text that is no path is nothing in each of the three, and beside what is no tree it is told like any other.
func TestMergeAtOfWrongPaths(t *testing.T) {
	for _, path := range badPaths() {
		wantMergeAt(t, someTree(), filesAnd(impl.TreeMost), treeWith(fileAt("/a", "")), path, impl.Ent{}, false, true)
		wantNotMerged(t, treeWith(fileAt("/b", ""), fileAt("/a", "")), someTree(), nil, path)
	}
	// Such a text at a place in a list makes it no tree.
	for _, path := range append(badPaths(), "/") {
		wantNotMerged(t, treeWith(fileAt(path, "")), nil, nil, path)
		wantNotMerged(t, nil, treeWith(dirAt(path)), someTree(), path)
	}
}
