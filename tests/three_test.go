package tests

import (
	"slices"
	"strings"
	"testing"

	"loop.example/pargeting/impl"
)

// letterAt is what a letter stands for at a path: - nothing, d a directory, e a file of nothing, any other a file with it as Data.
func letterAt(letter byte, path string) []impl.Ent {
	switch letter {
	case '-':
		return nil
	case 'd':
		return treeWith(dirAt(path))
	case 'e':
		return treeWith(fileAt(path, ""))
	}
	return treeWith(fileAt(path, string([]byte{letter})))
}

// mergedLetters are what base, a and b have at a path, and what comes; ! is for a clash.
func mergedLetters() []string {
	return []string{
		// Neither turned it.
		"--- -", "ddd d", "eee e", "xxx x",
		// Only one put, turned, or took away.
		"-d- d", "-e- e", "-x- x", "xyx y", "xex e", "exe x", "xdx d", "dxd x", "ede d", "ded e", "x-x -", "e-e -", "d-d -",
		// Both did alike.
		"-dd d", "-ee e", "-xx x", "xyy y", "xee e", "exx x", "xdd d", "dxx x", "edd d", "dee e", "x-- -", "e-- -", "d-- -",
		// One put, and the other put otherwise.
		"-xy !", "-xe !", "-xd !", "-ed !",
		// One turned, and the other turned otherwise.
		"xyz !", "xye !", "exy !", "xyd !", "xed !", "exd !", "dxy !", "dxe !",
		// One turned, and the other took away.
		"xy- !", "xe- !", "ex- !", "xd- !", "ed- !", "dx- !", "de- !",
	}
}

// At a path, by itself and with others beside it, above it and below it, of which one is turned by each.
func TestMergeAtOfOnePath(t *testing.T) {
	around := treeWith(dirAt("/a"), dirAt("/a/b"), fileAt("/q", "x"), fileAt("/r", "x"))
	byA := treeWith(dirAt("/a"), dirAt("/a/b"), fileAt("/q", "y"), fileAt("/r", "x"))
	byB := treeWith(dirAt("/a"), dirAt("/a/b"), fileAt("/q", "x"), fileAt("/s", "x"))
	for _, letters := range mergedLetters() {
		for _, path := range []string{"/p", "/a/p", "/a/b/c", "/aa", "/zzz"} {
			wantLetters(t, letters, path, around, byA, byB)
			wantLetters(t, letters, path, around, around, around)
		}
		wantLetters(t, letters, "/p", nil, nil, nil)
		wantLetters(t, letters, "/abc", nil, nil, nil)
	}
}

func wantLetters(t *testing.T, letters, path string, base, a, b []impl.Ent) {
	t.Helper()
	here := func(i int) []impl.Ent { return letterAt(letters[i], path) }
	base, a, b = inOrder(base, here(0)), inOrder(a, here(1)), inOrder(b, here(2))
	if letters[4] == '!' {
		wantMergeAt(t, base, a, b, path, impl.Ent{}, false, false)
		return
	}
	want := impl.Ent{}
	for _, e := range here(4) {
		want = e
	}
	wantMergeAt(t, base, a, b, path, want, letters[4] != '-', true)
}

// inOrder is one tree of the parts of it.
func inOrder(parts ...[]impl.Ent) []impl.Ent {
	tree := slices.Concat(parts...)
	slices.SortFunc(tree, func(a, b impl.Ent) int { return strings.Compare(a.Path, b.Path) })
	return tree
}

// Where nothing is in any of the three, be it a path or not, nothing is made of it, and it is no clash.
func TestMergeAtOfNoneOfTheThree(t *testing.T) {
	other := treeWith(dirAt("/a"), fileAt("/a/b", "y"), fileAt("/q", ""))
	third := treeWith(fileAt("/a", "x"), fileAt("/ab", "z"))
	for _, path := range append(badPaths(), "/no", "/a/no", "/a/b/c", "/ab/c", "/e/a", "/no/a/b") {
		wantMergeAt(t, nil, nil, nil, path, impl.Ent{}, false, true)
		wantMergeAt(t, someTree(), someTree(), someTree(), path, impl.Ent{}, false, true)
		wantMergeAt(t, someTree(), other, third, path, impl.Ent{}, false, true)
		wantMergeAt(t, filesAnd(impl.TreeMost), someTree(), nil, path, impl.Ent{}, false, true)
	}
}

// The root is a directory in each of the three.
func TestMergeAtOfTheRoot(t *testing.T) {
	for _, tree := range goodTrees() {
		wantMergeAt(t, tree, tree, tree, "/", dirAt("/"), true, true)
		wantMergeAt(t, tree, nil, someTree(), "/", dirAt("/"), true, true)
		wantMergeAt(t, nil, tree, filesAnd(impl.TreeMost), "/", dirAt("/"), true, true)
		wantMergeAt(t, someTree(), nil, tree, "/", dirAt("/"), true, true)
	}
}

// All that clash, in the order of the bytes of the paths, each once; beside it there is what only one turned, or both alike.
func TestMergeClashInOrder(t *testing.T) {
	base := treeWith(dirAt("/a"), fileAt("/a/a", "1"), fileAt("/a/b", "1"), fileAt("/a/c", "1"), fileAt("/ab", "1"), dirAt("/b"), fileAt("/c", "1"))
	a := treeWith(dirAt("/a"), fileAt("/a/a", "2"), fileAt("/a/b", "2"), fileAt("/aa", "2"), fileAt("/ab", "2"), fileAt("/b", "2"), fileAt("/c", "2"), dirAt("/zz"), fileAt("/zz/z", "2"))
	b := treeWith(dirAt("/a"), fileAt("/a/a", "3"), fileAt("/a/b", "2"), fileAt("/a/c", "3"), dirAt("/aa"), fileAt("/b", "3"), fileAt("/c", "1"), fileAt("/zz", "3"))
	wantClash(t, base, a, b, "/a/a", "/a/c", "/aa", "/ab", "/b", "/zz")
	// A stroke is less than any letter, so what is in /a comes ahead of /aa.
	wantClash(t, nil, treeWith(fileAt("/a", "1"), fileAt("/aa", "1"), fileAt("/ab", "1"), fileAt("/b", "1")),
		treeWith(dirAt("/a"), fileAt("/a/b", "2"), fileAt("/aa", "2"), fileAt("/ab", "2"), fileAt("/b", "2")), "/a", "/aa", "/ab", "/b")
	wantClash(t, treeWith(dirAt("/a"), dirAt("/a/a"), fileAt("/a/a/a", ""), fileAt("/a/ab", ""), fileAt("/ab", "")),
		treeWith(dirAt("/a"), dirAt("/a/a"), fileAt("/a/a/a", "1"), fileAt("/a/ab", "1"), fileAt("/ab", "1")),
		treeWith(dirAt("/a"), dirAt("/a/a"), fileAt("/a/a/a", "2"), fileAt("/a/ab", "2"), fileAt("/ab", "2")),
		"/a/a/a", "/a/ab", "/ab")
}

// What stands only in one of the trees, or in two, behind the end of the others.
func TestMergeClashAtTheEnds(t *testing.T) {
	wantClash(t, treeWith(fileAt("/a", "1"), fileAt("/z", "1")), treeWith(fileAt("/a", "2"), fileAt("/z", "2")), nil, "/a", "/z")
	wantClash(t, nil, treeWith(fileAt("/a", "2"), fileAt("/z", "2")), treeWith(fileAt("/a", "1"), fileAt("/z", "1")), "/a", "/z")
	wantClash(t, treeWith(fileAt("/z", "1")), treeWith(fileAt("/a", "2"), fileAt("/z", "2")), treeWith(fileAt("/a", "3")), "/a", "/z")
	wantClash(t, treeWith(fileAt("/b", "1")), treeWith(fileAt("/a", "2"), fileAt("/c", "2")), treeWith(fileAt("/b", "3"), fileAt("/c", "3"), fileAt("/d", "3")), "/b", "/c")
}

// As many as there can be: all of two full trees.
func TestMergeClashOfAll(t *testing.T) {
	full := filesAnd(impl.TreeMost)
	wantClash(t, full, withData(full, "1"), withData(full, "2"), pathsIn(full)...)
	wantClash(t, nil, withData(full, "1"), withData(full, "2"), pathsIn(full)...)
	wantClash(t, full, withData(full, "1"), nil, pathsIn(full)...)
}

func TestMergeOfWhatEachDid(t *testing.T) {
	wantMerge(t, someTree(),
		treeWith(dirAt("/a"), fileAt("/a/b", "y"), dirAt("/a/c"), fileAt("/a/cc", "1"), fileAt("/ab", "y"), dirAt("/e"), dirAt("/e/e")),
		treeWith(dirAt("/a"), fileAt("/a/b", "x"), dirAt("/a/c"), fileAt("/a/c/d", ""), fileAt("/a/cc", "2"), dirAt("/e"), fileAt("/n", "1")),
		dirAt("/a"), fileAt("/a/b", "y"), dirAt("/a/c"), fileAt("/a/cc", "2"), dirAt("/e"), dirAt("/e/e"), fileAt("/n", "1"))
	// Into a directory that is of all three, of one, and into one that both made.
	wantMerge(t, treeWith(dirAt("/a")), treeWith(dirAt("/a"), fileAt("/a/x", "1")), treeWith(dirAt("/a"), fileAt("/a/y", "2")),
		dirAt("/a"), fileAt("/a/x", "1"), fileAt("/a/y", "2"))
	wantMerge(t, nil, treeWith(dirAt("/a"), fileAt("/a/x", "1")), treeWith(dirAt("/b")), dirAt("/a"), fileAt("/a/x", "1"), dirAt("/b"))
	wantMerge(t, nil, treeWith(dirAt("/a"), fileAt("/a/x", "1")), treeWith(dirAt("/a"), dirAt("/a/a"), fileAt("/a/y", "2")),
		dirAt("/a"), dirAt("/a/a"), fileAt("/a/x", "1"), fileAt("/a/y", "2"))
	// One moves a directory, and the other puts beside it.
	base := treeWith(dirAt("/a"), dirAt("/a/b"), fileAt("/a/b/c", "1"), fileAt("/f", "1"))
	wantMerge(t, base, doneTo(t, base, moveOp("/a/b", "/e")), doneTo(t, base, putOp("/a/f", "2"), rmOp("/f"), makeOp("/d")),
		dirAt("/a"), fileAt("/a/f", "2"), dirAt("/d"), dirAt("/e"), fileAt("/e/c", "1"))
	// What each has as Data stays, also where it is that of nothing.
	wantMerge(t, treeWith(fileAt("/a", "abc123"), fileAt("/b", ""), fileAt("/c", "x")), treeWith(fileAt("/a", ""), fileAt("/b", ""), fileAt("/c", "x")),
		treeWith(fileAt("/a", "abc123"), fileAt("/b", "abc123"), fileAt("/c", "x")), fileAt("/a", ""), fileAt("/b", "abc123"), fileAt("/c", "x"))
}

func TestMergeOfBothAlike(t *testing.T) {
	// A file put with the same Data, and one turned to the same.
	wantMerge(t, nil, treeWith(fileAt("/a", "x")), treeWith(fileAt("/a", "x")), fileAt("/a", "x"))
	wantMerge(t, treeWith(fileAt("/a", "x")), treeWith(fileAt("/a", "y")), treeWith(fileAt("/a", "y")), fileAt("/a", "y"))
	wantMerge(t, treeWith(fileAt("/a", "x")), treeWith(fileAt("/a", "")), treeWith(fileAt("/a", ""), fileAt("/b", "")), fileAt("/a", ""), fileAt("/b", ""))
	// A file taken away by both, and a directory with all that was in it.
	wantMerge(t, treeWith(fileAt("/a", "x")), nil, nil)
	wantMerge(t, treeWith(fileAt("/a", "x"), fileAt("/b", "x")), treeWith(fileAt("/b", "x")), treeWith(fileAt("/b", "y")), fileAt("/b", "y"))
	wantMerge(t, someTree(), someTree()[5:], someTree()[5:], fileAt("/ab", "y"), dirAt("/e"))
	wantMerge(t, someTree(), someTree()[5:], someTree()[5:6], fileAt("/ab", "y"))
	// A directory made by both, and one in the place of a file, and the other way round.
	wantMerge(t, nil, treeWith(dirAt("/a")), treeWith(dirAt("/a")), dirAt("/a"))
	wantMerge(t, treeWith(fileAt("/a", "")), treeWith(dirAt("/a")), treeWith(dirAt("/a"), dirAt("/a/b")), dirAt("/a"), dirAt("/a/b"))
	wantMerge(t, treeWith(dirAt("/a")), treeWith(fileAt("/a", "")), treeWith(fileAt("/a", "")), fileAt("/a", ""))
	// Both moved the same to the same place.
	moved := doneTo(t, someTree(), moveOp("/a/c", "/e/c"))
	wantMerge(t, someTree(), moved, moved, moved...)
	wantMerge(t, someTree(), moved, doneTo(t, moved, putOp("/ab", "9"), makeOp("/e/c/e")), doneTo(t, moved, putOp("/ab", "9"), makeOp("/e/c/e"))...)
}

// Both did the same, but one file is not the same.
func TestMergeOfBothAlmostAlike(t *testing.T) {
	wantClash(t, nil, treeWith(fileAt("/a", "x")), treeWith(fileAt("/a", "xx")), "/a")
	wantClash(t, nil, treeWith(fileAt("/a", "x")), treeWith(fileAt("/a", "")), "/a")
	wantClash(t, treeWith(fileAt("/a", "abc123")), treeWith(fileAt("/a", "abc12")), treeWith(fileAt("/a", "bc123")), "/a")
	moved := doneTo(t, someTree(), moveOp("/a/c", "/e/c"))
	wantClash(t, someTree(), doneTo(t, moved, putOp("/e/c/d", "8")), doneTo(t, moved, putOp("/e/c/d", "9")), "/e/c/d")
	// In the base nothing is where it was moved to, so that to leave it there as it was is to put it.
	wantClash(t, someTree(), moved, doneTo(t, moved, putOp("/e/c/d", "9")), "/e/c/d")
	// The same moved to two places clashes nowhere: it is in both.
	wantMerge(t, someTree(), doneTo(t, someTree(), moveOp("/ab", "/f")), doneTo(t, someTree(), moveOp("/ab", "/g")),
		slices.Concat(someTree()[:5], someTree()[6:], treeWith(fileAt("/f", "y"), fileAt("/g", "y")))...)
}

func TestMergeWithItselfAndTheBase(t *testing.T) {
	for _, tree := range goodTrees() {
		wantMerge(t, tree, tree, tree, tree...)
		for _, base := range goodTrees() {
			wantMerge(t, base, tree, tree, tree...)
			wantMerge(t, base, tree, base, tree...)
		}
		// One list as all three, and a piece of it.
		l := lendTree(tree)
		if got, ok := impl.Merge(l.list, l.list, l.list); !slices.Equal(got, tree) || !ok {
			t.Errorf("Merge(%v, it, it) = %v, %v", tree, got, ok)
		}
		if got, ok := impl.Merge(l.list, l.list[:0], l.list); len(got) != 0 || !ok {
			t.Errorf("Merge(%v, none, it) = %v, %v", tree, got, ok)
		}
		l.untouched(t, "Merge")
	}
}

func TestMergeOfNothing(t *testing.T) {
	for _, none := range [][]impl.Ent{nil, {}} {
		wantMerge(t, none, none, none)
		wantMerge(t, none, nil, []impl.Ent{})
		wantMerge(t, someTree(), none, none)
		wantMerge(t, someTree(), someTree(), none)
		wantMerge(t, none, someTree(), none, someTree()...)
	}
	wantMergeAt(t, nil, nil, nil, "/a", impl.Ent{}, false, true)
}

// A directory that one took away and into which the other put something: no clash, and no tree that is ok.
func TestMergeOfAFullDirectoryTakenAway(t *testing.T) {
	empty := treeWith(dirAt("/a"))
	for _, e := range []impl.Ent{fileAt("/a/x", "1"), fileAt("/a/x", ""), dirAt("/a/x")} {
		wantNoMergedTree(t, empty, nil, treeWith(dirAt("/a"), e))
	}
	wantNoMergedTree(t, empty, nil, treeWith(dirAt("/a"), dirAt("/a/x"), fileAt("/a/x/y", "1")))
	// There were others in it, that the other one left as they were.
	some := treeWith(dirAt("/a"), fileAt("/a/b", "1"), fileAt("/c", ""))
	wantNoMergedTree(t, some, some[2:], treeWith(dirAt("/a"), fileAt("/a/b", "1"), fileAt("/a/x", "1"), fileAt("/c", "")))
	// The other one took these away too.
	wantNoMergedTree(t, some, some[2:], treeWith(dirAt("/a"), fileAt("/a/x", "1"), fileAt("/c", "")))
	// The other one turned one of these: that is a clash.
	wantClash(t, some, some[2:], treeWith(dirAt("/a"), fileAt("/a/b", "2"), fileAt("/c", "")), "/a/b")
	wantClash(t, some, some[2:], treeWith(dirAt("/a"), fileAt("/a/b", "2"), fileAt("/a/x", "1"), fileAt("/c", "")), "/a/b")
	// One deeper; by a move; and a move into it.
	deep := treeWith(dirAt("/a"), dirAt("/a/b"), dirAt("/c"), fileAt("/c/d", "1"))
	wantNoMergedTree(t, deep, doneTo(t, deep, rmdirOp("/a/b")), doneTo(t, deep, putOp("/a/b/x", "1")))
	wantNoMergedTree(t, deep, doneTo(t, deep, rmdirOp("/a/b"), rmdirOp("/a")), doneTo(t, deep, makeOp("/a/b/x")))
	wantNoMergedTree(t, deep, doneTo(t, deep, moveOp("/a", "/e")), doneTo(t, deep, makeOp("/a/x")))
	wantNoMergedTree(t, deep, doneTo(t, deep, moveOp("/a", "/e")), doneTo(t, deep, moveOp("/c", "/a/c")))
	wantNoMergedTree(t, deep, doneTo(t, deep, moveOp("/a", "/c/a")), doneTo(t, deep, moveOp("/c", "/a/c")))
	// A file is in its place.
	wantNoMergedTree(t, empty, treeWith(fileAt("/a", "x")), treeWith(dirAt("/a"), fileAt("/a/x", "1")))
	// Both took it away, or the other one put nothing into it in the end: that goes together.
	wantMerge(t, some, some[2:], doneTo(t, some, rmOp("/a/b"), rmdirOp("/a"), putOp("/d", "")), fileAt("/c", ""), fileAt("/d", ""))
	wantMerge(t, some, some[2:], doneTo(t, some, putOp("/a/x", ""), rmOp("/a/x"), putOp("/d", "")), fileAt("/c", ""), fileAt("/d", ""))
	wantMerge(t, some, some[2:], doneTo(t, some, rmOp("/a/b")), fileAt("/c", ""))
}

// A directory in one where a file is in another.
func TestMergeOfADirectoryWhereAFileIs(t *testing.T) {
	file, dir := treeWith(fileAt("/p", "x")), treeWith(dirAt("/p"))
	full := treeWith(dirAt("/p"), fileAt("/p/q", "1"), fileAt("/p/r", "1"))
	wantClash(t, nil, file, dir, "/p")
	wantClash(t, nil, file, full, "/p")
	wantMerge(t, file, full, file, full...)
	wantMerge(t, full, full, file, fileAt("/p", "x"))
	wantMerge(t, full, treeWith(dirAt("/p"), fileAt("/p/r", "1")), file, fileAt("/p", "x"))
	wantMerge(t, full, dir, file, fileAt("/p", "x"))
	wantMerge(t, full, full[:2], file, fileAt("/p", "x"))
	wantMerge(t, file, dir, treeWith(dirAt("/p"), dirAt("/p/q")), dirAt("/p"), dirAt("/p/q"))
	wantClash(t, file, full, treeWith(fileAt("/p", "y")), "/p")
	wantClash(t, file, full, nil, "/p")
	wantClash(t, full, nil, file, "/p")
	wantClash(t, full, file, treeWith(dirAt("/p"), fileAt("/p/q", "2"), fileAt("/p/r", "1")), "/p/q")
	wantClash(t, full, file, treeWith(dirAt("/p"), dirAt("/p/q"), fileAt("/p/r", "2")), "/p/q", "/p/r")
	wantClash(t, full, treeWith(fileAt("/p", "y")), treeWith(fileAt("/p", "x")), "/p")
	wantNoMergedTree(t, full, file, append(slices.Clone(full), fileAt("/p/s", "")))
}

func TestMergeAtTreeMost(t *testing.T) {
	names := filesAnd(33)
	base, more := names[:10], names[10:]
	with := func(base []impl.Ent, more ...impl.Ent) []impl.Ent { return slices.Concat(base, more) }
	// Just TreeMost, and one more.
	wantMerge(t, base, with(base, more[:3]...), with(base, more[3:6]...), names[:impl.TreeMost]...)
	wantNoMergedTree(t, base, with(base, more[:3]...), with(base, more[3:7]...))
	wantMerge(t, base, with(base, more[:6]...), base, names[:impl.TreeMost]...)
	wantMerge(t, base, with(base, more[:6]...), with(base, more[2:6]...), names[:impl.TreeMost]...)
	wantNoMergedTree(t, base, with(base, more[:6]...), with(base, more[6]))
	// As much more as there can be.
	wantMerge(t, nil, names[:8], names[8:16], names[:16]...)
	wantNoMergedTree(t, nil, names[:8], names[8:17])
	wantNoMergedTree(t, nil, names[:16], names[16:32])
	wantNoMergedTree(t, names[:1], names[1:17], names[17:33])
	wantMerge(t, nil, names[:16], names[:16], names[:16]...)
	wantMerge(t, names[16:32], names[:16], names[:16], names[:16]...)
	wantMerge(t, names[16:32], names[:16], names[16:32], names[:16]...)
}

// What one takes away of a full tree makes room for what either puts.
func TestMergeOfFullTrees(t *testing.T) {
	names := filesAnd(20)
	full := names[:16]
	wantMerge(t, full, full[1:], full[:15], full[1:15]...)
	wantMerge(t, full, slices.Concat(full[1:], names[16:17]), full, names[1:17]...)
	wantMerge(t, full, slices.Concat(full[1:], names[16:17]), slices.Concat(full[:1], full[2:], names[17:18]), names[2:18]...)
	wantMerge(t, full, full[1:], slices.Concat(full[:15], names[16:17]), slices.Concat(full[1:15], names[16:17])...)
	wantMerge(t, full, full[2:], slices.Concat(full[:1], full[2:], names[16:17]), names[2:17]...)
	// Both took the same away, so that there is room for one.
	wantNoMergedTree(t, full, slices.Concat(full[1:], names[16:17]), slices.Concat(full[1:], names[17:18]))
	wantMerge(t, full, slices.Concat(full[1:], names[16:17]), slices.Concat(full[1:], names[16:17]), names[1:17]...)
	wantClash(t, full, slices.Concat(full[1:], names[16:17]), slices.Concat(full[1:], withData(names[16:17], "y")), names[16].Path)
	// It would be too much, without a clash and with one besides.
	wantNoMergedTree(t, full[:15], slices.Concat(full[:15], names[15:16]), slices.Concat(withData(full[:1], "y"), full[1:15], names[16:17]))
	wantClash(t, full[:15], slices.Concat(withData(full[:1], "z"), full[1:15], names[15:16]), slices.Concat(withData(full[:1], "y"), full[1:15], names[16:17]), full[0].Path)
}

// At each of two paths that are not the same one thing is done: that goes together just where both can be done one behind
// the other, in either order, and to the same tree.
func TestMergeIsBothInEitherOrder(t *testing.T) {
	full := filesAnd(impl.TreeMost-1, dirAt("/a"), fileAt("/a/b", ""))
	for _, base := range [][]impl.Ent{nil, someTree(), full, full[:impl.TreeMost-2], filesAnd(impl.TreeMost)} {
		paths := append(pathsIn(base), "/a/x", "/e/x", "/x", "/y")
		isBothInEitherOrder(t, base, simpleOpsAt(paths), map[string]int{})
	}
}
