package tests

import (
	"slices"
	"strings"
	"testing"

	"loop.example/pargeting/impl"
)

// brokenTrees are lists that are no trees, each in one way by itself.
func brokenTrees() [][]impl.Ent {
	trees := [][]impl.Ent{
		// One more than TreeMost, and many more.
		filesAnd(impl.TreeMost + 1),
		filesAnd(impl.TreeMost+1, dirAt("/a"), fileAt("/a/b", "")),
		filesAnd(400),
		// Not in order.
		treeWith(fileAt("/b", ""), fileAt("/a", "")),
		treeWith(dirAt("/a"), fileAt("/ab", ""), fileAt("/a/b", "")),
		treeWith(dirAt("/a"), fileAt("/a/c", ""), fileAt("/a/b", "")),
		treeWith(fileAt("/a/b", ""), dirAt("/a")),
		treeWith(fileAt("/b", ""), fileAt("/c", ""), fileAt("/a", "")),
		// Two at one path.
		treeWith(fileAt("/a", ""), fileAt("/a", "")),
		treeWith(fileAt("/a", "x"), fileAt("/a", "y")),
		treeWith(dirAt("/a"), dirAt("/a")),
		treeWith(dirAt("/a"), fileAt("/a", "")),
		treeWith(fileAt("/a", ""), dirAt("/a")),
		treeWith(dirAt("/a"), dirAt("/a/b"), dirAt("/a/b")),
		// In a file.
		treeWith(fileAt("/a", ""), fileAt("/a/b", "")),
		treeWith(fileAt("/a", ""), dirAt("/a/b")),
		treeWith(dirAt("/a"), fileAt("/a/b", ""), fileAt("/a/b/c", "")),
		// In nothing.
		treeWith(fileAt("/a/b", "")),
		treeWith(dirAt("/a/b")),
		treeWith(dirAt("/a"), dirAt("/ab/c")),
		treeWith(dirAt("/ab"), fileAt("/ab/c", ""), fileAt("/abc/c", "")),
		treeWith(dirAt("/a"), fileAt("/a/b/c", "")),
		treeWith(dirAt("/a/b"), fileAt("/a/b/c", "")),
		// A directory with Data.
		treeWith(impl.Ent{Path: "/a", Dir: true, Data: "x"}),
		treeWith(dirAt("/a"), impl.Ent{Path: "/a/b", Dir: true, Data: "x"}),
		treeWith(impl.Ent{Path: "/a", Dir: true, Data: "!"}),
	}
	for _, path := range append(badPaths(), "/") {
		trees = append(trees, treeWith(fileAt(path, "")), treeWith(dirAt(path)))
	}
	for _, data := range badData() {
		trees = append(trees, treeWith(fileAt("/a", data)), treeWith(dirAt("/a"), fileAt("/a/b", data), fileAt("/c", "x")))
	}
	return trees
}

func TestTreeOkBroken(t *testing.T) {
	for _, tree := range brokenTrees() {
		if treeOk(t, tree) {
			t.Errorf("TreeOk(%v) = true", brief(tree))
		}
	}
}

func TestTreeGetBroken(t *testing.T) {
	for _, tree := range brokenTrees() {
		for _, path := range []string{"/", "/a", "/a/b", "/b", "/ba", "", "a"} {
			wantGet(t, tree, path, impl.Ent{}, false)
		}
		wantGet(t, tree, tree[0].Path, impl.Ent{}, false)
	}
}

func TestTreeListBroken(t *testing.T) {
	for _, tree := range brokenTrees() {
		for _, path := range []string{"/", "/a", "/a/b", "/b", "/q", "", "a"} {
			wantList(t, tree, path, "", impl.DoBad)
		}
		wantList(t, tree, tree[0].Path, "", impl.DoBad)
	}
}

func TestTreeDoBroken(t *testing.T) {
	ops := append(wrongOps(), makeOp("/q"), putOp("/q", "x"), putOp("/a", ""), rmOp("/a"), rmOp("/ba"), rmdirOp("/a"), moveOp("/a", "/q"), moveOp("/q", "/r"))
	for _, tree := range brokenTrees() {
		for _, op := range ops {
			if got, code := treeDo(t, tree, op); len(got) != 0 || code != impl.DoBad {
				t.Errorf("TreeDo(%v, %v) = %v, %d; want none, %d", brief(tree), brief(op), brief(got), code, impl.DoBad)
			}
		}
	}
}

func TestTreeTurnedBroken(t *testing.T) {
	for _, tree := range brokenTrees() {
		wantTurned(t, tree, nil)
		wantTurned(t, tree, someTree())
		wantTurned(t, tree, filesAnd(impl.TreeMost))
		wantTurned(t, tree, tree)
		wantTurned(t, tree, treeWith(fileAt("/a/b", "")))
	}
}

// wrongOps are such as OpOk is false of, each in one way by itself.
func wrongOps() []impl.Op {
	var ops []impl.Op
	for _, kind := range []int{0, 6, 7, -1, -2, -5, 100, 1 << 40, -1 << 63, 1<<63 - 1, 257, 1<<32 + 1} {
		ops = append(ops, impl.Op{Kind: kind, Path: "/a"}, impl.Op{Kind: kind, Path: "/a", To: "/q"}, impl.Op{Kind: kind, Path: "/q", Data: "x"})
	}
	for _, path := range append(badPaths(), "/") {
		ops = append(ops, makeOp(path), putOp(path, "x"), rmOp(path), rmdirOp(path), moveOp(path, "/q"), moveOp("/a", path))
	}
	for _, kind := range []int{impl.OpMake, impl.OpPut, impl.OpRm, impl.OpRmdir} {
		for _, to := range []string{"/q", "/a", "/", "q", " ", "\xff"} {
			ops = append(ops, impl.Op{Kind: kind, Path: "/a", To: to}, impl.Op{Kind: kind, Path: "/q", To: to})
		}
	}
	for _, kind := range []int{impl.OpMake, impl.OpRm, impl.OpRmdir} {
		for _, data := range []string{"x", "0", "abc123", " ", "1234567", "\xff"} {
			ops = append(ops, impl.Op{Kind: kind, Path: "/q", Data: data}, impl.Op{Kind: kind, Path: "/ab", Data: data})
		}
	}
	for _, data := range []string{"x", "0", "abc123", " ", "1234567", "\xff"} {
		ops = append(ops, impl.Op{Kind: impl.OpMove, Path: "/ab", To: "/q", Data: data})
	}
	for _, data := range badData() {
		ops = append(ops, putOp("/q", data), putOp("/ab", data))
	}
	return append(ops, impl.Op{}, moveOp("", ""), impl.Op{Kind: impl.OpMove, Path: "/a"})
}

func TestOpOk(t *testing.T) {
	for _, g := range goodPaths() {
		for _, op := range []impl.Op{makeOp(g.path), putOp(g.path, ""), putOp(g.path, "a0z9"), putOp(g.path, "123456"), rmOp(g.path), rmdirOp(g.path), moveOp(g.path, "/q"), moveOp("/q", g.path), moveOp(g.path, g.path)} {
			if !impl.OpOk(op) {
				t.Errorf("OpOk(%v) = false", op)
			}
		}
	}
}

func TestOpOkWrong(t *testing.T) {
	for _, op := range wrongOps() {
		if impl.OpOk(op) {
			t.Errorf("OpOk(%v) = true", brief(op))
		}
	}
}

func TestTreeDoWrongOps(t *testing.T) {
	for _, op := range wrongOps() {
		wantEnded(t, nil, op, impl.DoBad)
		wantEnded(t, someTree(), op, impl.DoBad)
		wantEnded(t, filesAnd(impl.TreeMost), op, impl.DoBad)
	}
}

// Each byte as data, by itself and behind others.
func TestDataEachByte(t *testing.T) {
	for b := 0; b < 256; b++ {
		want := 'a' <= b && b <= 'z' || '0' <= b && b <= '9'
		for _, data := range []string{string([]byte{byte(b)}), "a1" + string([]byte{byte(b)}), string([]byte{byte(b)}) + "zz9"} {
			if got := impl.OpOk(putOp("/a", data)); got != want {
				t.Errorf("OpOk of OpPut with Data %q = %v", data, got)
			}
			if got := treeOk(t, treeWith(fileAt("/a", data))); got != want {
				t.Errorf("TreeOk of a file with Data %q = %v", data, got)
			}
		}
	}
}

func TestDataMost(t *testing.T) {
	most := strings.Repeat("d", impl.DataMost)
	if !impl.OpOk(putOp("/a", most)) || impl.OpOk(putOp("/a", most+"d")) {
		t.Error("OpOk of DataMost bytes, and of one more")
	}
	if !treeOk(t, treeWith(fileAt("/a", most))) || treeOk(t, treeWith(fileAt("/a", most+"d"))) {
		t.Error("TreeOk of DataMost bytes, and of one more")
	}
	wantDone(t, nil, putOp("/a", most), fileAt("/a", most))
	wantEnded(t, nil, putOp("/a", most+"d"), impl.DoBad)
}

func TestTreeMost(t *testing.T) {
	if !treeOk(t, filesAnd(impl.TreeMost)) || treeOk(t, filesAnd(impl.TreeMost+1)) {
		t.Error("TreeOk of TreeMost, and of one more")
	}
	var tree []impl.Ent
	for _, name := range slices.Backward(manyNames(impl.TreeMost)) {
		next, code := treeDo(t, tree, putOp("/"+name, "x"))
		if code != impl.DoFine {
			t.Fatalf("TreeDo(%v) of %q tells %d", tree, name, code)
		}
		tree = next
	}
	if !slices.Equal(tree, filesAnd(impl.TreeMost)) {
		t.Errorf("TreeMost files were put, and there are %v", tree)
	}
	wantEnded(t, tree, putOp("/zzz", "x"), impl.DoRoom)
}
