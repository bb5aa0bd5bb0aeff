package tests

import (
	"slices"
	"testing"

	"loop.example/pargeting/impl"
)

func TestLogMostIsThirty(t *testing.T) {
	if impl.LogMost != 30 {
		t.Errorf("LogMost is %d", impl.LogMost)
	}
}

func TestOpBackOfMake(t *testing.T) {
	wantBack(t, nil, makeOp("/a"), rmdirOp("/a"))
	wantBack(t, someTree(), makeOp("/b"), rmdirOp("/b"))
	wantBack(t, someTree(), makeOp("/e/a"), rmdirOp("/e/a"))
	wantBack(t, someTree(), makeOp("/a/c/e"), rmdirOp("/a/c/e"))
}

func TestOpBackOfRmdir(t *testing.T) {
	wantBack(t, treeWith(dirAt("/a")), rmdirOp("/a"), makeOp("/a"))
	wantBack(t, someTree(), rmdirOp("/e"), makeOp("/e"))
	wantBack(t, treeWith(dirAt("/a"), dirAt("/a/b"), dirAt("/a/b/c")), rmdirOp("/a/b/c"), makeOp("/a/b/c"))
}

// Where no file was it is to be gone, and where one was it is to have what it had, the same or not.
func TestOpBackOfPut(t *testing.T) {
	wantBack(t, nil, putOp("/a", ""), rmOp("/a"))
	wantBack(t, nil, putOp("/a", "x"), rmOp("/a"))
	wantBack(t, someTree(), putOp("/e/q", "x"), rmOp("/e/q"))
	wantBack(t, someTree(), putOp("/a/c/e", ""), rmOp("/a/c/e"))
	wantBack(t, someTree(), putOp("/ab", "z"), putOp("/ab", "y"))
	wantBack(t, someTree(), putOp("/ab", ""), putOp("/ab", "y"))
	wantBack(t, someTree(), putOp("/ab", "y"), putOp("/ab", "y"))
	wantBack(t, someTree(), putOp("/a/b", "abc123"), putOp("/a/b", "x"))
	wantBack(t, someTree(), putOp("/a/c/d", "x"), putOp("/a/c/d", ""))
	wantBack(t, someTree(), putOp("/a/c/d", ""), putOp("/a/c/d", ""))
	wantBack(t, treeWith(fileAt("/a", "abc123")), putOp("/a", "x"), putOp("/a", "abc123"))
}

func TestOpBackOfRm(t *testing.T) {
	wantBack(t, someTree(), rmOp("/ab"), putOp("/ab", "y"))
	wantBack(t, someTree(), rmOp("/a/b"), putOp("/a/b", "x"))
	wantBack(t, someTree(), rmOp("/a/c/d"), putOp("/a/c/d", ""))
	wantBack(t, treeWith(fileAt("/a", "abc123")), rmOp("/a"), putOp("/a", "abc123"))
	wantBack(t, treeWith(fileAt("/a", "")), rmOp("/a"), putOp("/a", ""))
}

func TestOpBackOfMove(t *testing.T) {
	wantBack(t, someTree(), moveOp("/ab", "/q"), moveOp("/q", "/ab"))
	wantBack(t, someTree(), moveOp("/ab", "/a/c/q"), moveOp("/a/c/q", "/ab"))
	wantBack(t, someTree(), moveOp("/a/c/d", "/q"), moveOp("/q", "/a/c/d"))
	wantBack(t, someTree(), moveOp("/a", "/abc"), moveOp("/abc", "/a"))
	wantBack(t, someTree(), moveOp("/a/c", "/e/c"), moveOp("/e/c", "/a/c"))
	wantBack(t, someTree(), moveOp("/a/c", "/c"), moveOp("/c", "/a/c"))
	wantBack(t, someTree(), moveOp("/e", "/a/c/e"), moveOp("/a/c/e", "/e"))
}

// A full tree has room for what undoes the last thing.
func TestOpBackAtTreeMost(t *testing.T) {
	full := filesAnd(impl.TreeMost, dirAt("/a"))
	wantBack(t, full, putOp("/ba", "new"), putOp("/ba", "x"))
	wantBack(t, full, rmOp("/ba"), putOp("/ba", "x"))
	wantBack(t, full, rmdirOp("/a"), makeOp("/a"))
	wantBack(t, full, moveOp("/ba", "/a/ba"), moveOp("/a/ba", "/ba"))
	wantBack(t, full[:impl.TreeMost-1], makeOp("/z"), rmdirOp("/z"))
	wantBack(t, full[:impl.TreeMost-1], putOp("/z", "x"), rmOp("/z"))
	wantNoBack(t, full, makeOp("/z"))
	wantNoBack(t, full, putOp("/z", "x"))
}

func TestLogOfSeveral(t *testing.T) {
	wantLog(t, someLog{
		tree: someTree(),
		ops: opsOf(putOp("/a/b", "y"), rmdirOp("/a"), moveOp("/a/c", "/q"), rmOp("/a/c/d"), rmOp("/q/d"), putOp("/n", "1"),
			makeOp("/ab"), makeOp("/a/c"), moveOp("/e", "/a/c/e"), rmdirOp("/q"), makeOp("/A")),
		end: treeWith(dirAt("/a"), fileAt("/a/b", "y"), dirAt("/a/c"), dirAt("/a/c/e"), fileAt("/a/cc", "1"), fileAt("/ab", "y"), fileAt("/n", "1")),
		codes: []int{impl.DoFine, impl.DoKept, impl.DoFine, impl.DoNone, impl.DoFine, impl.DoFine,
			impl.DoThere, impl.DoFine, impl.DoFine, impl.DoFine, impl.DoBad},
		clean: opsOf(putOp("/a/b", "y"), moveOp("/a/c", "/q"), rmOp("/q/d"), putOp("/n", "1"), makeOp("/a/c"), moveOp("/e", "/a/c/e"), rmdirOp("/q")),
		back:  opsOf(makeOp("/q"), moveOp("/a/c/e", "/e"), rmdirOp("/a/c"), rmOp("/n"), putOp("/q/d", ""), moveOp("/q", "/a/c"), putOp("/a/b", "x")),
	})
}

// What undoes the second one has the Data of the first.
func TestLogOfPutTwice(t *testing.T) {
	wantLog(t, someLog{
		ops:   opsOf(putOp("/n", "1"), putOp("/n", "2")),
		end:   treeWith(fileAt("/n", "2")),
		codes: fines(2),
		clean: opsOf(putOp("/n", "1"), putOp("/n", "2")),
		back:  opsOf(putOp("/n", "1"), rmOp("/n")),
	})
	wantLog(t, someLog{
		tree:  treeWith(fileAt("/n", "0")),
		ops:   opsOf(putOp("/n", "1"), putOp("/n", ""), putOp("/n", ""), putOp("/n", "1"), putOp("/n", "1")),
		end:   treeWith(fileAt("/n", "1")),
		codes: fines(5),
		clean: opsOf(putOp("/n", "1"), putOp("/n", ""), putOp("/n", ""), putOp("/n", "1"), putOp("/n", "1")),
		back:  opsOf(putOp("/n", "1"), putOp("/n", ""), putOp("/n", ""), putOp("/n", "1"), putOp("/n", "0")),
	})
	// The file is gone between, or is another one, of another name.
	wantLog(t, someLog{
		tree:  treeWith(fileAt("/n", "0")),
		ops:   opsOf(putOp("/n", "1"), rmOp("/n"), putOp("/n", "2"), moveOp("/n", "/m"), putOp("/n", "3"), putOp("/m", "4")),
		end:   treeWith(fileAt("/m", "4"), fileAt("/n", "3")),
		codes: fines(6),
		clean: opsOf(putOp("/n", "1"), rmOp("/n"), putOp("/n", "2"), moveOp("/n", "/m"), putOp("/n", "3"), putOp("/m", "4")),
		back:  opsOf(putOp("/m", "2"), rmOp("/n"), moveOp("/m", "/n"), rmOp("/n"), putOp("/n", "1"), putOp("/n", "0")),
	})
}

func TestLogOfRm(t *testing.T) {
	wantLog(t, someLog{
		tree:  someTree(),
		ops:   opsOf(rmOp("/a/b"), rmOp("/a/c/d"), rmOp("/a/b"), rmdirOp("/a/c"), rmOp("/ab")),
		end:   treeWith(dirAt("/a"), fileAt("/a/cc", "1"), dirAt("/e")),
		codes: []int{impl.DoFine, impl.DoFine, impl.DoNone, impl.DoFine, impl.DoFine},
		clean: opsOf(rmOp("/a/b"), rmOp("/a/c/d"), rmdirOp("/a/c"), rmOp("/ab")),
		back:  opsOf(putOp("/ab", "y"), makeOp("/a/c"), putOp("/a/c/d", ""), putOp("/a/b", "x")),
	})
}

// What was made in the place of what was moved is undone ahead of the move, so that its place is free.
func TestLogOfMoveAndWhatWasMadeInItsPlace(t *testing.T) {
	wantLog(t, someLog{
		tree:  treeWith(dirAt("/a"), fileAt("/a/b", "x")),
		ops:   opsOf(moveOp("/a", "/c"), makeOp("/a"), putOp("/a/b", "y"), putOp("/c/b", "z")),
		end:   treeWith(dirAt("/a"), fileAt("/a/b", "y"), dirAt("/c"), fileAt("/c/b", "z")),
		codes: fines(4),
		clean: opsOf(moveOp("/a", "/c"), makeOp("/a"), putOp("/a/b", "y"), putOp("/c/b", "z")),
		back:  opsOf(putOp("/c/b", "x"), rmOp("/a/b"), rmdirOp("/a"), moveOp("/c", "/a")),
	})
	// A file comes in the place of the directory.
	wantLog(t, someLog{
		tree:  treeWith(dirAt("/a"), fileAt("/a/b", "x")),
		ops:   opsOf(moveOp("/a", "/c"), putOp("/a", "y")),
		end:   treeWith(fileAt("/a", "y"), dirAt("/c"), fileAt("/c/b", "x")),
		codes: fines(2),
		clean: opsOf(moveOp("/a", "/c"), putOp("/a", "y")),
		back:  opsOf(rmOp("/a"), moveOp("/c", "/a")),
	})
	// Two change their places, and one is moved into what took its place.
	wantLog(t, someLog{
		tree:  treeWith(fileAt("/a", "1"), fileAt("/b", "2")),
		ops:   opsOf(moveOp("/a", "/t"), moveOp("/b", "/a"), moveOp("/t", "/b"), moveOp("/a", "/b"), putOp("/a", "3")),
		end:   treeWith(fileAt("/a", "3"), fileAt("/b", "1")),
		codes: []int{impl.DoFine, impl.DoFine, impl.DoFine, impl.DoThere, impl.DoFine},
		clean: opsOf(moveOp("/a", "/t"), moveOp("/b", "/a"), moveOp("/t", "/b"), putOp("/a", "3")),
		back:  opsOf(putOp("/a", "2"), moveOp("/b", "/t"), moveOp("/a", "/b"), moveOp("/t", "/a")),
	})
	wantLog(t, someLog{
		tree:  treeWith(dirAt("/a"), fileAt("/a/b", "x")),
		ops:   opsOf(moveOp("/a", "/c"), makeOp("/a"), moveOp("/c", "/a/a")),
		end:   treeWith(dirAt("/a"), dirAt("/a/a"), fileAt("/a/a/b", "x")),
		codes: fines(3),
		clean: opsOf(moveOp("/a", "/c"), makeOp("/a"), moveOp("/c", "/a/a")),
		back:  opsOf(moveOp("/a/a", "/c"), rmdirOp("/a"), moveOp("/c", "/a")),
	})
}

func TestLogOfMakeAndRmdir(t *testing.T) {
	wantLog(t, someLog{
		ops:   opsOf(makeOp("/a"), rmdirOp("/a")),
		codes: fines(2),
		clean: opsOf(makeOp("/a"), rmdirOp("/a")),
		back:  opsOf(makeOp("/a"), rmdirOp("/a")),
	})
	wantLog(t, someLog{
		tree:  treeWith(dirAt("/a")),
		ops:   opsOf(rmdirOp("/a"), makeOp("/a")),
		end:   treeWith(dirAt("/a")),
		codes: fines(2),
		clean: opsOf(rmdirOp("/a"), makeOp("/a")),
		back:  opsOf(rmdirOp("/a"), makeOp("/a")),
	})
	// One in the other: the inner one is gone first.
	wantLog(t, someLog{
		ops:   opsOf(makeOp("/a"), makeOp("/a/b"), makeOp("/a/b/c"), makeOp("/a")),
		end:   treeWith(dirAt("/a"), dirAt("/a/b"), dirAt("/a/b/c")),
		codes: []int{impl.DoFine, impl.DoFine, impl.DoFine, impl.DoThere},
		clean: opsOf(makeOp("/a"), makeOp("/a/b"), makeOp("/a/b/c")),
		back:  opsOf(rmdirOp("/a/b/c"), rmdirOp("/a/b"), rmdirOp("/a")),
	})
}

func TestLogOfNothing(t *testing.T) {
	for _, tree := range goodTrees() {
		wantLog(t, someLog{tree: tree, end: tree})
		wantLog(t, someLog{tree: tree, ops: opsOf(), end: tree})
	}
	for _, g := range goodOvers() {
		for _, ops := range [][]impl.Op{nil, {}} {
			if got, codes := logOver(t, g.over, ops); !alike(got, g.over) || len(codes) != 0 {
				t.Errorf("LogOver(%v, none) = %v, %v; want it as it was", g.over, got, codes)
			}
		}
	}
}

// wantTooLong is for what is more than LogMost.
func wantTooLong(t *testing.T, tree []impl.Ent, ops []impl.Op) {
	t.Helper()
	if done, codes := logDo(t, tree, ops); len(done) != 0 || len(codes) != 0 {
		t.Errorf("LogDo of %d = %v, %v; want none, none", len(ops), brief(done), brief(codes))
	}
	if clean := logClean(t, tree, ops); len(clean) != 0 {
		t.Errorf("LogClean of %d = %v; want none", len(ops), brief(clean))
	}
	if back := logBack(t, tree, ops); len(back) != 0 {
		t.Errorf("LogBack of %d = %v; want none", len(ops), brief(back))
	}
	for _, o := range oversOf(t, tree) {
		if got, codes := logOver(t, o, ops); !alike(got, impl.Over{}) || len(codes) != 0 {
			t.Errorf("LogOver of %d = %v, %v; want nothing, none", len(ops), brief(got), brief(codes))
		}
	}
}

func TestLogMostAndOneMore(t *testing.T) {
	two := opsOf(putOp("/e/q", "x"), rmOp("/e/q"))
	back := opsOf(putOp("/e/q", "x"), rmOp("/e/q"))
	many := slices.Repeat(two, impl.LogMost/2)
	wantLog(t, someLog{
		tree: someTree(), ops: many, end: someTree(), codes: fines(impl.LogMost), clean: many, back: slices.Repeat(back, impl.LogMost/2),
	})
	wantTooLong(t, someTree(), append(slices.Clone(many), putOp("/e/q", "x")))
	wantTooLong(t, someTree(), slices.Repeat(two, 1000))
	// What can not be done counts too.
	for _, op := range opsOf(rmOp("/q"), makeOp("/a"), impl.Op{}) {
		_, code := treeDo(t, someTree(), op)
		wantLog(t, someLog{
			tree: someTree(), ops: slices.Repeat(opsOf(op), impl.LogMost), end: someTree(), codes: slices.Repeat([]int{code}, impl.LogMost),
		})
		wantTooLong(t, someTree(), slices.Repeat(opsOf(op), impl.LogMost+1))
		wantTooLong(t, nil, append(slices.Clone(many), op))
	}
}

// From nothing to a full tree and all of it back, and from a full tree to nothing.
func TestLogToTreeMostAndBack(t *testing.T) {
	full := filesAnd(impl.TreeMost, dirAt("/a"), dirAt("/a/a"), fileAt("/a/a/a", "deep"))
	var put, rm, codes = opsOf(), opsOf(), []int{}
	for _, e := range full {
		if e.Dir {
			put, rm = append(put, makeOp(e.Path)), append(rm, rmdirOp(e.Path))
		} else {
			put, rm = append(put, putOp(e.Path, e.Data)), append(rm, rmOp(e.Path))
		}
		codes = append(codes, impl.DoFine)
	}
	slices.Reverse(rm)
	wantLog(t, someLog{ops: put, end: full, codes: codes, clean: put, back: rm})
	away := slices.Clone(put)
	slices.Reverse(away)
	wantLog(t, someLog{tree: full, ops: rm, codes: codes, clean: rm, back: put})
	// There is no room for more, but in the place of what is gone.
	more := append(slices.Clone(put), putOp("/z", "1"), rmOp("/ba"), putOp("/z", "2"), makeOp("/y"))
	end := append(slices.Delete(slices.Clone(full), 3, 4), fileAt("/z", "2"))
	wantLog(t, someLog{
		ops: more, end: end, codes: append(slices.Clone(codes), impl.DoRoom, impl.DoFine, impl.DoFine, impl.DoRoom),
		clean: append(slices.Clone(put), rmOp("/ba"), putOp("/z", "2")),
		back:  append(opsOf(rmOp("/z"), putOp("/ba", "x")), rm...),
	})
}

// What is done to what is of Base, of layers and of Upper, and undone: nothing is left of it.
func TestLogOver(t *testing.T) {
	o := someOver()
	ops := opsOf(putOp("/f", "1"), rmOp("/a/b"), moveOp("/g", "/e"), makeOp("/g"), rmdirOp("/a"), putOp("/f", "2"), putOp("/a/cc", "3"))
	want := overWith(o.Base, layerWith(dirMark("/a"), goneMark("/a/b"), fileMark("/a/cc", "3"), dirMark("/ab"), fileMark("/ab/x", "u"),
		dirMark("/e"), fileMark("/e/h", ""), fileMark("/f", "2"), dirMark("/g"), goneMark("/g/h")), o.Layers...)
	got, codes := logOver(t, o, ops)
	if !alike(got, want) || !slices.Equal(codes, []int{0, 0, 0, 0, impl.DoKept, 0, 0}) {
		t.Fatalf("LogOver(%v, %v) = %v, %v; want %v", o, ops, got, codes, want)
	}
	seen := mustView(t, o)
	back := logBack(t, seen, ops)
	if want := opsOf(rmOp("/a/cc"), putOp("/f", "1"), rmdirOp("/g"), moveOp("/e", "/g"), putOp("/a/b", "3"), putOp("/f", "f")); !slices.Equal(back, want) {
		t.Fatalf("LogBack(%v, %v) = %v; want %v", seen, ops, back, want)
	}
	if undone, codes := logOver(t, got, back); !alike(undone, o) || !slices.Equal(codes, fines(6)) {
		t.Errorf("LogOver(%v, %v) = %v, %v; want %v", got, back, undone, codes, o)
	}
	if both, codes := logOver(t, o, slices.Concat(ops, back)); !alike(both, o) || len(codes) != 13 {
		t.Errorf("LogOver(%v, %v and %v) = %v, %v; want it as it was", o, ops, back, both, codes)
	}
}

// Beneath there may be TreeMost, and TreeMost others seen.
func TestLogOverOtherwiseInAll(t *testing.T) {
	var ops []impl.Op
	for _, e := range filesAnd(impl.TreeMost) {
		ops = append(ops, moveOp(e.Path, "/z"+e.Path[2:]))
	}
	o := overWith(filesAnd(impl.TreeMost), nil)
	got, codes := logOver(t, o, ops)
	if len(got.Upper) != 2*impl.TreeMost || !slices.Equal(codes, fines(impl.TreeMost)) {
		t.Fatalf("LogOver(%v, %v) = %v, %v", o, ops, got, codes)
	}
	if undone, codes := logOver(t, got, logBack(t, filesAnd(impl.TreeMost), ops)); !alike(undone, o) || !slices.Equal(codes, fines(impl.TreeMost)) {
		t.Errorf("undone, it is %v, %v; want %v", undone, codes, o)
	}
}
