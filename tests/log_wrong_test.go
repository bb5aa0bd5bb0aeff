package tests

import (
	"slices"
	"testing"

	"loop.example/pargeting/impl"
)

// shortLogs are lists of what can be done somewhere, of what can not, and of what can not be read.
func shortLogs() [][]impl.Op {
	return [][]impl.Op{
		nil,
		opsOf(makeOp("/q")),
		opsOf(putOp("/q", "x"), rmOp("/q")),
		opsOf(rmOp("/a"), rmdirOp("/a"), moveOp("/a", "/q"), makeOp("/a")),
		opsOf(impl.Op{}),
		slices.Repeat(opsOf(makeOp("/q"), rmdirOp("/q")), impl.LogMost),
	}
}

// Of what is no tree nothing is told, whatever is done.
func TestLogBroken(t *testing.T) {
	for _, tree := range brokenTrees() {
		for _, op := range append(slices.Concat(shortLogs()[:5]...), moveOp("/b", "/c"), putOp("/ba", "")) {
			wantNoBack(t, tree, op)
		}
		for _, ops := range shortLogs() {
			if done, codes := logDo(t, tree, ops); len(done) != 0 || len(codes) != 0 {
				t.Errorf("LogDo(%v, %v) = %v, %v; want none, none", brief(tree), brief(ops), brief(done), codes)
			}
			if clean := logClean(t, tree, ops); len(clean) != 0 {
				t.Errorf("LogClean(%v, %v) = %v; want none", brief(tree), brief(ops), brief(clean))
			}
			if back := logBack(t, tree, ops); len(back) != 0 {
				t.Errorf("LogBack(%v, %v) = %v; want none", brief(tree), brief(ops), brief(back))
			}
		}
	}
}

func TestLogOverBroken(t *testing.T) {
	for _, o := range brokenOvers() {
		for _, ops := range shortLogs() {
			if got, codes := logOver(t, o, ops); !alike(got, impl.Over{}) || len(codes) != 0 {
				t.Errorf("LogOver(%v, %v) = %v, %v; want nothing, none", brief(o), brief(ops), brief(got), codes)
			}
		}
	}
}

// workedOn is a tree, what can be done to it, and what can not be at any time meanwhile.
type workedOn struct {
	someLog
	ended []impl.Op
	code  int
}

func workOnSome(code int, ended ...impl.Op) workedOn {
	ops := opsOf(putOp("/n", "1"), makeOp("/m"), moveOp("/n", "/m/n"), putOp("/m/n", "2"), rmOp("/a/b"), moveOp("/m", "/l"))
	return workedOn{someLog{
		tree: someTree(),
		ops:  ops,
		end: treeWith(dirAt("/a"), dirAt("/a/c"), fileAt("/a/c/d", ""), fileAt("/a/cc", "1"), fileAt("/ab", "y"), dirAt("/e"),
			dirAt("/l"), fileAt("/l/n", "2")),
		codes: fines(6),
		clean: ops,
		back:  opsOf(moveOp("/l", "/m"), putOp("/a/b", "x"), putOp("/m/n", "1"), moveOp("/m/n", "/n"), rmdirOp("/m"), rmOp("/n")),
	}, ended, code}
}

func workOnFull(code int, ended ...impl.Op) workedOn {
	full := filesAnd(impl.TreeMost, dirAt("/a"))
	ops := opsOf(putOp("/ba", "1"), moveOp("/ba", "/a/x"), putOp("/a/x", "2"), moveOp("/a", "/aa"))
	return workedOn{someLog{
		tree:  full,
		ops:   ops,
		end:   append(treeWith(dirAt("/aa"), fileAt("/aa/x", "2")), full[2:]...),
		codes: fines(4),
		clean: ops,
		back:  opsOf(moveOp("/aa", "/a"), putOp("/a/x", "1"), moveOp("/a/x", "/ba"), putOp("/ba", "x")),
	}, ended, code}
}

func allWork() []workedOn {
	return []workedOn{
		workOnSome(impl.DoBad, impl.Op{}, impl.Op{Kind: 6, Path: "/q"}, makeOp("/"), putOp("/A", ""), putOp("/q", "!"), moveOp("/ab", "/"), impl.Op{Kind: impl.OpRm, Path: "/ab", Data: "y"}),
		workOnSome(impl.DoNone, makeOp("/q/a"), putOp("/q/a", "x"), rmOp("/q"), rmdirOp("/q"), moveOp("/q", "/r"), moveOp("/ab", "/q/a")),
		workOnSome(impl.DoNotDir, makeOp("/ab/x"), putOp("/ab/x", ""), rmdirOp("/ab"), moveOp("/e", "/ab/x")),
		workOnSome(impl.DoThere, makeOp("/a"), makeOp("/ab"), moveOp("/ab", "/a"), moveOp("/a", "/a"), moveOp("/e", "/a/c/d")),
		workOnSome(impl.DoIsDir, putOp("/a", "x"), putOp("/a/c", ""), rmOp("/a"), rmOp("/e")),
		workOnSome(impl.DoKept, rmdirOp("/a"), rmdirOp("/a/c")),
		workOnSome(impl.DoUnder, moveOp("/a", "/a/c/e"), moveOp("/a", "/a/q"), moveOp("/a/c", "/a/c/e"), moveOp("/e", "/e/e")),
		workOnSome(impl.DoRoom, moveOp("/a", "/e/a")),
		workOnFull(impl.DoRoom, makeOp("/z"), putOp("/z", "x"), putOp("/z", "")),
	}
}

// What could not be done, alone and at each place of a list: it turns nothing, and nothing undoes it.
func TestLogOfWhatCanNotBeDone(t *testing.T) {
	for _, w := range allWork() {
		for _, op := range w.ended {
			wantNoBack(t, w.tree, op)
			wantNoBack(t, w.end, op)
			wantLog(t, someLog{tree: w.tree, ops: opsOf(op), end: w.tree, codes: []int{w.code}})
			for at := range len(w.ops) + 1 {
				l := w.someLog
				l.ops = slices.Insert(slices.Clone(w.ops), at, op)
				l.codes = slices.Insert(slices.Clone(w.codes), at, w.code)
				wantLog(t, l)
			}
		}
		l := someLog{tree: w.tree, ops: w.ended, end: w.tree, codes: slices.Repeat([]int{w.code}, len(w.ended))}
		wantLog(t, l)
	}
}

func TestLogOfWrongOps(t *testing.T) {
	w := workOnSome(impl.DoBad)
	overs := oversOf(t, w.tree)
	for i, op := range wrongOps() {
		wantNoBack(t, nil, op)
		wantNoBack(t, w.tree, op)
		wantNoBack(t, filesAnd(impl.TreeMost), op)
		wantTold(t, someLog{tree: w.tree, ops: opsOf(op), end: w.tree, codes: []int{impl.DoBad}})
		l, at := w.someLog, i%(len(w.ops)+1)
		l.ops = slices.Insert(slices.Clone(w.ops), at, op)
		l.codes = slices.Insert(slices.Clone(w.codes), at, impl.DoBad)
		wantTold(t, l)
		isUndoneOn(t, overs[i%len(overs)], l)
	}
}

// What could be done only if something ahead of it had been, and what can be done only as something ahead of it was not.
func TestLogOfWhatHangsOnOthers(t *testing.T) {
	wantLog(t, someLog{
		tree:  treeWith(fileAt("/f", "x")),
		ops:   opsOf(makeOp("/f"), putOp("/f/a", "1"), putOp("/f", "2"), moveOp("/f", "/g/h"), rmOp("/g/h"), moveOp("/f", "/g"), rmOp("/f"), rmOp("/g")),
		end:   nil,
		codes: []int{impl.DoThere, impl.DoNotDir, impl.DoFine, impl.DoNone, impl.DoNone, impl.DoFine, impl.DoNone, impl.DoFine},
		clean: opsOf(putOp("/f", "2"), moveOp("/f", "/g"), rmOp("/g")),
		back:  opsOf(putOp("/g", "2"), moveOp("/g", "/f"), putOp("/f", "x")),
	})
}
