package tests

import (
	"fmt"
	"slices"
	"strings"
	"testing"

	"loop.example/pargeting/impl"
)

func dirAt(path string) impl.Ent {
	return impl.Ent{Path: path, Dir: true}
}

func fileAt(path, data string) impl.Ent {
	return impl.Ent{Path: path, Data: data}
}

func treeWith(ents ...impl.Ent) []impl.Ent {
	return ents
}

func makeOp(path string) impl.Op {
	return impl.Op{Kind: impl.OpMake, Path: path}
}

func putOp(path, data string) impl.Op {
	return impl.Op{Kind: impl.OpPut, Path: path, Data: data}
}

func rmOp(path string) impl.Op {
	return impl.Op{Kind: impl.OpRm, Path: path}
}

func rmdirOp(path string) impl.Op {
	return impl.Op{Kind: impl.OpRmdir, Path: path}
}

func moveOp(path, to string) impl.Op {
	return impl.Op{Kind: impl.OpMove, Path: path, To: to}
}

// brief keeps what a failed test tells of trees readable, as some have texts without end.
func brief(x any) string {
	s := strings.ToValidUTF8(fmt.Sprint(x), "?")
	if len(s) > 400 {
		return strings.ToValidUTF8(s[:400], "") + ".."
	}
	return s
}

// lent is a list as an argument, laid in a greater one: what stands ahead of it and behind its end is no one's to write.
type lent[T comparable] struct {
	list []T
	room []T
	was  []T
}

func lend[T comparable](list []T, mark T) lent[T] {
	room := slices.Concat([]T{mark, mark}, list, []T{mark, mark, mark})
	return lent[T]{room[2 : 2+len(list)], room, slices.Clone(room)}
}

func lendTree(t []impl.Ent) lent[impl.Ent] {
	return lend(t, impl.Ent{Path: "mark", Dir: true, Data: "mark"})
}

func (l lent[T]) untouched(t *testing.T, what string) {
	t.Helper()
	if !slices.Equal(l.room, l.was) {
		t.Fatalf("%s: the argument %v has become %v", what, brief(l.was), brief(l.room))
	}
}

// keep copies an answer, and writes all over it and its spare room, so that whoever shares its memory is seen.
func keep[T any](answer []T, mark T) []T {
	kept := slices.Clone(answer)
	for i := range answer[:cap(answer)] {
		answer[:cap(answer)][i] = mark
	}
	return kept
}

// The functions of the chapter, with a look at the memory of arguments and answers at each call.

func treeOk(t *testing.T, tree []impl.Ent) bool {
	t.Helper()
	a := lendTree(tree)
	ok := impl.TreeOk(a.list)
	a.untouched(t, "TreeOk")
	return ok
}

func treeSame(t *testing.T, a, b []impl.Ent) bool {
	t.Helper()
	x, y := lendTree(a), lendTree(b)
	same := impl.TreeSame(x.list, y.list)
	x.untouched(t, "TreeSame")
	y.untouched(t, "TreeSame")
	return same
}

func treeGet(t *testing.T, tree []impl.Ent, path string) (impl.Ent, bool) {
	t.Helper()
	a := lendTree(tree)
	e, ok := impl.TreeGet(a.list, path)
	a.untouched(t, "TreeGet")
	return e, ok
}

func treeList(t *testing.T, tree []impl.Ent, path string) ([]string, int) {
	t.Helper()
	a := lendTree(tree)
	names, code := impl.TreeList(a.list, path)
	names = keep(names, "written")
	a.untouched(t, "TreeList")
	return names, code
}

func treeDo(t *testing.T, tree []impl.Ent, op impl.Op) ([]impl.Ent, int) {
	t.Helper()
	a := lendTree(tree)
	done, code := impl.TreeDo(a.list, op)
	done = keep(done, fileAt("written", "written"))
	a.untouched(t, "TreeDo")
	return done, code
}

func treeTurned(t *testing.T, a, b []impl.Ent) []string {
	t.Helper()
	x, y := lendTree(a), lendTree(b)
	paths := keep(impl.TreeTurned(x.list, y.list), "written")
	x.untouched(t, "TreeTurned")
	y.untouched(t, "TreeTurned")
	return paths
}

func wantGet(t *testing.T, tree []impl.Ent, path string, want impl.Ent, wantOk bool) {
	t.Helper()
	if got, ok := treeGet(t, tree, path); got != want || ok != wantOk {
		t.Errorf("TreeGet(%v, %q) = %v, %v; want %v, %v", brief(tree), short(path), brief(got), ok, want, wantOk)
	}
}

func wantList(t *testing.T, tree []impl.Ent, path, want string, wantCode int) {
	t.Helper()
	if got, code := treeList(t, tree, path); strings.Join(got, " ") != want || code != wantCode || (want == "") != (len(got) == 0) {
		t.Errorf("TreeList(%v, %q) = %q, %d; want %q, %d", brief(tree), short(path), brief(got), code, want, wantCode)
	}
}

func wantTurned(t *testing.T, a, b []impl.Ent, want ...string) {
	t.Helper()
	if got := treeTurned(t, a, b); !slices.Equal(got, want) {
		t.Errorf("TreeTurned(%v, %v) = %q; want %q", brief(a), brief(b), got, want)
	}
	if got := treeTurned(t, b, a); !slices.Equal(got, want) {
		t.Errorf("TreeTurned(%v, %v) = %q; want %q", brief(b), brief(a), got, want)
	}
}

// wantDone is for what is done: the tree that is told, and that it is one.
func wantDone(t *testing.T, tree []impl.Ent, op impl.Op, want ...impl.Ent) {
	t.Helper()
	got, code := treeDo(t, tree, op)
	if !slices.Equal(got, want) || code != impl.DoFine {
		t.Errorf("TreeDo(%v, %v) = %v, %d; want %v, %d", tree, op, got, code, want, impl.DoFine)
	}
	if !treeOk(t, got) {
		t.Errorf("TreeDo(%v, %v) = %v, which is no tree", tree, op, got)
	}
}

// wantEnded is for what can not be done: the tree is as it was.
func wantEnded(t *testing.T, tree []impl.Ent, op impl.Op, wantCode int) {
	t.Helper()
	if got, code := treeDo(t, tree, op); !slices.Equal(got, tree) || code != wantCode {
		t.Errorf("TreeDo(%v, %v) = %v, %d; want it as it was, %d", brief(tree), brief(op), brief(got), code, wantCode)
	}
}

// manyNames are that many names, ascending.
func manyNames(n int) []string {
	var names []string
	for i := range n {
		names = append(names, string([]byte{'b' + byte(i/26), 'a' + byte(i%26)}))
	}
	return names
}

// filesAnd is a tree of that many in all: these, whose paths come ahead of /b, and files behind them.
func filesAnd(n int, ents ...impl.Ent) []impl.Ent {
	t := slices.Clone(ents)
	for _, name := range manyNames(n - len(ents)) {
		t = append(t, fileAt("/"+name, "x"))
	}
	return t
}

// badData are texts that are no data.
func badData() []string {
	return []string{
		"1234567", "abcdefg", "A", "aB", "Z", " ", "a ", " a", "a b", "-", "_", ".", "/", "/a", "`", "{", "@", "[", ":", "\x00", "a\x00", "\n", "a\n", "\t",
		"é", "aé", "日", "ａ", "０", "²", "٣", "\xff", "a\xff", "\xc3", "\xe2\x82", "\xb0", "\ufffd",
		strings.Repeat("a", 100000), strings.Repeat("\xff", 100000),
	}
}
