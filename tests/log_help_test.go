package tests

import (
	"slices"
	"strings"
	"testing"

	"loop.example/pargeting/impl"
)

// ownTexts and ownOps are copies whose texts are no one else's, so that an answer that shares their memory is seen.

func ownTexts(tree []impl.Ent) []impl.Ent {
	own := slices.Clone(tree)
	for i, e := range own {
		own[i].Path, own[i].Data = strings.Clone(e.Path), strings.Clone(e.Data)
	}
	return own
}

func ownOps(ops []impl.Op) []impl.Op {
	own := slices.Clone(ops)
	for i, op := range own {
		own[i].Path, own[i].To, own[i].Data = strings.Clone(op.Path), strings.Clone(op.To), strings.Clone(op.Data)
	}
	return own
}

// loan is a tree and what is done to it as arguments.
type loan struct {
	tree lent[impl.Ent]
	ops  lent[impl.Op]
}

func lendLog(tree []impl.Ent, ops []impl.Op) loan {
	return loan{lendTree(ownTexts(tree)), lend(ownOps(ops), impl.Op{Kind: 77, Path: "mark", To: "mark", Data: "mark"})}
}

func (l loan) untouched(t *testing.T, what string) {
	t.Helper()
	l.tree.untouched(t, what)
	l.ops.untouched(t, what)
}

// ownsTexts says of texts that were told that they share no memory with the arguments.
func (l loan) ownsTexts(t *testing.T, what string, told ...string) {
	t.Helper()
	for _, text := range told {
		for _, e := range l.tree.list {
			isFresh(t, what, text, e.Path, e.Data)
		}
		for _, op := range l.ops.list {
			isFresh(t, what, text, op.Path, op.To, op.Data)
		}
	}
}

// The functions of the chapter, with a look at the memory of arguments and answers at each call: what is told once
// is written all over, and asked for again.

func opBack(t *testing.T, tree []impl.Ent, op impl.Op) (impl.Op, bool) {
	t.Helper()
	a := lendLog(tree, []impl.Op{op})
	back, ok := impl.OpBack(a.tree.list, a.ops.list[0])
	a.ownsTexts(t, "OpBack", back.Path, back.To, back.Data)
	if again, againOk := impl.OpBack(a.tree.list, a.ops.list[0]); again != back || againOk != ok {
		t.Fatalf("OpBack(%v, %v) = %v, %v; and again %v, %v", brief(tree), brief(op), brief(back), ok, brief(again), againOk)
	}
	a.untouched(t, "OpBack")
	return back, ok
}

func logDo(t *testing.T, tree []impl.Ent, ops []impl.Op) ([]impl.Ent, []int) {
	t.Helper()
	a := lendLog(tree, ops)
	done, codes := impl.LogDo(a.tree.list, a.ops.list)
	for _, e := range done {
		a.ownsTexts(t, "LogDo", e.Path, e.Data)
	}
	done, codes = keep(done, fileAt("written", "written")), keep(codes, 88)
	again, againCodes := impl.LogDo(a.tree.list, a.ops.list)
	if !slices.Equal(again, done) || !slices.Equal(againCodes, codes) {
		t.Fatalf("LogDo(%v, %v) = %v, %v; and again %v, %v", brief(tree), brief(ops), brief(done), codes, brief(again), againCodes)
	}
	a.untouched(t, "LogDo")
	return done, codes
}

func logOps(t *testing.T, what string, tell func([]impl.Ent, []impl.Op) []impl.Op, tree []impl.Ent, ops []impl.Op) []impl.Op {
	t.Helper()
	a := lendLog(tree, ops)
	told := tell(a.tree.list, a.ops.list)
	for _, op := range told {
		a.ownsTexts(t, what, op.Path, op.To, op.Data)
	}
	told = keep(told, impl.Op{Kind: 88, Path: "written", To: "written", Data: "written"})
	if again := tell(a.tree.list, a.ops.list); !slices.Equal(again, told) {
		t.Fatalf("%s(%v, %v) = %v; and again %v", what, brief(tree), brief(ops), brief(told), brief(again))
	}
	a.untouched(t, what)
	return told
}

func logClean(t *testing.T, tree []impl.Ent, ops []impl.Op) []impl.Op {
	t.Helper()
	return logOps(t, "LogClean", impl.LogClean, tree, ops)
}

func logBack(t *testing.T, tree []impl.Ent, ops []impl.Op) []impl.Op {
	t.Helper()
	return logOps(t, "LogBack", impl.LogBack, tree, ops)
}

func logOver(t *testing.T, o impl.Over, ops []impl.Op) (impl.Over, []int) {
	t.Helper()
	a, b := lendOver(o), lendLog(nil, ops)
	done, codes := impl.LogOver(a.over, b.ops.list)
	for _, text := range textsOf(done) {
		b.ownsTexts(t, "LogOver", text)
		isFresh(t, "LogOver", text, textsOf(o)...)
	}
	done, codes = keepOver(t, done), keep(codes, 88)
	again, againCodes := impl.LogOver(a.over, b.ops.list)
	if !alike(again, done) || !slices.Equal(againCodes, codes) {
		t.Fatalf("LogOver(%v, %v) = %v, %v; and again %v, %v", brief(o), brief(ops), brief(done), codes, brief(again), againCodes)
	}
	a.untouched(t, "LogOver")
	b.untouched(t, "LogOver")
	return done, codes
}

// textsOf are all texts of a tree on layers.
func textsOf(o impl.Over) []string {
	var texts []string
	for _, e := range o.Base {
		texts = append(texts, e.Path, e.Data)
	}
	for _, l := range slices.Concat(o.Layers, [][]impl.Mark{o.Upper}) {
		for _, m := range l {
			texts = append(texts, m.Path, m.Data)
		}
	}
	return texts
}

func opsOf(ops ...impl.Op) []impl.Op {
	return ops
}

// fines are that many codes of what was done.
func fines(n int) []int {
	return make([]int, n)
}

// wantBack is for what can be done: what undoes it, and that done behind it, it leaves the tree as it was.
func wantBack(t *testing.T, tree []impl.Ent, op, want impl.Op) {
	t.Helper()
	if got, ok := opBack(t, tree, op); got != want || !ok {
		t.Errorf("OpBack(%v, %v) = %v, %v; want %v, true", tree, op, got, ok, want)
	}
	done, code := treeDo(t, tree, op)
	if code != impl.DoFine {
		t.Fatalf("TreeDo(%v, %v) tells %d", tree, op, code)
	}
	if undone, code := treeDo(t, done, want); !slices.Equal(undone, tree) || code != impl.DoFine {
		t.Errorf("TreeDo(%v, %v) = %v, %d; want %v, %d", done, want, undone, code, tree, impl.DoFine)
	}
}

// wantNoBack is for what can not be done.
func wantNoBack(t *testing.T, tree []impl.Ent, op impl.Op) {
	t.Helper()
	if got, ok := opBack(t, tree, op); got != (impl.Op{}) || ok {
		t.Errorf("OpBack(%v, %v) = %v, %v; want nothing, false", brief(tree), brief(op), brief(got), ok)
	}
}

// someLog is what is done to a tree, and what is told of it.
type someLog struct {
	tree  []impl.Ent
	ops   []impl.Op
	end   []impl.Ent
	codes []int
	clean []impl.Op
	back  []impl.Op
}

// wantLog is for what is told of a tree, by itself and on layers of each sort.
func wantLog(t *testing.T, l someLog) {
	t.Helper()
	wantTold(t, l)
	for _, o := range oversOf(t, l.tree) {
		isUndoneOn(t, o, l)
	}
}

// wantTold holds the functions on trees against what is wanted, and asks for P9.
func wantTold(t *testing.T, l someLog) {
	t.Helper()
	if got, codes := logDo(t, l.tree, l.ops); !slices.Equal(got, l.end) || !slices.Equal(codes, l.codes) {
		t.Fatalf("LogDo(%v, %v) = %v, %v; want %v, %v", l.tree, brief(l.ops), brief(got), codes, l.end, l.codes)
	}
	if got := logClean(t, l.tree, l.ops); !slices.Equal(got, l.clean) {
		t.Fatalf("LogClean(%v, %v) = %v; want %v", l.tree, brief(l.ops), brief(got), l.clean)
	}
	if got := logBack(t, l.tree, l.ops); !slices.Equal(got, l.back) {
		t.Fatalf("LogBack(%v, %v) = %v; want %v", l.tree, brief(l.ops), brief(got), l.back)
	}
	isUndone(t, l)
}

// isUndone asks for P9 of a tree: what could be done ends in the same tree, and what undoes it in the first one;
// and what undoes that is what could be done.
func isUndone(t *testing.T, l someLog) {
	t.Helper()
	if got, codes := logDo(t, l.tree, l.clean); !slices.Equal(got, l.end) || !slices.Equal(codes, fines(len(l.clean))) {
		t.Fatalf("of %v and %v: LogDo of %v = %v, %v; want %v", l.tree, brief(l.ops), l.clean, brief(got), codes, l.end)
	}
	if got, codes := logDo(t, l.end, l.back); !slices.Equal(got, l.tree) || !slices.Equal(codes, fines(len(l.back))) {
		t.Fatalf("of %v and %v: LogDo of %v = %v, %v; want %v", l.tree, brief(l.ops), l.back, brief(got), codes, l.tree)
	}
	if got := logBack(t, l.end, l.back); !slices.Equal(got, l.clean) {
		t.Fatalf("of %v and %v: LogBack of %v = %v; want %v", l.tree, brief(l.ops), l.back, brief(got), l.clean)
	}
}

// isUndoneOn asks for P9 of a tree on layers of which the tree is seen.
func isUndoneOn(t *testing.T, o impl.Over, l someLog) {
	t.Helper()
	got, codes := logOver(t, o, l.ops)
	if !slices.Equal(codes, l.codes) {
		t.Fatalf("LogOver(%v, %v) tells %v; want %v", o, brief(l.ops), codes, l.codes)
	}
	lower := mustLower(t, o)
	if !alike(got, overWith(o.Base, layerDiff(t, lower, l.end), o.Layers...)) {
		t.Fatalf("LogOver(%v, %v) = %v", o, brief(l.ops), brief(got))
	}
	wantTrees(t, got, lower, l.end)
	if undone, codes := logOver(t, got, l.back); !alike(undone, o) || !slices.Equal(codes, fines(len(l.back))) {
		t.Fatalf("LogOver(%v, %v) = %v, %v; want %v", got, l.back, brief(undone), codes, o)
	}
}

// oversOf are trees on layers of which the tree is seen: of Base alone, of Upper alone, of a layer,
// and with a layer and Upper each otherwise than beneath.
func oversOf(t *testing.T, tree []impl.Ent) []impl.Over {
	t.Helper()
	other := treeWith(dirAt("/a"), fileAt("/a/b", "y"), dirAt("/ab"), fileAt("/ab/c", ""), fileAt("/q", "o"))
	return []impl.Over{
		overWith(tree, nil),
		overWith(nil, layerDiff(t, nil, tree)),
		overWith(nil, nil, layerDiff(t, nil, tree)),
		overWith(other, layerDiff(t, nil, tree), nil, layerDiff(t, other, nil)),
		overWith(nil, layerDiff(t, other, tree), layerDiff(t, nil, tree), layerDiff(t, tree, nil), layerDiff(t, nil, other), nil),
	}
}
