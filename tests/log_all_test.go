package tests

import (
	"slices"
	"testing"

	"loop.example/pargeting/impl"
)

// The chapter's words once more, said of a map of paths, to hold the program against.

// back is what undoes what can be done to the tree as it is.
func (s spread) back(op impl.Op) impl.Op {
	old, there := s[op.Path]
	switch {
	case op.Kind == 5:
		return moveOp(op.To, op.Path)
	case op.Kind == 1:
		return rmdirOp(op.Path)
	case op.Kind == 4:
		return makeOp(op.Path)
	case there:
		return putOp(op.Path, old.Data)
	}
	return rmOp(op.Path)
}

// logOf is all that the chapter says of a tree and of what is done.
func logOf(tree []impl.Ent, s spread, ops []impl.Op) someLog {
	l := someLog{tree: tree, ops: ops}
	for _, op := range ops {
		next, code := s.do(op)
		l.codes = append(l.codes, code)
		if code == 0 {
			l.clean, l.back = append(l.clean, op), append(l.back, s.back(op))
		}
		s = next
	}
	slices.Reverse(l.back)
	l.end = s.list()
	return l
}

func TestOpBackOfAllSmallTrees(t *testing.T) {
	ops, done := opsAt(pathsOf("", someNames())), map[int]int{}
	for _, tree := range treesOf("", someNames()) {
		s := mustSpread(t, tree)
		for _, op := range ops {
			next, code := s.do(op)
			want := impl.Op{}
			if code == 0 {
				want = s.back(op)
				done[op.Kind*10+want.Kind]++
			}
			got, ok := impl.OpBack(tree, op)
			if got != want || ok != (code == 0) {
				t.Fatalf("OpBack(%v, %v) = %v, %v; want %v, %v", tree, op, got, ok, want, code == 0)
			}
			if !ok {
				continue
			}
			if undone, code := impl.TreeDo(next.list(), got); !slices.Equal(undone, tree) || code != 0 {
				t.Fatalf("TreeDo(%v, %v) = %v, %d; want %v", next.list(), got, undone, code, tree)
			}
		}
	}
	// Each kind has been undone by each that can undo it.
	for _, k := range []int{14, 22, 23, 32, 41, 55} {
		if done[k] == 0 {
			t.Errorf("Kind %d has not been undone by Kind %d", k/10, k%10)
		}
	}
	if len(done) != 6 {
		t.Errorf("kinds that were undone, and by which: %v", done)
	}
}

// Of all small trees all short lists of what is done, each on one of some layers in turn.
func TestLogOfAllShortLists(t *testing.T) {
	for _, few := range []struct {
		names [][]string
		most  int
	}{
		{[][]string{{"a"}, {"b"}}, 3},
		{[][]string{{"a", "b"}}, 3},
		{[][]string{{"a", "ab"}, {"b"}}, 2},
		{[][]string{{"a"}, {"b"}, {"c"}}, 2},
	} {
		ops, turn := opsAt(pathsOf("", few.names)), 0
		for _, tree := range treesOf("", few.names) {
			s, overs := mustSpread(t, tree), oversOf(t, tree)
			eachList(ops, few.most, func(list []impl.Op) {
				turn++
				l, o := logOf(tree, s, list), overs[turn%len(overs)]
				isTold(t, l)
				isToldOn(t, o, l)
				if turn%17 == 0 {
					isUndone(t, l)
					isUndoneOn(t, o, l)
				}
			})
		}
	}
}

// eachList tells all lists of that many at most.
func eachList(ops []impl.Op, most int, tell func([]impl.Op)) {
	var from func(list []impl.Op)
	from = func(list []impl.Op) {
		tell(list)
		if len(list) == most {
			return
		}
		for _, op := range ops {
			from(append(slices.Clone(list), op))
		}
	}
	from(nil)
}

// isTold is wantTold without a look at memory, where there is much to look at.
func isTold(t *testing.T, l someLog) {
	t.Helper()
	if got, codes := impl.LogDo(l.tree, l.ops); !slices.Equal(got, l.end) || !slices.Equal(codes, l.codes) {
		t.Fatalf("LogDo(%v, %v) = %v, %v; want %v, %v", l.tree, l.ops, got, codes, l.end, l.codes)
	}
	if got := impl.LogClean(l.tree, l.ops); !slices.Equal(got, l.clean) {
		t.Fatalf("LogClean(%v, %v) = %v; want %v", l.tree, l.ops, got, l.clean)
	}
	if got := impl.LogBack(l.tree, l.ops); !slices.Equal(got, l.back) {
		t.Fatalf("LogBack(%v, %v) = %v; want %v", l.tree, l.ops, got, l.back)
	}
	if got, codes := impl.LogDo(l.end, l.back); !slices.Equal(got, l.tree) || !slices.Equal(codes, fines(len(l.back))) {
		t.Fatalf("of %v and %v: LogDo of %v = %v, %v; want %v", l.tree, l.ops, l.back, got, codes, l.tree)
	}
}

// isToldOn is isUndoneOn without a look at memory.
func isToldOn(t *testing.T, o impl.Over, l someLog) {
	t.Helper()
	got, codes := impl.LogOver(o, l.ops)
	if seen, ok := impl.OverView(got); !slices.Equal(seen, l.end) || !ok || !slices.Equal(codes, l.codes) {
		t.Fatalf("LogOver(%v, %v) = %v, %v; want to see %v, %v", o, l.ops, got, codes, l.end, l.codes)
	}
	if undone, codes := impl.LogOver(got, l.back); !alike(undone, o) || !slices.Equal(codes, fines(len(l.back))) {
		t.Fatalf("LogOver(%v, %v) = %v, %v; want %v", got, l.back, undone, codes, o)
	}
}

// longList is a list up to LogMost, most of which can be done, chosen by a fixed rule.
func (w *someWay) longList(s spread) []impl.Op {
	var ops []impl.Op
	most, onlyDone := impl.LogMost, w.pick(4) == 0
	if w.pick(3) == 0 {
		most = w.pick(impl.LogMost + 1)
	}
	for len(ops) < most {
		op := w.op()
		next, code := s.do(op)
		// What can not be done comes less often, and what takes away too, so that much can be done.
		if code != 0 && (onlyDone || w.pick(8) > 0) || (op.Kind == impl.OpRm || op.Kind == impl.OpRmdir) && w.pick(2) > 0 {
			continue
		}
		ops, s = append(ops, op), next
		w.came[string([]byte{'0' + byte(op.Kind), '0' + byte(code)})]++
	}
	return ops
}

// P9 of long lists, on trees and on however many layers of any marks.
func TestLogOnALongWay(t *testing.T) {
	w := &someWay{
		wayside: &wayside{
			state: 23,
			paths: slices.Sorted(slices.Values(pathsOf("", [][]string{{"a", "aa", "b"}, {"a", "ab"}, {"a", "z"}}))),
			datas: []string{"", "x", "y1", "abc123"},
		},
		came: map[string]int{},
	}
	for range 250 {
		w.start(t)
		seen := mustView(t, w.over)
		s := mustSpread(t, seen)
		l := logOf(seen, s, w.longList(s))
		wantTold(t, l)
		isUndoneOn(t, w.over, l)
		isOneByOne(t, w.over, l)
		if len(l.ops) == impl.LogMost {
			w.came["LogMost"]++
			wantTooLong(t, seen, append(slices.Clone(l.ops), w.op()))
		}
		if len(l.clean) == impl.LogMost {
			w.came["LogMost, and all can be done"]++
		}
	}
	for _, what := range []string{"LogMost", "LogMost, and all can be done",
		"10", "11", "12", "13", "14", "18", "20", "21", "22", "23", "25", "28", "30", "31", "32", "35", "40", "41", "42", "43", "46", "50", "51", "52", "53", "54", "57", "58"} {
		if w.came[what] == 0 {
			t.Errorf("%q has not come", what)
		}
	}
}

// isOneByOne holds what is done at once against what is done one by one, on a tree and on layers, there and back.
func isOneByOne(t *testing.T, o impl.Over, l someLog) {
	t.Helper()
	tree := l.tree
	var back []impl.Op
	for i, op := range l.ops {
		undo, ok := impl.OpBack(tree, op)
		if ok != (l.codes[i] == impl.DoFine) {
			t.Fatalf("OpBack(%v, %v) = %v, %v", tree, op, undo, ok)
		}
		if ok {
			back = append(back, undo)
		}
		tree, _ = impl.TreeDo(tree, op)
		o, _ = impl.OverDo(o, op)
		if got, _ := impl.LogDo(l.tree, l.ops[:i+1]); !slices.Equal(got, tree) {
			t.Fatalf("LogDo(%v, %v) = %v; want %v", l.tree, l.ops[:i+1], got, tree)
		}
	}
	slices.Reverse(back)
	if got := impl.LogBack(l.tree, l.ops); !slices.Equal(got, back) {
		t.Fatalf("LogBack(%v, %v) = %v; want %v", l.tree, l.ops, got, back)
	}
	if seen := mustView(t, o); !slices.Equal(seen, tree) {
		t.Fatalf("of %v is seen %v; want %v", o, seen, tree)
	}
	for _, op := range back {
		var code int
		if o, code = impl.OverDo(o, op); code != impl.DoFine {
			t.Fatalf("OverDo(%v, %v) tells %d", o, op, code)
		}
	}
	if seen := mustView(t, o); !slices.Equal(seen, l.tree) {
		t.Fatalf("undone, of %v is seen %v; want %v", o, seen, l.tree)
	}
}
