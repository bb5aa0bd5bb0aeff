package tests

import (
	"slices"
	"testing"

	"loop.example/pargeting/impl"
)

// The chapter's words once more, said of maps of paths, to hold the program against.

// threeSpreads is a tree and two that came of it, by their paths.
type threeSpreads struct {
	base, a, b spread
}

func mustThree(t *testing.T, base, a, b []impl.Ent) threeSpreads {
	t.Helper()
	return threeSpreads{mustSpread(t, base), mustSpread(t, a), mustSpread(t, b)}
}

// seenAt is what is at a path, if anything is.
type seenAt struct {
	e     impl.Ent
	there bool
}

func (s spread) seenAt(path string) seenAt {
	e, there := s.get(path)
	return seenAt{e, there}
}

// at is what is made of a path: where none turned it, it is as it was; where the two made one thing of it, that; else it clashes.
func (s threeSpreads) at(path string) (seenAt, bool) {
	was := s.base.seenAt(path)
	turned := map[seenAt]bool{s.a.seenAt(path): true, s.b.seenAt(path): true}
	delete(turned, was)
	if len(turned) > 1 {
		return seenAt{}, false
	}
	for now := range turned {
		return now, true
	}
	return was, true
}

// merged is what is made of all paths, those that clash, and whether it is a tree.
func (s threeSpreads) merged() ([]impl.Ent, []string, bool) {
	made := spread{}
	var clash []string
	for _, path := range pathsIn(s.base.list(), s.a.list(), s.b.list()) {
		now, ok := s.at(path)
		if !ok {
			clash = append(clash, path)
		} else if now.there {
			made[path] = now.e
		}
	}
	_, ok := spreadOf(made.list())
	if !ok || len(clash) > 0 {
		return nil, clash, false
	}
	return made.list(), clash, true
}

// isMerged holds the three functions against the words, and tells how it ended.
func isMerged(t *testing.T, base, a, b []impl.Ent, paths []string) string {
	t.Helper()
	s := mustThree(t, base, a, b)
	want, wantClash, wantOk := s.merged()
	if got, ok := impl.Merge(base, a, b); !slices.Equal(got, want) || ok != wantOk {
		t.Fatalf("Merge(%v, %v, %v) = %v, %v; want %v, %v", base, a, b, got, ok, want, wantOk)
	}
	if got := impl.MergeClash(base, a, b); !slices.Equal(got, wantClash) {
		t.Fatalf("MergeClash(%v, %v, %v) = %q; want %q", base, a, b, got, wantClash)
	}
	for _, path := range paths {
		now, ok := s.at(path)
		if e, there, gotOk := impl.MergeAt(base, a, b, path); e != now.e || there != now.there || gotOk != ok {
			t.Fatalf("MergeAt(%v, %v, %v, %q) = %v, %v, %v; want %v, %v", base, a, b, path, e, there, gotOk, now, ok)
		}
	}
	switch {
	case wantOk:
		return "merged"
	case len(wantClash) > 0:
		return "clash"
	}
	return "no tree"
}

// isMergedWithCare is isMerged with a look at memory, and at P10 as it was asked of what was merged by hand.
func isMergedWithCare(t *testing.T, base, a, b []impl.Ent) {
	t.Helper()
	want, clash, ok := mustThree(t, base, a, b).merged()
	if ok {
		wantMerge(t, base, a, b, want...)
	} else {
		wantClash(t, base, a, b, clash...)
	}
}

// withDatas are the trees with each of these in each file.
func withDatas(trees [][]impl.Ent, datas ...string) [][]impl.Ent {
	var all [][]impl.Ent
	for _, tree := range trees {
		ways := [][]impl.Ent{nil}
		for _, e := range tree {
			at := treeWith(e)
			if !e.Dir {
				at = nil
				for _, data := range datas {
					at = append(at, fileAt(e.Path, data))
				}
			}
			var more [][]impl.Ent
			for _, ahead := range ways {
				for _, here := range at {
					more = append(more, slices.Concat(ahead, treeWith(here)))
				}
			}
			ways = more
		}
		all = append(all, ways...)
	}
	return all
}

// Any three trees of a few names: each two may have come of the third one, and they come in either order.
func TestMergeOfAllSmallTrees(t *testing.T) {
	for _, few := range []struct {
		names [][]string
		datas []string
		step  int
	}{
		{[][]string{{"a"}}, []string{"", "x", "y", "z"}, 1},
		{[][]string{{"a", "b"}}, []string{"", "x", "y"}, 1},
		{[][]string{{"a"}, {"b"}}, []string{"", "x", "y"}, 1},
		{[][]string{{"a"}, {"b"}, {"c"}}, []string{"x", "y"}, 1},
		{[][]string{{"a"}, {"a", "ab"}}, []string{"x", "y"}, 1},
		{[][]string{{"a", "ab"}, {"b"}}, []string{"x"}, 1},
		{[][]string{{"a", "ab"}, {"b"}}, []string{"x", "y"}, 7},
		{[][]string{{"a", "b"}, {"a"}, {"a"}}, []string{"x", "y"}, 61},
	} {
		trees := withDatas(treesOf("", few.names), few.datas...)
		paths, turn, came := append(pathsOf("", few.names), "/", "/no", ""), 0, map[string]int{}
		for _, base := range trees {
			for _, a := range trees {
				for _, b := range trees {
					if turn++; turn%few.step != 0 {
						continue
					}
					came[isMerged(t, base, a, b, paths)]++
					if turn/few.step%101 == 0 {
						isMergedWithCare(t, base, a, b)
					}
				}
			}
		}
		for _, what := range []string{"merged", "clash", "no tree"} {
			if came[what] == 0 && (what != "no tree" || len(few.names) > 1) {
				t.Errorf("of %v %q has not come", few.names, what)
			}
		}
	}
}

// simpleOpsAt are those that turn one path and no more.
func simpleOpsAt(paths []string) []impl.Op {
	return slices.DeleteFunc(opsAt(paths), func(op impl.Op) bool { return op.Kind == impl.OpMove })
}

// isBothInEitherOrder asks for P10 of all pairs of what can be done, each turning one path, and not the same one.
func isBothInEitherOrder(t *testing.T, base []impl.Ent, ops []impl.Op, came map[string]int) {
	t.Helper()
	for _, one := range ops {
		a, code := impl.TreeDo(base, one)
		if code != impl.DoFine {
			continue
		}
		for _, other := range ops {
			b, code := impl.TreeDo(base, other)
			if code != impl.DoFine || one.Path == other.Path {
				continue
			}
			ab, abCode := impl.TreeDo(a, other)
			ba, baCode := impl.TreeDo(b, one)
			together := abCode == impl.DoFine && baCode == impl.DoFine
			if together && !slices.Equal(ab, ba) {
				t.Fatalf("%v and %v on %v make %v and %v", one, other, base, ab, ba)
			}
			if !together {
				ab = nil
			}
			if got, ok := impl.Merge(base, a, b); !slices.Equal(got, ab) || ok != together {
				t.Fatalf("Merge(%v, %v, %v) = %v, %v; want %v, %v", base, a, b, got, ok, ab, together)
			}
			if clash := impl.MergeClash(base, a, b); len(clash) != 0 {
				t.Fatalf("MergeClash(%v, %v, %v) = %q; want none", base, a, b, clash)
			}
			came[string([]byte{'0' + byte(one.Kind), '0' + byte(other.Kind), '0' + byte(abCode)})]++
		}
	}
}

func TestMergeIsBothOfAllSmallTrees(t *testing.T) {
	came := map[string]int{}
	for _, tree := range treesOf("", someNames()) {
		if len(tree) < 6 {
			isBothInEitherOrder(t, tree, simpleOpsAt(pathsOf("", someNames())), came)
		}
	}
	// Each kind has met each; and a directory was taken away into which the other one made, put, or which it took away.
	for _, what := range []string{"110", "120", "130", "140", "210", "220", "230", "240", "310", "320", "330", "340", "410", "420", "430", "440",
		"412", "422", "146", "246"} {
		if came[what] == 0 {
			t.Errorf("%q has not come", what)
		}
	}
}

// Trees that came of one by short and by long lists of what is done, up to full ones; all is chosen by a fixed rule.
func TestMergeOnALongWay(t *testing.T) {
	w := &someWay{
		wayside: &wayside{
			state: 29,
			paths: slices.Sorted(slices.Values(pathsOf("", [][]string{{"a", "aa", "ab", "b", "c"}, {"a", "ab", "b"}, {"a", "z"}}))),
			datas: []string{"", "x", "y1", "abc123"},
		},
		came: map[string]int{},
	}
	for turn := range 1500 {
		base := w.tree()
		both := base
		if w.pick(3) == 0 {
			// Both begin alike.
			both = w.longWay(base)
		}
		a, b := w.longWay(both), w.longWay(both)
		if w.pick(20) == 0 {
			b = w.tree()
		}
		paths := append(pathsIn(base, a, b), w.paths[w.pick(len(w.paths))], "/no", "/")
		what := isMerged(t, base, a, b, paths)
		if other := isMerged(t, base, b, a, paths); other != what {
			t.Fatalf("of %v, %v and %v: %q, and the other way round %q", base, a, b, what, other)
		}
		if turn%20 == 0 {
			isMergedWithCare(t, base, a, b)
		}
		w.came[what]++
		w.countMerged(t, base, a, b)
	}
	for _, what := range []string{"merged", "clash", "no tree", "two clash", "many clash", "a full one merged", "too many", "in nothing", "both did one thing", "much merged"} {
		if w.came[what] == 0 {
			t.Errorf("%q has not come", what)
		}
	}
}

// longWay is what up to LogMost things that can be done make of a tree. What takes away comes less often, so that it gets full.
func (w *someWay) longWay(tree []impl.Ent) []impl.Ent {
	many := []int{1, 1, 2, 3, 4, 6, 12, impl.LogMost}[w.pick(8)]
	for many > 0 {
		op := w.op()
		if (op.Kind == impl.OpRm || op.Kind == impl.OpRmdir) && w.pick(2) == 0 {
			op = putOp(op.Path, "x")
		}
		if done, code := impl.TreeDo(tree, op); code == impl.DoFine {
			tree, many = done, many-1
		}
	}
	return tree
}

// countMerged says what has come, so that it is seen if something has not.
func (w *someWay) countMerged(t *testing.T, base, a, b []impl.Ent) {
	t.Helper()
	s, count, clash := mustThree(t, base, a, b), 0, 0
	for _, path := range pathsIn(base, a, b) {
		now, ok := s.at(path)
		if !ok {
			clash++
		} else if now.there {
			count++
		}
	}
	_, _, merged := s.merged()
	turned, unlike := inAny(impl.TreeTurned(base, a), impl.TreeTurned(base, b)), impl.TreeTurned(a, b)
	for what, came := range map[string]bool{
		"two clash":          clash == 2,
		"many clash":         clash >= 5,
		"a full one merged":  merged && count == impl.TreeMost,
		"too many":           clash == 0 && count > impl.TreeMost,
		"in nothing":         clash == 0 && count <= impl.TreeMost && !merged,
		"both did one thing": merged && len(turned) > len(unlike),
		"much merged":        merged && len(unlike) >= 8,
	} {
		if came {
			w.came[what]++
		}
	}
}
