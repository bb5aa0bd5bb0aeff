package tests

import (
	"slices"
	"strings"
	"testing"

	"loop.example/pargeting/impl"
)

// lentThree is a tree and two that came of it as arguments.
type lentThree struct {
	base, a, b lent[impl.Ent]
}

func lendThree(base, a, b []impl.Ent) lentThree {
	return lentThree{lendTree(ownTexts(base)), lendTree(ownTexts(a)), lendTree(ownTexts(b))}
}

func (l lentThree) untouched(t *testing.T, what string) {
	t.Helper()
	l.base.untouched(t, what)
	l.a.untouched(t, what)
	l.b.untouched(t, what)
}

// ownsTexts says of texts that were told that they share no memory with the arguments.
func (l lentThree) ownsTexts(t *testing.T, what string, told ...string) {
	t.Helper()
	for _, text := range told {
		for _, e := range slices.Concat(l.base.list, l.a.list, l.b.list) {
			isFresh(t, what, text, e.Path, e.Data)
		}
	}
}

// The functions of the chapter, with a look at the memory of arguments and answers at each call: what is told once
// is written all over, and asked for again.

func mergeAt(t *testing.T, base, a, b []impl.Ent, path string) (impl.Ent, bool, bool) {
	t.Helper()
	l, path := lendThree(base, a, b), strings.Clone(path)
	e, there, ok := impl.MergeAt(l.base.list, l.a.list, l.b.list, path)
	l.ownsTexts(t, "MergeAt", e.Path, e.Data)
	isFresh(t, "MergeAt", e.Path, path)
	if again, againThere, againOk := impl.MergeAt(l.base.list, l.a.list, l.b.list, path); again != e || againThere != there || againOk != ok {
		t.Fatalf("MergeAt(%v, %v, %v, %q) = %v, %v, %v; and again %v, %v, %v",
			brief(base), brief(a), brief(b), short(path), brief(e), there, ok, brief(again), againThere, againOk)
	}
	l.untouched(t, "MergeAt")
	return e, there, ok
}

func mergeClash(t *testing.T, base, a, b []impl.Ent) []string {
	t.Helper()
	l := lendThree(base, a, b)
	paths := impl.MergeClash(l.base.list, l.a.list, l.b.list)
	l.ownsTexts(t, "MergeClash", paths...)
	paths = keep(paths, "written")
	if again := impl.MergeClash(l.base.list, l.a.list, l.b.list); !slices.Equal(again, paths) {
		t.Fatalf("MergeClash(%v, %v, %v) = %q; and again %q", brief(base), brief(a), brief(b), paths, again)
	}
	l.untouched(t, "MergeClash")
	return paths
}

func merge(t *testing.T, base, a, b []impl.Ent) ([]impl.Ent, bool) {
	t.Helper()
	l := lendThree(base, a, b)
	merged, ok := impl.Merge(l.base.list, l.a.list, l.b.list)
	for _, e := range merged {
		l.ownsTexts(t, "Merge", e.Path, e.Data)
	}
	merged = keep(merged, fileAt("written", "written"))
	if again, againOk := impl.Merge(l.base.list, l.a.list, l.b.list); !slices.Equal(again, merged) || againOk != ok {
		t.Fatalf("Merge(%v, %v, %v) = %v, %v; and again %v, %v", brief(base), brief(a), brief(b), brief(merged), ok, brief(again), againOk)
	}
	l.untouched(t, "Merge")
	return merged, ok
}

// wantMergeAt is for what is told of a path, in either order of the two.
func wantMergeAt(t *testing.T, base, a, b []impl.Ent, path string, want impl.Ent, wantThere, wantOk bool) {
	t.Helper()
	for _, two := range [][2][]impl.Ent{{a, b}, {b, a}} {
		if got, there, ok := mergeAt(t, base, two[0], two[1], path); got != want || there != wantThere || ok != wantOk {
			t.Errorf("MergeAt(%v, %v, %v, %q) = %v, %v, %v; want %v, %v, %v",
				brief(base), brief(two[0]), brief(two[1]), short(path), brief(got), there, ok, want, wantThere, wantOk)
		}
	}
}

// wantMerge is for two that go together, in either order.
func wantMerge(t *testing.T, base, a, b []impl.Ent, want ...impl.Ent) {
	t.Helper()
	for _, two := range [][2][]impl.Ent{{a, b}, {b, a}} {
		if got, ok := merge(t, base, two[0], two[1]); !slices.Equal(got, want) || !ok {
			t.Errorf("Merge(%v, %v, %v) = %v, %v; want %v, true", base, two[0], two[1], got, ok, want)
		}
		if clash := mergeClash(t, base, two[0], two[1]); len(clash) != 0 {
			t.Errorf("MergeClash(%v, %v, %v) = %q; want none", base, two[0], two[1], clash)
		}
		isWhatEitherDid(t, base, two[0], two[1], want)
	}
}

// isWhatEitherDid asks for P10 of what was merged: it is a tree, of each path as MergeAt tells it, and the paths that
// it has otherwise than each of the three are those that the two turned.
func isWhatEitherDid(t *testing.T, base, a, b, merged []impl.Ent) {
	t.Helper()
	if !impl.TreeOk(merged) {
		t.Errorf("of %v, %v and %v came %v, which is no tree", base, a, b, merged)
	}
	for _, path := range append(pathsIn(base, a, b, merged), "/", "/no", "") {
		want, wantThere := impl.TreeGet(merged, path)
		if got, there, ok := mergeAt(t, base, a, b, path); got != want || there != wantThere || !ok {
			t.Errorf("MergeAt(%v, %v, %v, %q) = %v, %v, %v; want %v, %v, true", base, a, b, path, got, there, ok, want, wantThere)
		}
	}
	byA, byB, unlike := impl.TreeTurned(base, a), impl.TreeTurned(base, b), impl.TreeTurned(a, b)
	wantTurned(t, base, merged, inAny(byA, byB)...)
	wantTurned(t, a, merged, inAll(byB, unlike)...)
	wantTurned(t, b, merged, inAll(byA, unlike)...)
}

// wantClash is for two that can not go together at these paths, in either order: both turned them, and not alike.
func wantClash(t *testing.T, base, a, b []impl.Ent, want ...string) {
	t.Helper()
	if both := inAll(impl.TreeTurned(base, a), impl.TreeTurned(base, b), impl.TreeTurned(a, b)); !slices.Equal(both, want) {
		t.Errorf("%v and %v of %v turned %q, and not alike; want %q", a, b, base, both, want)
	}
	for _, two := range [][2][]impl.Ent{{a, b}, {b, a}} {
		if got := mergeClash(t, base, two[0], two[1]); !slices.Equal(got, want) {
			t.Errorf("MergeClash(%v, %v, %v) = %q; want %q", base, two[0], two[1], got, want)
		}
		if got, ok := merge(t, base, two[0], two[1]); len(got) != 0 || ok {
			t.Errorf("Merge(%v, %v, %v) = %v, %v; want none, false", base, two[0], two[1], got, ok)
		}
	}
	for _, path := range append(pathsIn(base, a, b), "/", "/no", "") {
		_, _, ok := mergeAt(t, base, a, b, path)
		if ok == slices.Contains(want, path) {
			t.Errorf("MergeAt(%v, %v, %v, %q) tells %v", base, a, b, path, ok)
		}
	}
	for _, path := range want {
		wantMergeAt(t, base, a, b, path, impl.Ent{}, false, false)
	}
}

// wantNoMergedTree is for two that clash nowhere, but what comes is no tree.
func wantNoMergedTree(t *testing.T, base, a, b []impl.Ent) {
	t.Helper()
	wantClash(t, base, a, b)
}

// pathsIn are the paths of all that some trees have.
func pathsIn(trees ...[]impl.Ent) []string {
	var paths []string
	for _, e := range slices.Concat(trees...) {
		paths = append(paths, e.Path)
	}
	slices.Sort(paths)
	return slices.Compact(paths)
}

// inAny are those that any of the lists has, in order, each once.
func inAny(lists ...[]string) []string {
	all := slices.Concat(lists...)
	slices.Sort(all)
	return slices.Compact(all)
}

// inAll are those that each of the lists has.
func inAll(lists ...[]string) []string {
	return slices.DeleteFunc(inAny(lists...), func(path string) bool {
		return slices.ContainsFunc(lists, func(list []string) bool { return !slices.Contains(list, path) })
	})
}

// doneTo is the tree that what can be done makes of a tree.
func doneTo(t *testing.T, tree []impl.Ent, ops ...impl.Op) []impl.Ent {
	t.Helper()
	for _, op := range ops {
		done, code := impl.TreeDo(tree, op)
		if code != impl.DoFine {
			t.Fatalf("TreeDo(%v, %v) tells %d", tree, op, code)
		}
		tree = done
	}
	return tree
}
