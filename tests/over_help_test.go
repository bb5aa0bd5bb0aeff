package tests

import (
	"slices"
	"testing"
	"unsafe"

	"loop.example/pargeting/impl"
)

// overWith is a tree on layers, the lowest first.
func overWith(base []impl.Ent, upper []impl.Mark, layers ...[]impl.Mark) impl.Over {
	return impl.Over{Base: base, Layers: layers, Upper: upper}
}

func copyOver(o impl.Over) impl.Over {
	c := impl.Over{Base: slices.Clone(o.Base), Upper: slices.Clone(o.Upper)}
	for _, l := range o.Layers {
		c.Layers = append(c.Layers, slices.Clone(l))
	}
	return c
}

// alike is OverSame said once more, so that no test leans on what it asks.
func alike(a, b impl.Over) bool {
	return slices.Equal(a.Base, b.Base) && slices.EqualFunc(a.Layers, b.Layers, slices.Equal) && slices.Equal(a.Upper, b.Upper)
}

// lentOver is a tree on layers as an argument: each list of it is lent, and the list of layers too.
type lentOver struct {
	over   impl.Over
	base   lent[impl.Ent]
	marks  []lent[impl.Mark]
	layers [][]impl.Mark
	was    [][]impl.Mark
}

func lendOver(o impl.Over) lentOver {
	l := lentOver{base: lendTree(o.Base)}
	aside := layerWith(fileMark("mark", "mark"))
	l.layers = [][]impl.Mark{aside, aside}
	for _, layer := range o.Layers {
		l.marks = append(l.marks, lendLayer(layer))
		l.layers = append(l.layers, l.marks[len(l.marks)-1].list)
	}
	l.layers = append(l.layers, aside, aside, aside)
	l.was = slices.Clone(l.layers)
	upper := lendLayer(o.Upper)
	l.marks = append(l.marks, upper)
	l.over = impl.Over{Base: l.base.list, Layers: l.layers[2 : 2+len(o.Layers)], Upper: upper.list}
	return l
}

func (l lentOver) untouched(t *testing.T, what string) {
	t.Helper()
	l.base.untouched(t, what)
	for _, marks := range l.marks {
		marks.untouched(t, what)
	}
	if !slices.EqualFunc(l.layers, l.was, isList) || !slices.Equal(l.layers[0], layerWith(fileMark("mark", "mark"))) {
		t.Fatalf("%s: the layers %v have become %v", what, brief(l.was), brief(l.layers))
	}
}

// isList says whether two are one list, and not only alike.
func isList(a, b []impl.Mark) bool {
	return unsafe.SliceData(a) == unsafe.SliceData(b) && len(a) == len(b) && cap(a) == cap(b)
}

// keepOver copies an answer, and writes all over it and its spare room, so that whoever shares its memory is seen;
// each list is written with a mark of its own, so that lists that share memory with each other are seen too.
func keepOver(t *testing.T, answer impl.Over) impl.Over {
	t.Helper()
	kept := copyOver(answer)
	keep(answer.Base, fileAt("written", "written"))
	lists := slices.Concat(answer.Layers, [][]impl.Mark{answer.Upper})
	for i, l := range lists {
		keep(l, impl.Mark{Path: "written", Kind: i})
	}
	for i, l := range lists {
		for _, m := range l[:cap(l)] {
			if m.Kind != i {
				t.Fatalf("two lists of the answer %v share memory", kept)
			}
		}
	}
	keep(answer.Layers, layerWith(fileMark("written", "written")))
	return kept
}

// The functions of the chapter, with a look at the memory of arguments and answers at each call.

func overOk(t *testing.T, o impl.Over) bool {
	t.Helper()
	a := lendOver(o)
	ok := impl.OverOk(a.over)
	a.untouched(t, "OverOk")
	return ok
}

func overSame(t *testing.T, a, b impl.Over) bool {
	t.Helper()
	x, y := lendOver(a), lendOver(b)
	same := impl.OverSame(x.over, y.over)
	x.untouched(t, "OverSame")
	y.untouched(t, "OverSame")
	return same
}

func overLower(t *testing.T, o impl.Over) ([]impl.Ent, bool) {
	t.Helper()
	a := lendOver(o)
	lower, ok := impl.OverLower(a.over)
	lower = keep(lower, fileAt("written", "written"))
	a.untouched(t, "OverLower")
	return lower, ok
}

func overView(t *testing.T, o impl.Over) ([]impl.Ent, bool) {
	t.Helper()
	a := lendOver(o)
	seen, ok := impl.OverView(a.over)
	seen = keep(seen, fileAt("written", "written"))
	a.untouched(t, "OverView")
	return seen, ok
}

func overGet(t *testing.T, o impl.Over, path string) (impl.Ent, int, bool) {
	t.Helper()
	a := lendOver(o)
	e, place, ok := impl.OverGet(a.over, path)
	a.untouched(t, "OverGet")
	return e, place, ok
}

func overDo(t *testing.T, o impl.Over, op impl.Op) (impl.Over, int) {
	t.Helper()
	a := lendOver(o)
	done, code := impl.OverDo(a.over, op)
	done = keepOver(t, done)
	a.untouched(t, "OverDo")
	return done, code
}

func overPush(t *testing.T, o impl.Over) (impl.Over, bool) {
	t.Helper()
	a := lendOver(o)
	pushed, ok := impl.OverPush(a.over)
	pushed = keepOver(t, pushed)
	a.untouched(t, "OverPush")
	return pushed, ok
}

func overDrop(t *testing.T, o impl.Over) impl.Over {
	t.Helper()
	a := lendOver(o)
	dropped := keepOver(t, impl.OverDrop(a.over))
	a.untouched(t, "OverDrop")
	return dropped
}

func overFlat(t *testing.T, o impl.Over) (impl.Over, bool) {
	t.Helper()
	a := lendOver(o)
	flat, ok := impl.OverFlat(a.over)
	flat = keepOver(t, flat)
	a.untouched(t, "OverFlat")
	return flat, ok
}

func overSink(t *testing.T, o impl.Over) impl.Over {
	t.Helper()
	a := lendOver(o)
	sunk := keepOver(t, impl.OverSink(a.over))
	a.untouched(t, "OverSink")
	return sunk
}

// wantTrees is for what is ok: what is beneath, and what is seen.
func wantTrees(t *testing.T, o impl.Over, lower, seen []impl.Ent) {
	t.Helper()
	if !overOk(t, o) {
		t.Errorf("OverOk(%v) = false", o)
	}
	if got, ok := overLower(t, o); !slices.Equal(got, lower) || !ok {
		t.Errorf("OverLower(%v) = %v, %v; want %v, true", o, got, ok, lower)
	}
	if got, ok := overView(t, o); !slices.Equal(got, seen) || !ok {
		t.Errorf("OverView(%v) = %v, %v; want %v, true", o, got, ok, seen)
	}
}

func wantOverGet(t *testing.T, o impl.Over, path string, want impl.Ent, wantPlace int, wantOk bool) {
	t.Helper()
	if got, place, ok := overGet(t, o, path); got != want || place != wantPlace || ok != wantOk {
		t.Errorf("OverGet(%v, %q) = %v, %d, %v; want %v, %d, %v", brief(o), short(path), got, place, ok, want, wantPlace, wantOk)
	}
}

// wantOver holds what a function told against what is wanted.
func wantOver(t *testing.T, what string, o, got, want impl.Over, ok, wantOk bool) {
	t.Helper()
	if !alike(got, want) || ok != wantOk {
		t.Errorf("%s(%v) = %v, %v; want %v, %v", what, brief(o), brief(got), ok, brief(want), wantOk)
	}
}

// mustLower and mustView are for what is ok.

func mustLower(t *testing.T, o impl.Over) []impl.Ent {
	t.Helper()
	lower, ok := overLower(t, o)
	if !ok {
		t.Fatalf("OverLower(%v) tells false", o)
	}
	return lower
}

func mustView(t *testing.T, o impl.Over) []impl.Ent {
	t.Helper()
	seen, ok := overView(t, o)
	if !ok {
		t.Fatalf("OverView(%v) tells false", o)
	}
	return seen
}

// doOver does what can be done to a tree on layers, one behind the other, with a look at each step.
func doOver(t *testing.T, o impl.Over, ops ...impl.Op) impl.Over {
	t.Helper()
	for _, op := range ops {
		var code int
		if o, code = asToTheSeen(t, o, op); code != impl.DoFine {
			t.Fatalf("OverDo of %v tells %d", op, code)
		}
	}
	return o
}

// asToTheSeen holds OverDo against TreeDo of what is seen; what is beneath is as it was, and Upper is what differs.
func asToTheSeen(t *testing.T, o impl.Over, op impl.Op) (impl.Over, int) {
	t.Helper()
	lower := mustLower(t, o)
	want, wantCode := treeDo(t, mustView(t, o), op)
	got, code := overDo(t, o, op)
	if code != wantCode {
		t.Fatalf("OverDo(%v, %v) tells %d; want %d", o, op, code, wantCode)
	}
	if code != impl.DoFine && !alike(got, o) {
		t.Fatalf("OverDo(%v, %v) = %v, %d; want it as it was", o, op, got, code)
	}
	if !alike(got, impl.Over{Base: o.Base, Layers: o.Layers, Upper: layerDiff(t, lower, want)}) {
		t.Fatalf("OverDo(%v, %v) = %v", o, op, got)
	}
	wantTrees(t, got, lower, want)
	justWhatDiffers(t, got)
	return got, code
}

// justWhatDiffers asks for P5: each path that is seen otherwise than beneath has a mark, or is below one that hides it,
// and there is no mark that can be done without.
func justWhatDiffers(t *testing.T, o impl.Over) {
	t.Helper()
	lower, seen := mustLower(t, o), mustView(t, o)
	turned := treeTurned(t, lower, seen)
	for _, path := range turned {
		if !slices.ContainsFunc(o.Upper, func(m impl.Mark) bool { return m.Path == path }) && !layerHides(t, o.Upper, path) {
			t.Fatalf("Upper of %v has nothing of %q", o, path)
		}
	}
	for i, m := range o.Upper {
		if m.Kind == impl.MarkBare || m.Kind != impl.MarkDir && !slices.Contains(turned, m.Path) {
			t.Fatalf("Upper of %v has needlessly %v", o, m)
		}
		less := slices.Delete(slices.Clone(o.Upper), i, i+1)
		if got, ok := layerOn(t, less, lower); ok && slices.Equal(got, seen) {
			t.Fatalf("Upper of %v can do without %v", o, m)
		}
	}
}
