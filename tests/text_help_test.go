package tests

import (
	"slices"
	"strings"
	"testing"

	"loop.example/pargeting/impl"
)

// The functions of the chapter, with a look at the memory of arguments and answers at each call.

// isFresh says of a text that was told that it shares no memory with those that it was made of.
func isFresh(t *testing.T, what, told string, of ...string) {
	t.Helper()
	for _, s := range of {
		if sharesMemory(told, s) {
			t.Fatalf("%s: %q shares memory with %q", what, short(told), short(s))
		}
	}
}

func entText(t *testing.T, e impl.Ent) string {
	t.Helper()
	text := impl.EntText(e)
	isFresh(t, "EntText", text, e.Path, e.Data)
	return text
}

func markText(t *testing.T, m impl.Mark) string {
	t.Helper()
	text := impl.MarkText(m)
	isFresh(t, "MarkText", text, m.Path, m.Data)
	return text
}

func treeText(t *testing.T, tree []impl.Ent) string {
	t.Helper()
	a := lendTree(tree)
	text := impl.TreeText(a.list)
	a.untouched(t, "TreeText")
	for _, e := range tree {
		isFresh(t, "TreeText", text, e.Path, e.Data)
	}
	return text
}

func layerText(t *testing.T, l []impl.Mark) string {
	t.Helper()
	a := lendLayer(l)
	text := impl.LayerText(a.list)
	a.untouched(t, "LayerText")
	for _, m := range l {
		isFresh(t, "LayerText", text, m.Path, m.Data)
	}
	return text
}

func opText(t *testing.T, op impl.Op) string {
	t.Helper()
	text := impl.OpText(op)
	isFresh(t, "OpText", text, op.Path, op.To, op.Data)
	return text
}

// treeRead writes all over what is told once, and asks again.
func treeRead(t *testing.T, text string) ([]impl.Ent, bool) {
	t.Helper()
	lent, was := strings.Clone(text), strings.Clone(text)
	once, onceOk := impl.TreeRead(lent)
	for _, e := range once {
		isFresh(t, "TreeRead", e.Path, lent)
		isFresh(t, "TreeRead", e.Data, lent)
	}
	first := keep(once, fileAt("written", "written"))
	again, ok := impl.TreeRead(lent)
	if lent != was || !slices.Equal(first, again) || onceOk != ok {
		t.Fatalf("TreeRead(%q) = %v, %v; and again %v, %v", short(was), brief(first), onceOk, brief(again), ok)
	}
	return again, ok
}

func layerRead(t *testing.T, text string) ([]impl.Mark, bool) {
	t.Helper()
	lent, was := strings.Clone(text), strings.Clone(text)
	once, onceOk := impl.LayerRead(lent)
	for _, m := range once {
		isFresh(t, "LayerRead", m.Path, lent)
		isFresh(t, "LayerRead", m.Data, lent)
	}
	first := keepLayer(once)
	again, ok := impl.LayerRead(lent)
	if lent != was || !slices.Equal(first, again) || onceOk != ok {
		t.Fatalf("LayerRead(%q) = %v, %v; and again %v, %v", short(was), brief(first), onceOk, brief(again), ok)
	}
	return again, ok
}

func opRead(t *testing.T, text string) (impl.Op, bool) {
	t.Helper()
	lent, was := strings.Clone(text), strings.Clone(text)
	op, ok := impl.OpRead(lent)
	isFresh(t, "OpRead", op.Path, lent)
	isFresh(t, "OpRead", op.To, lent)
	isFresh(t, "OpRead", op.Data, lent)
	if again, againOk := impl.OpRead(lent); lent != was || again != op || againOk != ok {
		t.Fatalf("OpRead(%q) = %v, %v; and again %v, %v", short(was), brief(op), ok, brief(again), againOk)
	}
	return op, ok
}

// wantTreeText is for a tree that is ok and its text, each told of the other.
func wantTreeText(t *testing.T, tree []impl.Ent, text string) {
	t.Helper()
	if got := treeText(t, tree); got != text {
		t.Errorf("TreeText(%v) = %q; want %q", tree, got, text)
	}
	if got, ok := treeRead(t, text); !slices.Equal(got, tree) || !ok {
		t.Errorf("TreeRead(%q) = %v, %v; want %v, true", text, brief(got), ok, tree)
	}
}

func wantLayerText(t *testing.T, l []impl.Mark, text string) {
	t.Helper()
	if got := layerText(t, l); got != text {
		t.Errorf("LayerText(%v) = %q; want %q", l, got, text)
	}
	if got, ok := layerRead(t, text); !slices.Equal(got, l) || !ok {
		t.Errorf("LayerRead(%q) = %v, %v; want %v, true", text, brief(got), ok, l)
	}
}

func wantOpText(t *testing.T, op impl.Op, text string) {
	t.Helper()
	if got := opText(t, op); got != text {
		t.Errorf("OpText(%v) = %q; want %q", op, got, text)
	}
	if got, ok := opRead(t, text); got != op || !ok {
		t.Errorf("OpRead(%q) = %v, %v; want %v, true", text, brief(got), ok, op)
	}
}

func wantNoTree(t *testing.T, text string) {
	t.Helper()
	if got, ok := treeRead(t, text); len(got) != 0 || ok {
		t.Errorf("TreeRead(%q) = %v, %v; want none, false", short(text), brief(got), ok)
	}
}

func wantNoLayer(t *testing.T, text string) {
	t.Helper()
	if got, ok := layerRead(t, text); len(got) != 0 || ok {
		t.Errorf("LayerRead(%q) = %v, %v; want none, false", short(text), brief(got), ok)
	}
}

func wantNoOp(t *testing.T, text string) {
	t.Helper()
	if got, ok := opRead(t, text); got != (impl.Op{}) || ok {
		t.Errorf("OpRead(%q) = %v, %v; want nothing, false", short(text), brief(got), ok)
	}
}

// wantNeither is for a text that is that of no tree and of no layer.
func wantNeither(t *testing.T, text string) {
	t.Helper()
	wantNoTree(t, text)
	wantNoLayer(t, text)
}
