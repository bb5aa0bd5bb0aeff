package tests

import (
	"slices"
	"testing"

	"loop.example/pargeting/impl"
)

// someOver has two layers, with marks of each kind, and an Upper; what is at a path may have a mark in each of them, in some and in none.
func someOver() impl.Over {
	return overWith(
		treeWith(dirAt("/a"), fileAt("/a/b", "x"), dirAt("/a/c"), fileAt("/a/c/d", ""), fileAt("/a/cc", "1"), fileAt("/ab", "y"), dirAt("/e"), fileAt("/f", "f"), dirAt("/g"), fileAt("/g/h", "")),
		layerWith(dirMark("/a"), fileMark("/a/b", "3"), goneMark("/a/cc"), dirMark("/ab"), fileMark("/ab/x", "u")),
		layerWith(dirMark("/a"), goneMark("/a/b"), bareMark("/a/c"), fileMark("/a/c/q", "n"), fileMark("/e", "x"), fileMark("/m", "m1")),
		layerWith(dirMark("/a"), fileMark("/a/b", "2"), goneMark("/ab"), goneMark("/e"), fileMark("/k", "k2"), fileMark("/m", "m2")),
	)
}

func someLower() []impl.Ent {
	return treeWith(dirAt("/a"), fileAt("/a/b", "2"), dirAt("/a/c"), fileAt("/a/c/q", "n"), fileAt("/a/cc", "1"),
		fileAt("/f", "f"), dirAt("/g"), fileAt("/g/h", ""), fileAt("/k", "k2"), fileAt("/m", "m2"))
}

func someSeen() []impl.Ent {
	return treeWith(dirAt("/a"), fileAt("/a/b", "3"), dirAt("/a/c"), fileAt("/a/c/q", "n"), dirAt("/ab"), fileAt("/ab/x", "u"),
		fileAt("/f", "f"), dirAt("/g"), fileAt("/g/h", ""), fileAt("/k", "k2"), fileAt("/m", "m2"))
}

// goodOver is a tree on layers that is ok, with what is beneath and what is seen.
type goodOver struct {
	over  impl.Over
	lower []impl.Ent
	seen  []impl.Ent
}

func goodOvers() []goodOver {
	ab := treeWith(dirAt("/a"), fileAt("/a/b", "x"))
	four := [][]impl.Mark{layerWith(fileMark("/a", "1")), layerWith(dirMark("/a"), fileMark("/a/b", "2")), layerWith(goneMark("/b")), layerWith(dirMark("/a"), fileMark("/a/c", "4"))}
	return []goodOver{
		{someOver(), someLower(), someSeen()},
		// On no layer.
		{impl.Over{}, nil, nil},
		{impl.Over{Base: []impl.Ent{}, Layers: [][]impl.Mark{}, Upper: []impl.Mark{}}, nil, nil},
		{overWith(someTree(), nil), someTree(), someTree()},
		{overWith(nil, layerWith(dirMark("/a"), fileMark("/a/b", "x"))), nil, ab},
		{overWith(ab, layerWith(goneMark("/a"))), ab, nil},
		{overWith(ab, layerWith(dirMark("/a"), goneMark("/a/b"))), ab, treeWith(dirAt("/a"))},
		{overWith(ab, layerWith(fileMark("/a", ""))), ab, treeWith(fileAt("/a", ""))},
		{overWith(ab, layerWith(dirMark("/a"), dirMark("/a/b"), fileMark("/a/b/c", ""))), ab, treeWith(dirAt("/a"), dirAt("/a/b"), fileAt("/a/b/c", ""))},
		// On layers of nothing.
		{overWith(nil, nil, nil), nil, nil},
		{overWith(ab, nil, []impl.Mark{}), ab, ab},
		{overWith(ab, layerWith(goneMark("/a")), nil, nil), ab, nil},
		{overWith(ab, nil, nil, nil, nil, nil), ab, ab},
		// On one.
		{overWith(nil, nil, layerWith(dirMark("/a"), fileMark("/a/b", "x"))), ab, ab},
		{overWith(ab, nil, layerWith(goneMark("/a"))), nil, nil},
		{overWith(ab, nil, layerWith(bareMark("/a"))), treeWith(dirAt("/a")), treeWith(dirAt("/a"))},
		{overWith(ab, layerWith(dirMark("/a"), fileMark("/a/b", "x")), layerWith(goneMark("/a"))), nil, ab},
		{overWith(ab, layerWith(dirMark("/a"), fileMark("/a/b", "x")), layerWith(bareMark("/a"))), treeWith(dirAt("/a")), ab},
		{overWith(ab, layerWith(dirMark("/a")), layerWith(fileMark("/a", "x"))), treeWith(fileAt("/a", "x")), treeWith(dirAt("/a"))},
		// What is needless in a layer is so in Upper alone.
		{overWith(ab, nil, layerWith(dirMark("/a"), fileMark("/a/b", "x"), goneMark("/b"))), ab, ab},
		{overWith(ab, nil, goneAnd(2*impl.TreeMost, dirMark("/a"), goneMark("/a/c"))), ab, ab},
		// On OverMost.
		{overWith(nil, nil, four...), treeWith(dirAt("/a"), fileAt("/a/b", "2"), fileAt("/a/c", "4")), treeWith(dirAt("/a"), fileAt("/a/b", "2"), fileAt("/a/c", "4"))},
		{overWith(treeWith(fileAt("/b", "")), layerWith(dirMark("/a"), goneMark("/a/c"), fileMark("/b", "")), four...),
			treeWith(dirAt("/a"), fileAt("/a/b", "2"), fileAt("/a/c", "4")), treeWith(dirAt("/a"), fileAt("/a/b", "2"), fileAt("/b", ""))},
		// Of exactly TreeMost, beneath, seen, and both.
		{overWith(filesAnd(impl.TreeMost), nil), filesAnd(impl.TreeMost), filesAnd(impl.TreeMost)},
		{overWith(filesAnd(impl.TreeMost)[:impl.TreeMost-1], layerWith(fileMark(filesAnd(impl.TreeMost)[impl.TreeMost-1].Path, "x"))), filesAnd(impl.TreeMost)[:impl.TreeMost-1], filesAnd(impl.TreeMost)},
		{overWith(filesAnd(impl.TreeMost), layerWith(goneMark("/ba"))), filesAnd(impl.TreeMost), filesAnd(impl.TreeMost)[1:]},
		{overWith(nil, nil, marksAnd(impl.TreeMost)), withData(filesAnd(impl.TreeMost), "m"), withData(filesAnd(impl.TreeMost), "m")},
		{overWith(filesAnd(impl.TreeMost), layerWith(goneMark("/ba"), fileMark("/z", "")), nil), filesAnd(impl.TreeMost), append(filesAnd(impl.TreeMost)[1:], fileAt("/z", ""))},
	}
}

func TestOverMostIsFour(t *testing.T) {
	if impl.OverMost != 4 {
		t.Errorf("OverMost = %d", impl.OverMost)
	}
}

func TestOverLowerAndView(t *testing.T) {
	for _, g := range goodOvers() {
		wantTrees(t, g.over, g.lower, g.seen)
		justWhatDiffers(t, g.over)
	}
}

// The nil lists as they are, as what is lent is never nil.
func TestOverOfNothing(t *testing.T) {
	for _, o := range []impl.Over{{}, {Base: []impl.Ent{}}, {Layers: [][]impl.Mark{}}, {Upper: []impl.Mark{}}} {
		if !impl.OverOk(o) || !impl.OverSame(o, impl.Over{}) || !impl.OverSame(impl.Over{}, o) {
			t.Errorf("%v is not ok, or not the same as nothing", o)
		}
		lower, lowerOk := impl.OverLower(o)
		seen, seenOk := impl.OverView(o)
		if len(lower) != 0 || !lowerOk || len(seen) != 0 || !seenOk {
			t.Errorf("OverLower and OverView tell %v, %v and %v, %v", lower, lowerOk, seen, seenOk)
		}
		if e, place, ok := impl.OverGet(o, "/"); e != dirAt("/") || place != 0 || !ok {
			t.Errorf("OverGet of the root = %v, %d, %v", e, place, ok)
		}
		done, code := impl.OverDo(o, putOp("/a", "x"))
		wantOver(t, "OverDo", o, done, overWith(nil, layerWith(fileMark("/a", "x"))), code == impl.DoFine, true)
		ended, code := impl.OverDo(o, rmOp("/a"))
		wantOver(t, "OverDo", o, ended, impl.Over{}, code == impl.DoNone, true)
		pushed, ok := impl.OverPush(o)
		wantOver(t, "OverPush", o, pushed, overWith(nil, nil, nil), ok, true)
		wantOver(t, "OverDrop", o, impl.OverDrop(o), impl.Over{}, true, true)
		flat, ok := impl.OverFlat(o)
		wantOver(t, "OverFlat", o, flat, impl.Over{}, ok, false)
		wantOver(t, "OverSink", o, impl.OverSink(o), impl.Over{}, true, true)
	}
}

func TestOverSame(t *testing.T) {
	var overs []impl.Over
	for i, g := range goodOvers() {
		// Of the two of nothing, which are the same, one is enough.
		if i != 1 {
			overs = append(overs, g.over)
		}
	}
	overs = append(overs, overWith(nil, layerWith(goneMark("/b"), goneMark("/a"))), overWith(treeWith(fileAt("/a/b", "")), nil), overWith(nil, nil, nil, nil, nil, nil, nil),
		overWith(nil, layerWith(goneMark("/a"))), overWith(nil, nil, layerWith(goneMark("/a"))), overWith(nil, nil, layerWith(goneMark("/a")), nil), overWith(nil, nil, nil, layerWith(goneMark("/a"))))
	for i, a := range overs {
		for j, b := range overs {
			if got := overSame(t, a, copyOver(b)); got != (i == j) {
				t.Errorf("OverSame(%v, %v) = %v", a, b, got)
			}
		}
	}
}

func TestOverSameInOnePartAlone(t *testing.T) {
	o := someOver()
	turns := []func(*impl.Over){
		func(o *impl.Over) { o.Base = o.Base[1:] },
		func(o *impl.Over) { o.Base = o.Base[:len(o.Base)-1] },
		func(o *impl.Over) { o.Base = nil },
		func(o *impl.Over) { o.Layers = o.Layers[1:] },
		func(o *impl.Over) { o.Layers = o.Layers[:1] },
		func(o *impl.Over) { o.Layers = nil },
		func(o *impl.Over) { o.Layers = append(o.Layers, nil) },
		func(o *impl.Over) { o.Layers = slices.Insert(o.Layers, 0, nil) },
		func(o *impl.Over) { slices.Reverse(o.Layers) },
		func(o *impl.Over) { o.Upper = o.Upper[1:] },
		func(o *impl.Over) { o.Upper = nil },
		func(o *impl.Over) { o.Upper = append(o.Upper, goneMark("/z")) },
		func(o *impl.Over) { o.Upper, o.Layers[1] = o.Layers[1], o.Upper },
	}
	for i := range o.Base {
		turns = append(turns, func(o *impl.Over) { o.Base[i].Path += "x" }, func(o *impl.Over) { o.Base[i].Dir = !o.Base[i].Dir }, func(o *impl.Over) { o.Base[i].Data += "x" })
	}
	for _, list := range []func(impl.Over) []impl.Mark{
		func(o impl.Over) []impl.Mark { return o.Layers[0] },
		func(o impl.Over) []impl.Mark { return o.Layers[1] },
		func(o impl.Over) []impl.Mark { return o.Upper },
	} {
		for i := range list(o) {
			turns = append(turns, func(o *impl.Over) { list(*o)[i].Path += "x" }, func(o *impl.Over) { list(*o)[i].Kind++ }, func(o *impl.Over) { list(*o)[i].Data += "x" })
		}
	}
	for i, turn := range turns {
		other := copyOver(o)
		turn(&other)
		if overSame(t, o, other) || overSame(t, other, o) {
			t.Errorf("OverSame, at turn %d, of %v and %v = true", i, o, other)
		}
	}
}

func TestOverGet(t *testing.T) {
	o := someOver()
	// In Upper, by itself and with others.
	wantOverGet(t, o, "/ab/x", fileAt("/ab/x", "u"), 3, true)
	wantOverGet(t, o, "/a", dirAt("/a"), 3, true)
	wantOverGet(t, o, "/a/b", fileAt("/a/b", "3"), 3, true)
	wantOverGet(t, o, "/ab", dirAt("/ab"), 3, true)
	// In the upper one of the Layers, by itself and with the lower one.
	wantOverGet(t, o, "/k", fileAt("/k", "k2"), 2, true)
	wantOverGet(t, o, "/m", fileAt("/m", "m2"), 2, true)
	// In the lower one.
	wantOverGet(t, o, "/a/c", dirAt("/a/c"), 1, true)
	wantOverGet(t, o, "/a/c/q", fileAt("/a/c/q", "n"), 1, true)
	// In none.
	wantOverGet(t, o, "/f", fileAt("/f", "f"), 0, true)
	wantOverGet(t, o, "/g", dirAt("/g"), 0, true)
	wantOverGet(t, o, "/g/h", fileAt("/g/h", ""), 0, true)
	// No layer has a mark at the root.
	wantOverGet(t, o, "/", dirAt("/"), 0, true)
}

func TestOverGetOfNothingThere(t *testing.T) {
	o := someOver()
	// Gone in Upper, in a layer, hidden by a layer; and never there.
	for _, path := range []string{"/a/cc", "/e", "/a/c/d", "/q", "/a/q", "/a/c/qq", "/f/a", "/q/a/b"} {
		wantOverGet(t, o, path, impl.Ent{}, 0, false)
	}
	for _, path := range badPaths() {
		wantOverGet(t, o, path, impl.Ent{}, 0, false)
		wantOverGet(t, impl.Over{}, path, impl.Ent{}, 0, false)
	}
	for _, path := range []string{"a", "a/b", "//a", "/a/", "/a//b", "", "/a/b/"} {
		wantOverGet(t, o, path, impl.Ent{}, 0, false)
	}
}

// The place is told from 1 on, with Upper behind all Layers, however many these are.
func TestOverGetPlaces(t *testing.T) {
	for n := range impl.OverMost + 1 {
		for at := range n {
			layers := make([][]impl.Mark, n)
			layers[at] = layerWith(fileMark("/a", "x"))
			wantOverGet(t, overWith(nil, nil, layers...), "/a", fileAt("/a", "x"), at+1, true)
			wantOverGet(t, overWith(nil, layerWith(fileMark("/a", "y")), layers...), "/a", fileAt("/a", "y"), n+1, true)
			wantOverGet(t, overWith(treeWith(fileAt("/b", "")), nil, layers...), "/b", fileAt("/b", ""), 0, true)
			// A needless mark counts, and one that only lets through.
			layers[at] = layerWith(dirMark("/c"))
			wantOverGet(t, overWith(treeWith(dirAt("/c")), nil, layers...), "/c", dirAt("/c"), at+1, true)
		}
		layers := make([][]impl.Mark, n)
		wantOverGet(t, overWith(nil, layerWith(dirMark("/a"), fileMark("/a/b", "")), layers...), "/a/b", fileAt("/a/b", ""), n+1, true)
	}
}

func TestOverPush(t *testing.T) {
	for _, g := range goodOvers() {
		got, ok := overPush(t, g.over)
		if len(g.over.Layers) == impl.OverMost {
			wantOver(t, "OverPush", g.over, got, g.over, ok, false)
			wantTrees(t, got, g.lower, g.seen)
			continue
		}
		want := impl.Over{Base: g.over.Base, Layers: append(slices.Clone(g.over.Layers), g.over.Upper)}
		wantOver(t, "OverPush", g.over, got, want, ok, true)
		wantTrees(t, got, g.seen, g.seen)
	}
}

func TestOverPushUpToOverMost(t *testing.T) {
	o := overWith(someTree(), nil)
	for i := range impl.OverMost {
		o = doOver(t, o, putOp("/f", string(rune('a'+i))))
		pushed, ok := overPush(t, o)
		if !ok || len(pushed.Layers) != i+1 || len(pushed.Upper) != 0 {
			t.Fatalf("OverPush(%v) = %v, %v", o, pushed, ok)
		}
		o = pushed
	}
	o = doOver(t, o, putOp("/f", "z"))
	got, ok := overPush(t, o)
	wantOver(t, "OverPush", o, got, o, ok, false)
	// What is told as it was goes on being turned.
	wantOverGet(t, doOver(t, got, putOp("/f", "zz")), "/f", fileAt("/f", "zz"), impl.OverMost+1, true)
}

func TestOverDrop(t *testing.T) {
	for _, g := range goodOvers() {
		got := overDrop(t, g.over)
		wantOver(t, "OverDrop", g.over, got, impl.Over{Base: g.over.Base, Layers: g.over.Layers}, true, true)
		wantTrees(t, got, g.lower, g.lower)
	}
}

func TestOverSink(t *testing.T) {
	for _, g := range goodOvers() {
		got := overSink(t, g.over)
		wantOver(t, "OverSink", g.over, got, impl.Over{Base: g.lower, Upper: g.over.Upper}, true, true)
		wantTrees(t, got, g.lower, g.seen)
		if len(g.over.Layers) == 0 {
			wantOver(t, "OverSink", g.over, got, g.over, true, true)
		}
	}
}

func TestOverFlat(t *testing.T) {
	for _, g := range goodOvers() {
		got, ok := overFlat(t, g.over)
		if len(g.over.Layers) < 2 {
			wantOver(t, "OverFlat", g.over, got, g.over, ok, false)
		} else if !ok || len(got.Layers) != 1 || !slices.Equal(got.Base, g.over.Base) || !slices.Equal(got.Upper, g.over.Upper) {
			t.Errorf("OverFlat(%v) = %v, %v", g.over, got, ok)
		}
		wantTrees(t, got, g.lower, g.seen)
	}
}

// wantFlat is for layers that can be one.
func wantFlat(t *testing.T, o impl.Over, want ...impl.Mark) {
	t.Helper()
	got, ok := overFlat(t, o)
	wantOver(t, "OverFlat", o, got, overWith(o.Base, o.Upper, want), ok, true)
	wantTrees(t, got, mustLower(t, o), mustView(t, o))
}

func wantNotFlat(t *testing.T, o impl.Over) {
	t.Helper()
	got, ok := overFlat(t, o)
	wantOver(t, "OverFlat", o, got, o, ok, false)
	wantTrees(t, got, mustLower(t, o), mustView(t, o))
}

func TestOverFlatMarks(t *testing.T) {
	wantFlat(t, someOver(), dirMark("/a"), fileMark("/a/b", "2"), bareMark("/a/c"), fileMark("/a/c/q", "n"), goneMark("/ab"), goneMark("/e"), fileMark("/k", "k2"), fileMark("/m", "m2"))
	wantFlat(t, overWith(nil, nil, nil, nil))
	wantFlat(t, overWith(nil, nil, nil, layerWith(goneMark("/a"))), goneMark("/a"))
	wantFlat(t, overWith(nil, nil, layerWith(goneMark("/a")), nil), goneMark("/a"))
	// The upper one counts.
	wantFlat(t, overWith(nil, nil, layerWith(fileMark("/a", "1")), layerWith(fileMark("/a", "2"))), fileMark("/a", "2"))
	wantFlat(t, overWith(nil, nil, layerWith(fileMark("/a", "1")), layerWith(fileMark("/a", "2")), layerWith(fileMark("/a", "3")), layerWith(fileMark("/a", "4"))), fileMark("/a", "4"))
	// What is gone in a layer and made again in another one comes without what is beneath.
	ab := treeWith(dirAt("/a"), fileAt("/a/b", "x"))
	wantFlat(t, overWith(ab, nil, layerWith(goneMark("/a")), layerWith(dirMark("/a"))), bareMark("/a"))
	wantFlat(t, overWith(ab, layerWith(goneMark("/a")), layerWith(dirMark("/c")), layerWith(goneMark("/a")), layerWith(dirMark("/a"), fileMark("/a/d", ""))), bareMark("/a"), fileMark("/a/d", ""), dirMark("/c"))
	wantFlat(t, overWith(ab, nil, layerWith(fileMark("/a", "")), layerWith(dirMark("/a")), layerWith(dirMark("/a"), goneMark("/a/b"), dirMark("/a/c"))), bareMark("/a"), dirMark("/a/c"))
}

func TestOverFlatNoRoom(t *testing.T) {
	base, upper := treeWith(dirAt("/a"), fileAt("/a/b", "x")), layerWith(goneMark("/a"))
	most := goneAnd(2 * impl.TreeMost)
	wantFlat(t, overWith(base, upper, most[1:], layerWith(goneMark("/zz"))), slices.Concat(most[1:], layerWith(goneMark("/zz")))...)
	wantNotFlat(t, overWith(base, upper, most, layerWith(goneMark("/zz"))))
	wantNotFlat(t, overWith(base, upper, most, nil, nil, layerWith(goneMark("/zz"))))
	wantNotFlat(t, overWith(base, upper, layerWith(goneMark("/zz")), most))
}

// The lowest two are joined first, though the upper ones would be less, or more, if these were.
func TestOverFlatFromTheLowestOn(t *testing.T) {
	many := goneAnd(20)
	below := layerWith(dirMark("/a"))
	for _, m := range many {
		below = append(below, goneMark("/a"+m.Path))
	}
	wantNotFlat(t, overWith(nil, nil, many, below, layerWith(goneMark("/a"))))
	other := layerWith(dirMark("/a"))
	for _, m := range many {
		other = append(other, goneMark("/a"+m.Path+"z"))
	}
	wantFlat(t, overWith(nil, nil, layerWith(bareMark("/a")), below, other), bareMark("/a"))
	wantNotFlat(t, overWith(nil, nil, below, layerWith(dirMark("/a")), other))
}

// What is told stays what it is, though the lists of what is given share memory.
func TestOverOfSharedLists(t *testing.T) {
	l := layerWith(dirMark("/a"), goneMark("/a/b"))
	o := overWith(treeWith(dirAt("/a"), fileAt("/a/b", "x"), fileAt("/c", "")), nil, l, l, l)
	want := copyOver(o)
	pushed, ok := impl.OverPush(o)
	wantOver(t, "OverPush", want, keepOver(t, pushed), overWith(want.Base, nil, l, l, l, nil), ok, true)
	ended, code := impl.OverDo(o, rmOp("/q"))
	wantOver(t, "OverDo", want, keepOver(t, ended), want, code == impl.DoNone, true)
	done, code := impl.OverDo(o, rmOp("/c"))
	wantOver(t, "OverDo", want, keepOver(t, done), overWith(want.Base, layerWith(goneMark("/c")), l, l, l), code == impl.DoFine, true)
	flat, ok := impl.OverFlat(o)
	wantOver(t, "OverFlat", want, keepOver(t, flat), overWith(want.Base, nil, l), ok, true)
	wantOver(t, "OverDrop", want, keepOver(t, impl.OverDrop(o)), want, true, true)
	if !alike(o, want) {
		t.Errorf("%v has become %v", want, o)
	}
	// Base and Upper, with a layer in Upper's memory.
	one := layerWith(goneMark("/c"), goneMark("/d"))
	o = overWith(treeWith(fileAt("/c", "")), one[:1], one[1:])
	pushed, ok = impl.OverPush(o)
	wantOver(t, "OverPush", o, keepOver(t, pushed), overWith(o.Base, nil, layerWith(goneMark("/d")), layerWith(goneMark("/c"))), ok, true)
	if !slices.Equal(one, layerWith(goneMark("/c"), goneMark("/d"))) {
		t.Errorf("the layer has become %v", one)
	}
}
