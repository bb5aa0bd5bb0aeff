package tests

import (
	"slices"
	"testing"

	"loop.example/pargeting/impl"
)

// The chapter's words once more, said of maps of paths, to hold the program against.

// shelf is a tree on layers with what is beneath and what is seen.
type shelf struct {
	over  impl.Over
	lower spread
	seen  spread
}

func laidOn(l []impl.Mark, on spread) (spread, bool) {
	s, ok := sheetOf(l)
	if !ok {
		return nil, false
	}
	list, ok := s.on(on)
	if !ok {
		return nil, false
	}
	return spreadOf(list)
}

func shelfOf(o impl.Over) (shelf, bool) {
	lower, ok := spreadOf(o.Base)
	if !ok || len(o.Layers) > 4 {
		return shelf{}, false
	}
	for _, l := range o.Layers {
		if lower, ok = laidOn(l, lower); !ok {
			return shelf{}, false
		}
	}
	seen, ok := laidOn(o.Upper, lower)
	if !ok || !slices.Equal(o.Upper, diffOf(lower, seen)) {
		return shelf{}, false
	}
	return shelf{o, lower, seen}, true
}

func (s shelf) get(path string) (impl.Ent, int, bool) {
	e, there := s.seen.get(path)
	if !there {
		return impl.Ent{}, 0, false
	}
	place := 0
	for i, l := range slices.Concat(s.over.Layers, [][]impl.Mark{s.over.Upper}) {
		for _, m := range l {
			if m.Path == path {
				place = i + 1
			}
		}
	}
	return e, place, true
}

func (s shelf) do(op impl.Op) (impl.Over, int) {
	done, code := s.seen.do(op)
	if code != 0 {
		return s.over, code
	}
	return overWith(s.over.Base, diffOf(s.lower, done), s.over.Layers...), 0
}

func (s shelf) push() (impl.Over, bool) {
	if len(s.over.Layers) == 4 {
		return s.over, false
	}
	return overWith(s.over.Base, nil, slices.Concat(s.over.Layers, [][]impl.Mark{s.over.Upper})...), true
}

func (s shelf) flat() (impl.Over, bool) {
	if len(s.over.Layers) < 2 {
		return s.over, false
	}
	joined := s.over.Layers[0]
	for _, l := range s.over.Layers[1:] {
		upper, _ := sheetOf(l)
		lower, _ := sheetOf(joined)
		var ok bool
		if joined, ok = upper.join(lower); !ok {
			return s.over, false
		}
	}
	return overWith(s.over.Base, s.over.Upper, joined), true
}

// asTheChapterSays holds all functions against the words, at something that may be ok or not, and says whether it is.
func asTheChapterSays(t *testing.T, o impl.Over, paths []string, ops []impl.Op) bool {
	t.Helper()
	s, ok := shelfOf(o)
	if !ok {
		wantNothing(t, o)
		return false
	}
	wantTrees(t, o, s.lower.list(), s.seen.list())
	for _, path := range paths {
		want, wantPlace, wantOk := s.get(path)
		wantOverGet(t, o, path, want, wantPlace, wantOk)
	}
	for _, op := range ops {
		want, wantCode := s.do(op)
		if got, code := overDo(t, o, op); !alike(got, want) || code != wantCode {
			t.Errorf("OverDo(%v, %v) = %v, %d; want %v, %d", o, op, got, code, want, wantCode)
		}
	}
	want, wantOk := s.push()
	got, gotOk := overPush(t, o)
	wantOver(t, "OverPush", o, got, want, gotOk, wantOk)
	want, wantOk = s.flat()
	got, gotOk = overFlat(t, o)
	wantOver(t, "OverFlat", o, got, want, gotOk, wantOk)
	wantOver(t, "OverDrop", o, overDrop(t, o), overWith(o.Base, nil, o.Layers...), true, true)
	wantOver(t, "OverSink", o, overSink(t, o), overWith(s.lower.list(), o.Upper), true, true)
	return true
}

func TestOverOfGoodAndBroken(t *testing.T) {
	for _, g := range goodOvers() {
		if !asTheChapterSays(t, g.over, []string{"/", "/a", "/a/b", "/b", "/ba"}, nil) {
			t.Errorf("the words say that %v is not ok", g.over)
		}
	}
	for _, o := range brokenOvers() {
		if _, ok := shelfOf(o); ok {
			t.Errorf("the words say that %v is ok", brief(o))
		}
	}
}

// All trees on a few layers with few names; of most Upper is not what differs.
func TestOverOfAllSmall(t *testing.T) {
	for _, few := range []struct {
		names [][]string
		most  int
		step  int
	}{
		{[][]string{{"a"}, {"b"}}, 2, 1},
		{[][]string{{"a"}, {"b"}, {"c"}}, 1, 2},
		{[][]string{{"a"}, {"b", "bc"}}, 1, 7},
	} {
		layers, paths := layersOf("", few.names, "x", false), append(pathsOf("", few.names), "/")
		ops := opsAt(paths[:len(paths)-1])
		piles, count := [][][]impl.Mark{nil}, 0
		for range few.most {
			for _, pile := range piles {
				for _, l := range layers {
					piles = append(piles, slices.Concat(pile, [][]impl.Mark{l}))
				}
			}
		}
		turn := 0
		for _, tree := range treesOf("", few.names) {
			for _, pile := range piles {
				for _, upper := range layers {
					if turn++; turn%few.step == 0 && asTheChapterSays(t, overWith(tree, upper, pile...), paths, ops) {
						count++
					}
				}
			}
			if t.Failed() {
				return
			}
		}
		if count < 100 {
			t.Errorf("of %v, %d were ok", few.names, count)
		}
	}
}

// For each two trees there is one Upper, and no other one is ok that makes the one of the other.
func TestOverUpperIsOne(t *testing.T) {
	names := [][]string{{"a"}, {"b"}, {"c"}}
	layers := layersOf("", names, "x", false)
	for _, lower := range treesOf("", names) {
		for _, seen := range treesOf("", names) {
			count := 0
			for _, upper := range layers {
				o := overWith(lower, upper)
				if made, ok := layerOn(t, upper, lower); !ok || !slices.Equal(made, seen) || !overOk(t, o) {
					continue
				}
				count++
				justWhatDiffers(t, o)
			}
			if count != 1 {
				t.Errorf("of %v and %v there are %d", lower, seen, count)
			}
		}
	}
}

// someWay is what is done to a tree on layers, step for step, beside what is done to a tree.
type someWay struct {
	*wayside
	over  impl.Over
	plain []impl.Ent
	came  map[string]int
}

// start takes a tree, layers of any marks that can lie on it, and an Upper.
func (w *someWay) start(t *testing.T) {
	t.Helper()
	w.over = overWith(w.tree(), nil)
	for range w.pick(6) {
		l := w.layer()
		more := overWith(w.over.Base, nil, slices.Concat(w.over.Layers, [][]impl.Mark{l})...)
		if _, ok := shelfOf(more); ok {
			w.over = more
		} else {
			w.came["a layer that can not be there"]++
			wantNothing(t, more)
		}
	}
	s, ok := shelfOf(w.over)
	if !ok {
		t.Fatalf("%v is not ok", w.over)
	}
	w.plain = s.lower.list()
	if w.pick(2) == 0 {
		w.plain = w.tree()
		w.over.Upper = diffOf(s.lower, mustSpread(t, w.plain))
	}
}

func (w *someWay) op() impl.Op {
	op := impl.Op{Kind: 1 + w.pick(5), Path: w.paths[w.pick(len(w.paths))]}
	if op.Kind == impl.OpMove {
		op.To = w.paths[w.pick(len(w.paths))]
	}
	if op.Kind == impl.OpPut {
		op.Data = w.datas[w.pick(len(w.datas))]
	}
	if w.pick(40) == 0 {
		op.To = "/A"
	}
	return op
}

func (w *someWay) count(what string, ok bool) {
	if !ok {
		what += ": no"
	}
	w.came[what]++
}

func (w *someWay) step(t *testing.T) {
	t.Helper()
	var ok bool
	switch w.pick(24) {
	case 0:
		w.over, ok = overPush(t, w.over)
		w.count("push", ok)
	case 1:
		two := len(w.over.Layers) > 1
		w.over, ok = overFlat(t, w.over)
		if two {
			w.count("flat", ok)
		}
	case 2:
		w.over = overSink(t, w.over)
		w.came["sink"]++
	case 3:
		w.over = overDrop(t, w.over)
		w.plain = mustLower(t, w.over)
		w.came["drop"]++
	default:
		op := w.op()
		done, code := asToTheSeen(t, w.over, op)
		plain, plainCode := treeDo(t, w.plain, op)
		if code != plainCode {
			t.Fatalf("%v of %v tells %d, and of %v %d", op, w.over, code, w.plain, plainCode)
		}
		w.over, w.plain = done, plain
		w.came[string([]byte{'0' + byte(op.Kind), '0' + byte(code)})]++
	}
	if seen := mustView(t, w.over); !slices.Equal(seen, w.plain) {
		t.Fatalf("of %v is seen %v; want %v", w.over, seen, w.plain)
	}
}

// P4 and P5 on a long way: what is seen is what a tree by itself has become, on however many layers it stands.
func TestOverOnALongWay(t *testing.T) {
	w := &someWay{
		wayside: &wayside{
			state: 11,
			paths: slices.Sorted(slices.Values(pathsOf("", [][]string{{"a", "aa", "ab", "b"}, {"a", "ab", "b"}, {"a", "z"}}))),
			datas: []string{"", "x", "y1"},
		},
		came: map[string]int{},
	}
	for range 100 {
		w.start(t)
		for range 30 {
			if !asTheChapterSays(t, w.over, w.paths[w.pick(8):][:6], []impl.Op{w.op(), w.op()}) || t.Failed() {
				t.Fatalf("at %v", w.over)
			}
			w.step(t)
		}
	}
	for _, what := range []string{"a layer that can not be there", "push", "push: no", "flat", "sink", "drop",
		"10", "11", "12", "13", "14", "18", "20", "21", "22", "23", "25", "28", "30", "31", "32", "35", "40", "41", "42", "43", "46", "50", "51", "52", "53", "54", "57", "58"} {
		if w.came[what] == 0 {
			t.Errorf("%q has not come", what)
		}
	}
}
