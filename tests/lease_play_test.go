package tests

import (
	"slices"
	"strings"
	"testing"

	"loop.example/pargeting/impl"
)

// wantCodes plays from the beginning, step for step and at once, and tells what there is in the end.
func wantCodes(t *testing.T, o impl.Over, evs []impl.Ev, want ...int) impl.World {
	t.Helper()
	w, codes := worldPlay(t, o, evs)
	if !slices.Equal(codes, want) {
		t.Fatalf("WorldPlay(%v, %v) tells %v; want %v", brief(o), evs, codes, want)
	}
	step := worldNew(t, o)
	for i, ev := range evs {
		var code int
		if step, code = worldDo(t, step, ev); code != want[i] {
			t.Fatalf("WorldDo of %v, at %d, tells %d; want %d", ev, i, code, want[i])
		}
		allIsSo(t, step)
	}
	if !alikeWorlds(w, step) {
		t.Fatalf("WorldPlay(%v, %v) = %v; want %v", brief(o), evs, w, step)
	}
	return w
}

func TestWorldPlay(t *testing.T) {
	o := overWith(readTree(), nil)
	evs := []impl.Ev{
		askEv(0, "/ab"), giveEv(0), giveEv(0), // 0 holds /ab.
		writeEv(putOp("/ab", "w")), writeEv(putOp("/ab", "v")), // One waits, and the other is told so.
		giveEv(0), tryEv(), // It is asked back, but not given back yet; it is asked back once more.
		giveEv(0), tryEv(), // It is given back, and what waits is done.
		writeEv(moveOp("/a", "/e")),
	}
	w := wantCodes(t, o, evs, 0, 0, 0, 20, 21, 0, 20, 0, 0, 0)
	want := newWorld(overWith(readTree(), layerWith(goneMark("/a"), fileMark("/ab", "w"), dirMark("/e"), fileMark("/e/b", "x"))))
	want.Count, want.Floors[0], want.Net = 1, 1, []impl.Msg{recallMsg(0, "/ab", 1)}
	if !alikeWorlds(w, want) {
		t.Errorf("WorldPlay = %v; want %v", w, want)
	}
	// Upper is what differs from what is beneath, also behind several writes.
	evs = []impl.Ev{writeEv(putOp("/a/b", "z")), writeEv(rmOp("/ab")), writeEv(putOp("/a/b", "x")), writeEv(rmOp("/ab")), writeEv(makeOp("/ab"))}
	w = wantCodes(t, o, evs, 0, 0, 0, impl.DoNone, 0)
	if !alikeWorlds(w, newWorld(overWith(readTree(), layerWith(dirMark("/ab"))))) {
		t.Errorf("WorldPlay = %v", w)
	}
}

func TestWorldPlayOfNothing(t *testing.T) {
	for _, g := range goodOvers() {
		for _, evs := range [][]impl.Ev{nil, {}} {
			if w, codes := worldPlay(t, g.over, evs); !alikeWorlds(w, newWorld(g.over)) || len(codes) != 0 {
				t.Errorf("WorldPlay(%v, none) = %v, %v", g.over, w, codes)
			}
		}
	}
}

func TestWorldPlayMost(t *testing.T) {
	o := overWith(readTree(), nil)
	for _, ev := range []impl.Ev{tickEv(), askEv(0, "/a"), {}, writeEv(rmOp("/q"))} {
		for n := impl.EvMost - 1; n <= impl.EvMost+2; n++ {
			w, codes := worldPlay(t, o, slices.Repeat([]impl.Ev{ev}, n))
			if n > impl.EvMost {
				if !alikeWorlds(w, impl.World{}) || len(codes) != 0 {
					t.Errorf("WorldPlay of %d = %v, %v; want nothing, none", n, w, codes)
				}
				continue
			}
			if len(codes) != n || !worldOk(t, w) || ev.Kind == impl.EvTick && w.Clock != n {
				t.Errorf("WorldPlay of %d = %v, %v", n, w, codes)
			}
		}
	}
	if w, codes := worldPlay(t, o, make([]impl.Ev, 5000)); !alikeWorlds(w, impl.World{}) || len(codes) != 0 {
		t.Errorf("WorldPlay of 5000 = %v, %v; want nothing, none", w, codes)
	}
}

// What happens can not be read, at each place of a play: it turns nothing, and the play goes on.
func TestWorldPlayWithWrongOnes(t *testing.T) {
	o := overWith(readTree(), nil)
	good := []impl.Ev{askEv(0, "/ab"), giveEv(0), giveEv(0), writeEv(rmOp("/d")), writeEv(putOp("/ab", "w")), giveEv(0), giveEv(0), tryEv()}
	want, codes := worldPlay(t, o, good)
	for at := range len(good) + 1 {
		for _, wrong := range []impl.Ev{{}, {Kind: 8}, {Kind: -1}, askEv(3, "/a"), askEv(-1, "/a"), askEv(0, "a"), askEv(0, "/")} {
			w, all := worldPlay(t, o, slices.Insert(slices.Clone(good), at, wrong))
			if !alikeWorlds(w, want) || !slices.Equal(all, slices.Insert(slices.Clone(codes), at, impl.DoBad)) {
				t.Errorf("WorldPlay with %v at %d = %v, %v", wrong, at, w, all)
			}
		}
	}
}

// What is granted comes behind what is asked back, though it was sent ahead of it.
func TestPlayGrantBehindRecall(t *testing.T) {
	o := overWith(readTree(), nil)
	evs := []impl.Ev{askEv(0, "/ab"), giveEv(0), writeEv(putOp("/ab", "w")), giveEv(1)}
	w := wantCodes(t, o, evs, 0, 0, 20, 0)
	if want := []impl.Msg{grantMsg(0, holdWith(fileAt("/ab", "y"), 1, 5)), backMsg(0, "/ab", 1)}; !slices.Equal(w.Net, want) || w.Floors[0] != 1 {
		t.Fatalf("%v; want under way %v", w, want)
	}
	// Given at once, or behind the write: nothing is held.
	w = wantCodes(t, o, append(slices.Clone(evs), giveEv(0), giveEv(0), tryEv()), 0, 0, 20, 0, 0, 0, 0)
	wantRead(t, w, 0, "/ab", impl.Ent{}, false, false)
	w = wantCodes(t, o, append(slices.Clone(evs), giveEv(1), tryEv(), giveEv(0)), 0, 0, 20, 0, 0, 0, 0)
	wantRead(t, w, 0, "/ab", impl.Ent{}, false, false)
	// What is asked for afterwards is held.
	w = wantCodes(t, o, append(slices.Clone(evs), giveEv(1), tryEv(), askEv(0, "/ab"), giveEv(1), giveEv(1), giveEv(0)), 0, 0, 20, 0, 0, 0, 0, 0, 0, 0)
	wantRead(t, w, 0, "/ab", fileAt("/ab", "w"), true, true)
}

// What is given back twice: the second one finds a lease that came since, and leaves it.
func TestPlayBackTwice(t *testing.T) {
	o := overWith(readTree(), nil)
	evs := []impl.Ev{
		askEv(0, "/ab"), giveEv(0), giveEv(0), writeEv(putOp("/ab", "w")), giveEv(0), copyEv(0), giveEv(0), tryEv(),
		askEv(0, "/ab"), giveEv(1), giveEv(1), giveEv(0),
	}
	w := wantCodes(t, o, evs, 0, 0, 0, 20, 0, 0, 0, 0, 0, 0, 0, 0)
	if len(w.Net) != 0 || !slices.Equal(w.Leases, []impl.Lease{leaseOf(0, "/ab", 2, 5)}) {
		t.Errorf("%v", w)
	}
	wantRead(t, w, 0, "/ab", fileAt("/ab", "w"), true, true)
	// And so it bars the next write.
	wantCodes(t, o, append(evs, writeEv(rmOp("/ab"))), 0, 0, 0, 20, 0, 0, 0, 0, 0, 0, 0, 0, 20)
}

// What is asked back twice: the second one finds a hold that came since, and leaves it, as its Num is greater.
func TestPlayRecallTwice(t *testing.T) {
	o := overWith(readTree(), nil)
	evs := []impl.Ev{
		askEv(0, "/ab"), giveEv(0), giveEv(0), writeEv(putOp("/ab", "w")), copyEv(0), giveEv(0), giveEv(1), tryEv(),
		askEv(0, "/ab"), giveEv(1), giveEv(1), giveEv(0), giveEv(0),
	}
	w := wantCodes(t, o, evs, 0, 0, 0, 20, 0, 0, 0, 0, 0, 0, 0, 0, 0)
	if len(w.Net) != 0 || len(w.Leases) != 1 || w.Floors[0] != 1 {
		t.Errorf("%v", w)
	}
	wantRead(t, w, 0, "/ab", fileAt("/ab", "w"), true, true)
}

// A grant that comes twice, and an older one behind a newer one.
func TestPlayGrantTwice(t *testing.T) {
	o := overWith(readTree(), nil)
	evs := []impl.Ev{askEv(0, "/ab"), giveEv(0), copyEv(0), tickEv(), askEv(0, "/ab"), giveEv(2), giveEv(2)}
	w := wantCodes(t, o, evs, 0, 0, 0, 0, 0, 0, 0)
	want := []impl.Hold{holdWith(fileAt("/ab", "y"), 2, 6)}
	if !slices.Equal(w.Holds[0], want) {
		t.Fatalf("%v is held; want %v", w.Holds[0], want)
	}
	w = wantCodes(t, o, append(evs, giveEv(0), giveEv(0)), 0, 0, 0, 0, 0, 0, 0, 0, 0)
	if !slices.Equal(w.Holds[0], want) || len(w.Net) != 0 {
		t.Errorf("%v is held; want %v", w.Holds[0], want)
	}
}

// lostAll lets time go till there is nothing that bars what waits, and tells when that was; all that is sent is lost.
func lostAll(t *testing.T, w impl.World) impl.World {
	t.Helper()
	op, until := w.Op, 0
	for _, l := range worldBars(t, w, op) {
		until = max(until, l.Until)
	}
	want, _ := treeDo(t, mustView(t, w.Over), op)
	for w.Clock < until {
		next, code := happensAsSaid(t, w, tryEv())
		if code != impl.WorldWait {
			t.Fatalf("EvTry at %d, till %d, tells %d: %v", w.Clock, until, code, w)
		}
		for len(next.Net) > 0 {
			next = playOn(t, next, loseEv(0))
		}
		w = playOn(t, next, tickEv())
	}
	done, code := happensAsSaid(t, w, tryEv())
	if seen := mustView(t, done.Over); code != impl.DoFine || done.Waits || !slices.Equal(seen, want) {
		t.Fatalf("EvTry, when the leases have ended, tells %d: %v; want to see %v", code, done, want)
	}
	return done
}

// P7: nobody answers, and what waits is done when the last lease that it waits for has ended, and not before.
func TestWaitsTillLeasesEnd(t *testing.T) {
	o := overWith(readTree(), nil)
	for ticks := range impl.LeaseFor {
		evs := []impl.Ev{askEv(0, "/a/b"), giveEv(0), giveEv(0)}
		evs = append(evs, slices.Repeat([]impl.Ev{tickEv()}, ticks)...)
		evs = append(evs, askEv(1, "/a"), giveEv(0), askEv(2, "/q"), giveEv(1))
		for _, op := range []impl.Op{moveOp("/a", "/q"), putOp("/a/b", "z"), rmOp("/a/b"), makeOp("/q")} {
			w := playOn(t, worldNew(t, o), append(slices.Clone(evs), writeEv(op))...)
			if !w.Waits {
				t.Fatalf("%v does not wait: %v", op, w)
			}
			lostAll(t, w)
		}
	}
}

// Whatever happens while it waits, but that time goes: no lease comes of what it turns, and so it is done when
// those that it waited for have ended, and does what it would have done.
func TestWaitsWhateverHappens(t *testing.T) {
	t.Parallel()
	p := newPlay(41)
	waited, early := 0, 0
	for waited < 150 {
		p.begin(t)
		for range 60 {
			p.world, _ = worldDo(t, p.world, p.event())
			if p.world.Waits {
				break
			}
		}
		if !p.world.Waits {
			continue
		}
		waited++
		if p.doneInTheEnd(t) {
			early++
		}
	}
	if early < 10 || waited-early < 10 {
		t.Errorf("of %d, %d were done ahead of the end of the leases", waited, early)
	}
}

// doneInTheEnd lets anything happen, and time go, and says whether what waits was done ahead of the end of the leases.
func (p *somePlay) doneInTheEnd(t *testing.T) bool {
	t.Helper()
	op, bars, before := p.world.Op, worldBars(t, p.world, p.world.Op), mustView(t, p.world.Over)
	want, _ := treeDo(t, before, op)
	until := 0
	for _, l := range bars {
		until = max(until, l.Until)
	}
	for {
		for range 6 {
			ev := p.event()
			next, code := worldDo(t, p.world, ev)
			if ev.Kind == impl.EvTry && code == impl.DoFine {
				p.wantDoneOp(t, next, want)
				return true
			}
			p.world = next
			if seen := mustView(t, next.Over); !slices.Equal(seen, before) || !next.Waits || next.Op != op {
				t.Fatalf("%v turned what is seen, or what waits: %v", ev, next)
			}
			p.noNewBars(t, bars)
		}
		if p.world.Clock >= until {
			break
		}
		p.world, _ = worldDo(t, p.world, tickEv())
	}
	done, code := worldDo(t, p.world, tryEv())
	if code != impl.DoFine {
		t.Fatalf("EvTry, when the leases have ended, tells %d: %v", code, p.world)
	}
	p.wantDoneOp(t, done, want)
	return false
}

func (p *somePlay) wantDoneOp(t *testing.T, done impl.World, want []impl.Ent) {
	t.Helper()
	allIsSo(t, done)
	if seen := mustView(t, done.Over); !slices.Equal(seen, want) || done.Waits || done.Op != (impl.Op{}) {
		t.Fatalf("what waited made %v of %v; want to see %v", done, p.world, want)
	}
}

// noNewBars asks for this: what bars a write that waits is of what barred it at first.
func (p *somePlay) noNewBars(t *testing.T, first []impl.Lease) {
	t.Helper()
	for _, l := range worldBars(t, p.world, p.world.Op) {
		if !slices.Contains(first, l) {
			t.Fatalf("%v bars %v, and did not at first: %v", l, p.world.Op, p.world)
		}
	}
}

// What is told lies on no bytes of what was given; texts too.
func TestWorldAnswersAreNewMemory(t *testing.T) {
	given := with(someWorld(), func(w *impl.World) {
		w.Op = moveOp("/ab", "/q")
		w.Over = overWith(readTree(), layerWith(fileMark("/abc", "data")), layerWith(goneMark("/xyz")))
		w.Net = append(w.Net, askMsg(0, "/d"), recallMsg(1, "/ab", 8))
	})
	for _, text := range textsIn(&given) {
		*text = strings.Clone(*text)
	}
	if !worldOk(t, given) {
		t.Fatalf("%v is not ok", given)
	}
	path, data := strings.Clone("/abc"), strings.Clone("data12")
	arguments := []string{path, data}
	for _, text := range textsIn(&given) {
		arguments = append(arguments, *text)
	}
	fresh := func(what string, answer impl.World) {
		t.Helper()
		texts := textsIn(&answer)
		for i, x := range texts {
			for _, y := range arguments {
				if sharesMemory(*x, y) {
					t.Errorf("%s: %q shares memory with %q", what, *x, y)
				}
			}
			for _, y := range texts[:i] {
				if sharesMemory(*x, *y) {
					t.Errorf("%s: %q shares memory with another text of it", what, *x)
				}
			}
		}
	}
	fresh("WorldNew", impl.WorldNew(given.Over))
	played, _ := impl.WorldPlay(given.Over, []impl.Ev{askEv(0, path), giveEv(0), copyEv(0), giveEv(0), writeEv(putOp(path, data)), writeEv(makeOp("/q"))})
	fresh("WorldPlay", played)
	evs := []impl.Ev{askEv(0, path), writeEv(putOp(path, data)), tryEv(), tickEv(), loseEv(0), copyEv(1), {}}
	for at := range given.Net {
		evs = append(evs, giveEv(at))
	}
	for _, ev := range evs {
		next, _ := impl.WorldDo(given, ev)
		fresh("WorldDo", next)
		idle := with(given, func(w *impl.World) { w.Waits, w.Op = false, impl.Op{} })
		next, _ = impl.WorldDo(idle, ev)
		fresh("WorldDo", next)
	}
	bars := impl.World{Leases: impl.WorldBars(given, given.Op)}
	e, _, ok := impl.WorldRead(given, 0, "/a/b")
	if len(bars.Leases) == 0 || !ok {
		t.Errorf("%v bars it, and %v is read", bars.Leases, e)
	}
	fresh("WorldBars", bars)
	fresh("WorldRead", impl.World{Over: overWith(treeWith(e), nil)})
}

// textsIn are all texts of a world.
func textsIn(w *impl.World) []*string {
	var texts []*string
	for i := range w.Over.Base {
		texts = append(texts, &w.Over.Base[i].Path, &w.Over.Base[i].Data)
	}
	for _, l := range slices.Concat(w.Over.Layers, [][]impl.Mark{w.Over.Upper}) {
		for i := range l {
			texts = append(texts, &l[i].Path, &l[i].Data)
		}
	}
	for i := range w.Leases {
		texts = append(texts, &w.Leases[i].Path)
	}
	ofHold := func(held *impl.Hold) {
		texts = append(texts, &held.Path, &held.Ent.Path, &held.Ent.Data)
	}
	for _, list := range w.Holds {
		for i := range list {
			ofHold(&list[i])
		}
	}
	for i := range w.Net {
		ofHold(&w.Net[i].Hold)
	}
	return append(texts, &w.Op.Path, &w.Op.To, &w.Op.Data)
}
