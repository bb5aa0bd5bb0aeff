package tests

import (
	"slices"
	"testing"
	"unsafe"

	"loop.example/pargeting/impl"
)

// readTree has what tests of one thing by itself read and turn.
func readTree() []impl.Ent {
	return treeWith(dirAt("/a"), fileAt("/a/b", "x"), fileAt("/ab", "y"), dirAt("/d"))
}

// newWorld is WorldNew said once more.
func newWorld(o impl.Over) impl.World {
	return impl.World{Over: o, Holds: make([][]impl.Hold, 3), Floors: make([]int, 3)}
}

// worldAt is readTree at a time, with so many leases given till then.
func worldAt(clock, count int) impl.World {
	w := newWorld(overWith(readTree(), nil))
	w.Clock, w.Count = clock, count
	return w
}

func leaseOf(who int, path string, num, until int) impl.Lease {
	return impl.Lease{Who: who, Path: path, Num: num, Until: until}
}

// holdWith is a hold of what is there.
func holdWith(e impl.Ent, num, until int) impl.Hold {
	return impl.Hold{Path: e.Path, Has: true, Ent: e, Num: num, Until: until}
}

// holdNone is a hold of a path at which nothing is.
func holdNone(path string, num, until int) impl.Hold {
	return impl.Hold{Path: path, Num: num, Until: until}
}

func askMsg(who int, path string) impl.Msg {
	return impl.Msg{Kind: impl.MsgAsk, Who: who, Hold: impl.Hold{Path: path}}
}

func grantMsg(who int, held impl.Hold) impl.Msg {
	return impl.Msg{Kind: impl.MsgGrant, Who: who, Hold: held}
}

func recallMsg(who int, path string, num int) impl.Msg {
	return impl.Msg{Kind: impl.MsgRecall, Who: who, Hold: impl.Hold{Path: path, Num: num}}
}

func backMsg(who int, path string, num int) impl.Msg {
	return impl.Msg{Kind: impl.MsgBack, Who: who, Hold: impl.Hold{Path: path, Num: num}}
}

// asks are that many messages under way that do nothing by being there.
func asks(n int) []impl.Msg {
	var net []impl.Msg
	for i := range n {
		net = append(net, askMsg(i%impl.WhoMost, "/q"))
	}
	return net
}

func askEv(who int, path string) impl.Ev {
	return impl.Ev{Kind: impl.EvAsk, Who: who, Path: path}
}

func writeEv(op impl.Op) impl.Ev {
	return impl.Ev{Kind: impl.EvWrite, Op: op}
}

func tryEv() impl.Ev {
	return impl.Ev{Kind: impl.EvTry}
}

func tickEv() impl.Ev {
	return impl.Ev{Kind: impl.EvTick}
}

func giveEv(at int) impl.Ev {
	return impl.Ev{Kind: impl.EvGive, At: at}
}

func loseEv(at int) impl.Ev {
	return impl.Ev{Kind: impl.EvLose, At: at}
}

func copyEv(at int) impl.Ev {
	return impl.Ev{Kind: impl.EvCopy, At: at}
}

func copyWorld(w impl.World) impl.World {
	w.Over = copyOver(w.Over)
	w.Leases, w.Floors, w.Net = slices.Clone(w.Leases), slices.Clone(w.Floors), slices.Clone(w.Net)
	w.Holds = slices.Clone(w.Holds)
	for who := range w.Holds {
		w.Holds[who] = slices.Clone(w.Holds[who])
	}
	return w
}

// with is the world turned by hand, and leaves the first as it is.
func with(w impl.World, turn func(*impl.World)) impl.World {
	w = copyWorld(w)
	turn(&w)
	return w
}

// alikeWorlds is WorldSame said once more, so that no test leans on what it asks.
func alikeWorlds(a, b impl.World) bool {
	return alike(a.Over, b.Over) && a.Clock == b.Clock && a.Count == b.Count && slices.Equal(a.Leases, b.Leases) &&
		slices.EqualFunc(a.Holds, b.Holds, slices.Equal) && slices.Equal(a.Floors, b.Floors) &&
		slices.Equal(a.Net, b.Net) && a.Waits == b.Waits && a.Op == b.Op
}

// lentWorld is a world as an argument: each list of it is lent, and the list of holds too.
type lentWorld struct {
	world  impl.World
	over   lentOver
	leases lent[impl.Lease]
	floors lent[int]
	net    lent[impl.Msg]
	each   []lent[impl.Hold]
	holds  [][]impl.Hold
	was    [][]impl.Hold
}

func lendWorld(w impl.World) lentWorld {
	aside := []impl.Hold{{Path: "mark", Num: 77}}
	l := lentWorld{
		world:  w,
		over:   lendOver(w.Over),
		leases: lend(w.Leases, leaseOf(77, "mark", 77, 77)),
		floors: lend(w.Floors, 77),
		net:    lend(w.Net, askMsg(77, "mark")),
		holds:  [][]impl.Hold{aside, aside},
	}
	for _, list := range w.Holds {
		l.each = append(l.each, lend(list, aside[0]))
		l.holds = append(l.holds, l.each[len(l.each)-1].list)
	}
	l.holds = append(l.holds, aside, aside)
	l.was = slices.Clone(l.holds)
	l.world.Over, l.world.Leases, l.world.Floors, l.world.Net = l.over.over, l.leases.list, l.floors.list, l.net.list
	l.world.Holds = l.holds[2 : 2+len(w.Holds)]
	return l
}

func (l lentWorld) untouched(t *testing.T, what string) {
	t.Helper()
	l.over.untouched(t, what)
	l.leases.untouched(t, what)
	l.floors.untouched(t, what)
	l.net.untouched(t, what)
	for _, list := range l.each {
		list.untouched(t, what)
	}
	isSame := func(a, b []impl.Hold) bool {
		return unsafe.SliceData(a) == unsafe.SliceData(b) && len(a) == len(b) && cap(a) == cap(b)
	}
	if !slices.EqualFunc(l.holds, l.was, isSame) || l.holds[0][0].Num != 77 {
		t.Fatalf("%s: the holds %v have become %v", what, brief(l.was), brief(l.holds))
	}
}

// keepWorld copies an answer, and writes all over it and its spare room, so that whoever shares its memory is seen;
// each list of holds is written with a mark of its own, so that such as share memory with each other are seen too.
func keepWorld(t *testing.T, answer impl.World) impl.World {
	t.Helper()
	kept := copyWorld(answer)
	keepOver(t, answer.Over)
	keep(answer.Leases, leaseOf(88, "written", 88, 88))
	keep(answer.Floors, 88)
	keep(answer.Net, askMsg(88, "written"))
	for who, list := range answer.Holds {
		keep(list, holdNone("written", who, 88))
	}
	for who, list := range answer.Holds {
		for _, held := range list[:cap(list)] {
			if held.Num != who {
				t.Fatalf("two lists of the answer %v share memory", kept)
			}
		}
	}
	keep(answer.Holds, []impl.Hold{holdNone("written", 88, 88)})
	return kept
}

// The functions of the chapter, with a look at the memory of arguments and answers at each call.

func worldNew(t *testing.T, o impl.Over) impl.World {
	t.Helper()
	a := lendOver(o)
	w := keepWorld(t, impl.WorldNew(a.over))
	a.untouched(t, "WorldNew")
	return w
}

func worldSame(t *testing.T, a, b impl.World) bool {
	t.Helper()
	x, y := lendWorld(a), lendWorld(b)
	same := impl.WorldSame(x.world, y.world)
	x.untouched(t, "WorldSame")
	y.untouched(t, "WorldSame")
	return same
}

func worldOk(t *testing.T, w impl.World) bool {
	t.Helper()
	a := lendWorld(w)
	ok := impl.WorldOk(a.world)
	a.untouched(t, "WorldOk")
	return ok
}

func worldRead(t *testing.T, w impl.World, who int, path string) (impl.Ent, bool, bool) {
	t.Helper()
	a := lendWorld(w)
	e, has, ok := impl.WorldRead(a.world, who, path)
	a.untouched(t, "WorldRead")
	return e, has, ok
}

func worldBars(t *testing.T, w impl.World, op impl.Op) []impl.Lease {
	t.Helper()
	a := lendWorld(w)
	bars := keep(impl.WorldBars(a.world, op), leaseOf(88, "written", 88, 88))
	a.untouched(t, "WorldBars")
	return bars
}

func worldDo(t *testing.T, w impl.World, ev impl.Ev) (impl.World, int) {
	t.Helper()
	a := lendWorld(w)
	done, code := impl.WorldDo(a.world, ev)
	done = keepWorld(t, done)
	a.untouched(t, "WorldDo")
	return done, code
}

func worldPlay(t *testing.T, o impl.Over, evs []impl.Ev) (impl.World, []int) {
	t.Helper()
	a, b := lendOver(o), lend(evs, askEv(77, "mark"))
	played, codes := impl.WorldPlay(a.over, b.list)
	played, codes = keepWorld(t, played), keep(codes, 88)
	a.untouched(t, "WorldPlay")
	b.untouched(t, "WorldPlay")
	return played, codes
}

// wantWorld is for what happens in a world that is ok: what there is then, and that it is ok.
func wantWorld(t *testing.T, w impl.World, ev impl.Ev, want impl.World, wantCode int) impl.World {
	t.Helper()
	if !worldOk(t, w) {
		t.Fatalf("%v is not ok", brief(w))
	}
	got, code := worldDo(t, w, ev)
	if !alikeWorlds(got, want) || code != wantCode {
		t.Errorf("WorldDo(%v, %v) = %v, %d; want %v, %d", brief(w), brief(ev), brief(got), code, brief(want), wantCode)
	}
	allIsSo(t, got)
	return got
}

// wantAsItWas is for what turns nothing.
func wantAsItWas(t *testing.T, w impl.World, ev impl.Ev, wantCode int) {
	t.Helper()
	wantWorld(t, w, ev, w, wantCode)
}

func wantRead(t *testing.T, w impl.World, who int, path string, want impl.Ent, wantHas, wantOk bool) {
	t.Helper()
	if got, has, ok := worldRead(t, w, who, path); got != want || has != wantHas || ok != wantOk {
		t.Errorf("WorldRead(%v, %d, %q) = %v, %v, %v; want %v, %v, %v", brief(w), who, short(path), brief(got), has, ok, want, wantHas, wantOk)
	}
}

func wantBars(t *testing.T, w impl.World, op impl.Op, want ...impl.Lease) {
	t.Helper()
	if got := worldBars(t, w, op); !slices.Equal(got, want) {
		t.Errorf("WorldBars(%v, %v) = %v; want %v", brief(w), brief(op), got, want)
	}
}

// allIsSo asks for P6: it is ok, and what anyone holds and can read is what is seen there.
func allIsSo(t *testing.T, w impl.World) {
	t.Helper()
	if !worldOk(t, w) {
		t.Fatalf("%v is not ok", brief(w))
	}
	seen := mustView(t, w.Over)
	for who, list := range w.Holds {
		for _, held := range list {
			e, has, alive := worldRead(t, w, who, held.Path)
			if alive != (w.Clock < held.Until) {
				t.Fatalf("WorldRead(%v, %d, %q) tells %v", w, who, held.Path, alive)
			}
			if want, wantHas := treeGet(t, seen, held.Path); alive && (e != want || has != wantHas) {
				t.Fatalf("%d holds %v, %v of %q in %v; seen is %v, %v", who, e, has, held.Path, w, want, wantHas)
			}
		}
	}
}

// playOn lets things happen one behind the other, with a look at each step.
func playOn(t *testing.T, w impl.World, evs ...impl.Ev) impl.World {
	t.Helper()
	for _, ev := range evs {
		w, _ = worldDo(t, w, ev)
		allIsSo(t, w)
	}
	return w
}
