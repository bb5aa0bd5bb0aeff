package tests

import (
	"math"
	"slices"
	"testing"

	"loop.example/pargeting/impl"
)

// someWorld has leases, holds and messages of each kind; a write waits in it for the first two of its leases.
// Of its leases the fourth is alive no more.
func someWorld() impl.World {
	w := worldAt(10, 8)
	w.Leases = []impl.Lease{leaseOf(0, "/a/b", 3, 13), leaseOf(2, "/a/b", 6, 15), leaseOf(0, "/q", 4, 14), leaseOf(1, "/a", 1, 10), leaseOf(1, "/ab", 8, 15)}
	w.Holds = [][]impl.Hold{
		{holdWith(fileAt("/a/b", "x"), 3, 13), holdNone("/q", 4, 14)},
		{holdWith(dirAt("/a"), 1, 10), holdWith(fileAt("/d", "old"), 2, 4), holdWith(fileAt("/ab", "y"), 7, 12)},
		nil,
	}
	w.Floors = []int{0, 2, 5}
	w.Net = []impl.Msg{
		askMsg(2, "/ab"),
		grantMsg(2, holdWith(fileAt("/a/b", "x"), 6, 15)),
		recallMsg(0, "/a/b", 7),
		backMsg(2, "/a/b", 5),
		grantMsg(1, holdWith(fileAt("/ab", "y"), 8, 15)),
	}
	w.Waits, w.Op = true, putOp("/a/b", "z")
	return w
}

func TestWorldOkOfSome(t *testing.T) {
	allIsSo(t, someWorld())
	allIsSo(t, worldAt(0, 0))
	allIsSo(t, newWorld(impl.Over{}))
	allIsSo(t, impl.World{Leases: []impl.Lease{}, Holds: [][]impl.Hold{{}, nil, {}}, Floors: []int{0, 0, 0}, Net: []impl.Msg{}})
	for _, g := range goodOvers() {
		allIsSo(t, newWorld(g.over))
	}
}

func TestWorldNew(t *testing.T) {
	for _, g := range goodOvers() {
		got := worldNew(t, g.over)
		if !alikeWorlds(got, newWorld(g.over)) || len(got.Holds) != 3 || len(got.Floors) != 3 {
			t.Errorf("WorldNew(%v) = %v", g.over, got)
		}
		allIsSo(t, got)
	}
}

// Of a tree that is not ok all begins as of any other; what begins so is not ok.
func TestWorldNewOfBroken(t *testing.T) {
	for _, o := range brokenOvers() {
		if got := worldNew(t, o); !alikeWorlds(got, newWorld(o)) || worldOk(t, got) {
			t.Errorf("WorldNew(%v) = %v", brief(o), brief(got))
		}
	}
}

func TestWorldSame(t *testing.T) {
	turns := []func(*impl.World){
		func(w *impl.World) { w.Over.Base[1].Data = "xx" },
		func(w *impl.World) { w.Over.Base = w.Over.Base[:3] },
		func(w *impl.World) { w.Over.Layers = append(w.Over.Layers, nil) },
		func(w *impl.World) { w.Over.Upper = layerWith(goneMark("/q")) },
		func(w *impl.World) { w.Clock++ },
		func(w *impl.World) { w.Count-- },
		func(w *impl.World) { w.Leases[0].Who = 1 },
		func(w *impl.World) { w.Leases[1].Path = "/q/a" },
		func(w *impl.World) { w.Leases[2].Num++ },
		func(w *impl.World) { w.Leases[4].Until-- },
		func(w *impl.World) { w.Leases = w.Leases[1:] },
		func(w *impl.World) { w.Leases = nil },
		func(w *impl.World) { w.Leases[0], w.Leases[1] = w.Leases[1], w.Leases[0] },
		func(w *impl.World) { w.Holds[0][1].Path = "/r" },
		func(w *impl.World) { w.Holds[0][0].Has = false },
		func(w *impl.World) { w.Holds[0][0].Ent.Path = "/a" },
		func(w *impl.World) { w.Holds[0][0].Ent.Dir = true },
		func(w *impl.World) { w.Holds[0][0].Ent.Data = "" },
		func(w *impl.World) { w.Holds[1][1].Num-- },
		func(w *impl.World) { w.Holds[1][2].Until++ },
		func(w *impl.World) { w.Holds[1] = w.Holds[1][:2] },
		func(w *impl.World) { w.Holds[1][0], w.Holds[1][1] = w.Holds[1][1], w.Holds[1][0] },
		func(w *impl.World) { w.Holds[2] = append(w.Holds[2], impl.Hold{}) },
		func(w *impl.World) { w.Holds[0], w.Holds[2] = w.Holds[2], w.Holds[0] },
		func(w *impl.World) { w.Holds = w.Holds[:2] },
		func(w *impl.World) { w.Holds = append(w.Holds, nil) },
		func(w *impl.World) { w.Holds = nil },
		func(w *impl.World) { w.Floors[2]++ },
		func(w *impl.World) { w.Floors = w.Floors[:2] },
		func(w *impl.World) { w.Floors = append(w.Floors, 0) },
		func(w *impl.World) { w.Net[0].Kind = impl.MsgRecall },
		func(w *impl.World) { w.Net[0].Who = 0 },
		func(w *impl.World) { w.Net[0].Hold.Path = "/a" },
		func(w *impl.World) { w.Net[0].Hold.Num = 1 },
		func(w *impl.World) { w.Net[1].Hold.Has = false },
		func(w *impl.World) { w.Net[1].Hold.Ent.Data = "y" },
		func(w *impl.World) { w.Net[1].Hold.Until = 14 },
		func(w *impl.World) { w.Net = w.Net[:4] },
		func(w *impl.World) { w.Net[0], w.Net[4] = w.Net[4], w.Net[0] },
		func(w *impl.World) { w.Waits = false },
		func(w *impl.World) { w.Op.Kind = impl.OpMake },
		func(w *impl.World) { w.Op.Path = "/a" },
		func(w *impl.World) { w.Op.To = "/a" },
		func(w *impl.World) { w.Op.Data = "zz" },
		func(w *impl.World) { *w = impl.World{} },
	}
	if !worldSame(t, someWorld(), someWorld()) {
		t.Error("WorldSame of a world and itself tells false")
	}
	for i, turn := range turns {
		a, b := someWorld(), with(someWorld(), turn)
		if worldSame(t, a, b) || worldSame(t, b, a) || !worldSame(t, b, copyWorld(b)) {
			t.Errorf("WorldSame behind turn %d", i)
		}
	}
}

// The empty list and the nil list are the same value, also as one of the holds, and also of what is not ok.
func TestWorldSameOfNothing(t *testing.T) {
	full := impl.World{Over: impl.Over{Base: []impl.Ent{}, Layers: [][]impl.Mark{}, Upper: []impl.Mark{}}, Leases: []impl.Lease{}, Holds: [][]impl.Hold{}, Floors: []int{}, Net: []impl.Msg{}}
	if !worldSame(t, impl.World{}, full) || !worldSame(t, full, impl.World{}) || !worldSame(t, impl.World{}, impl.World{}) {
		t.Error("WorldSame of nothing")
	}
	a, b := impl.World{Holds: [][]impl.Hold{nil, {}}}, impl.World{Holds: [][]impl.Hold{{}, nil}}
	if !worldSame(t, a, b) || worldSame(t, a, full) || worldSame(t, full, b) {
		t.Error("WorldSame of holds of nothing")
	}
}

func TestEvAsk(t *testing.T) {
	for _, w := range []impl.World{worldAt(0, 0), worldAt(10000, 10000), someWorld()} {
		for who := range impl.WhoMost {
			for _, path := range []string{"/a", "/a/b", "/q", "/q/r/s"} {
				want := with(w, func(w *impl.World) { w.Net = append(w.Net, askMsg(who, path)) })
				wantWorld(t, w, askEv(who, path), want, impl.WorldFine)
				ev := askEv(who, path)
				ev.Op, ev.At = putOp("/A", "!"), -7
				wantWorld(t, w, ev, want, impl.WorldFine)
			}
		}
		for _, who := range []int{-1, impl.WhoMost, math.MinInt, math.MaxInt} {
			wantAsItWas(t, w, askEv(who, "/a"), impl.DoBad)
		}
		for _, path := range append(badPaths(), "/") {
			wantAsItWas(t, w, askEv(0, path), impl.DoBad)
		}
	}
}

// What is asked while there is no room is lost, and nobody is told; what is wrong is told as ever.
func TestEvAskWithNoRoom(t *testing.T) {
	w := worldAt(0, 0)
	w.Net = asks(impl.NetMost - 1)
	w = wantWorld(t, w, askEv(1, "/a"), with(w, func(w *impl.World) { w.Net = append(w.Net, askMsg(1, "/a")) }), impl.WorldFine)
	if len(w.Net) != impl.NetMost {
		t.Fatalf("%d messages", len(w.Net))
	}
	wantAsItWas(t, w, askEv(2, "/a"), impl.WorldFine)
	wantAsItWas(t, w, askEv(3, "/a"), impl.DoBad)
}

func TestEvWriteWithNoBars(t *testing.T) {
	quiet := worldAt(3, 4)
	lent := with(quiet, func(w *impl.World) {
		w.Leases = []impl.Lease{leaseOf(0, "/a", 1, 8), leaseOf(1, "/a/b", 2, 3), leaseOf(1, "/z", 3, 8), leaseOf(2, "/d/e/f", 4, 4)}
		w.Holds[0] = []impl.Hold{holdWith(dirAt("/a"), 1, 5)}
		w.Holds[1] = []impl.Hold{holdWith(fileAt("/a/b", "x"), 2, 3)}
		w.Net = asks(impl.NetMost)
	})
	for _, w := range []impl.World{quiet, lent} {
		for _, c := range []struct {
			op    impl.Op
			upper []impl.Mark
		}{
			{makeOp("/e"), layerWith(dirMark("/e"))},
			{makeOp("/a/c"), layerWith(dirMark("/a"), dirMark("/a/c"))},
			{putOp("/a/b", "z"), layerWith(dirMark("/a"), fileMark("/a/b", "z"))},
			{putOp("/a/b", "x"), nil},
			{putOp("/d/e", ""), layerWith(dirMark("/d"), fileMark("/d/e", ""))},
			{rmOp("/a/b"), layerWith(dirMark("/a"), goneMark("/a/b"))},
			{rmdirOp("/d"), layerWith(goneMark("/d"))},
			{moveOp("/ab", "/d/ab"), layerWith(goneMark("/ab"), dirMark("/d"), fileMark("/d/ab", "y"))},
		} {
			want := with(w, func(w *impl.World) { w.Over.Upper = c.upper })
			wantWorld(t, w, writeEv(c.op), want, impl.DoFine)
			ev := impl.Ev{Kind: impl.EvWrite, Op: c.op, Who: 9, Path: "A", At: 99}
			wantWorld(t, w, ev, want, impl.DoFine)
		}
	}
}

func TestEvWriteThatCanNotBeDone(t *testing.T) {
	w := worldAt(3, 4)
	w.Leases = []impl.Lease{leaseOf(0, "/a", 1, 8), leaseOf(0, "/q", 2, 8), leaseOf(1, "/ab", 4, 8)}
	for _, c := range []struct {
		op   impl.Op
		code int
	}{
		{makeOp("/q/r"), impl.DoNone}, {makeOp("/ab/r"), impl.DoNotDir}, {makeOp("/a"), impl.DoThere},
		{putOp("/a", ""), impl.DoIsDir}, {putOp("/q/r", ""), impl.DoNone}, {putOp("/ab/q", "x"), impl.DoNotDir},
		{rmOp("/q"), impl.DoNone}, {rmOp("/a"), impl.DoIsDir},
		{rmdirOp("/q"), impl.DoNone}, {rmdirOp("/ab"), impl.DoNotDir}, {rmdirOp("/a"), impl.DoKept},
		{moveOp("/q", "/r"), impl.DoNone}, {moveOp("/a", "/ab"), impl.DoThere}, {moveOp("/a", "/a/c"), impl.DoUnder}, {moveOp("/a", "/a"), impl.DoThere},
	} {
		wantAsItWas(t, w, writeEv(c.op), c.code)
		wantBars(t, w, c.op)
	}
	full := newWorld(overWith(filesAnd(impl.TreeMost), nil))
	full.Count, full.Leases = 1, []impl.Lease{leaseOf(0, "/a", 1, 5)}
	wantAsItWas(t, full, writeEv(makeOp("/a")), impl.DoRoom)
	wantAsItWas(t, full, writeEv(putOp("/a", "")), impl.DoRoom)
	wantBars(t, full, putOp("/a", ""))
	for _, op := range append(wrongOps(), impl.Op{}) {
		wantAsItWas(t, w, writeEv(op), impl.DoBad)
		wantBars(t, w, op)
	}
}

// While one waits no other is looked at, be it the same, one that could be done, or none that can be read.
func TestEvWriteWhileOneWaits(t *testing.T) {
	w := someWorld()
	for _, op := range append(wrongOps(), w.Op, makeOp("/e"), rmOp("/q"), impl.Op{}) {
		wantAsItWas(t, w, writeEv(op), impl.WorldBusy)
	}
}

func TestEvWriteThatWaits(t *testing.T) {
	w := worldAt(10, 8)
	w.Leases = []impl.Lease{leaseOf(2, "/a/b", 6, 15), leaseOf(0, "/q", 4, 14), leaseOf(1, "/a/b", 7, 10), leaseOf(1, "/a", 1, 11), leaseOf(0, "/a/b", 3, 11), leaseOf(1, "/z/b", 2, 12)}
	w.Net = []impl.Msg{askMsg(0, "/a")}
	for _, c := range []struct {
		op   impl.Op
		bars []int
	}{
		// The third lease is alive no more.
		{putOp("/a/b", "z"), []int{0, 4}},
		{rmOp("/a/b"), []int{0, 4}},
		{makeOp("/q"), []int{1}},
		{putOp("/q", ""), []int{1}},
		{moveOp("/ab", "/q"), []int{1}},
		{moveOp("/a", "/z"), []int{0, 3, 4, 5}},
		{moveOp("/a", "/d/z"), []int{0, 3, 4}},
	} {
		want := with(w, func(w *impl.World) { w.Waits, w.Op = true, c.op })
		var bars []impl.Lease
		for _, i := range c.bars {
			bars = append(bars, w.Leases[i])
			want.Net = append(want.Net, recallMsg(w.Leases[i].Who, w.Leases[i].Path, 8))
		}
		wantBars(t, w, c.op, bars...)
		waits := wantWorld(t, w, writeEv(c.op), want, impl.WorldWait)
		wantBars(t, waits, c.op, bars...)
		wantAsItWas(t, waits, writeEv(c.op), impl.WorldBusy)
	}
}

// What is in a directory may be turned while someone holds the directory itself, and what is beside it.
func TestWorldBarsOfOthers(t *testing.T) {
	w := worldAt(0, 9)
	w.Leases = []impl.Lease{leaseOf(0, "/a", 1, 5), leaseOf(0, "/ab", 2, 5), leaseOf(1, "/d/x", 3, 5), leaseOf(2, "/a/c/d", 4, 5)}
	for _, op := range []impl.Op{makeOp("/a/c"), putOp("/a/b", "z"), rmOp("/a/b"), makeOp("/d/xx"), putOp("/d/y", ""), moveOp("/a/b", "/q"), putOp("/ab", "y")} {
		wantBars(t, w, op)
	}
	wantBars(t, w, rmOp("/ab"), w.Leases[1])
	wantBars(t, w, moveOp("/ab", "/d/x"), w.Leases[1], w.Leases[2])
	wantBars(t, w, moveOp("/a", "/q"), w.Leases[0])
	wantBars(t, w, rmdirOp("/d"))
}

// The MsgRecalls that there is no room for are lost, the last ones first; the write waits all the same.
func TestEvWriteWithNoRoomToAskBack(t *testing.T) {
	for n := range impl.NetMost + 1 {
		w := worldAt(4, 5)
		w.Leases = []impl.Lease{leaseOf(0, "/ab", 1, 9), leaseOf(2, "/ab", 5, 8), leaseOf(1, "/ab", 2, 5)}
		w.Net = asks(n)
		sent := []impl.Msg{recallMsg(0, "/ab", 5), recallMsg(2, "/ab", 5), recallMsg(1, "/ab", 5)}
		want := with(w, func(w *impl.World) {
			w.Waits, w.Op = true, rmOp("/ab")
			w.Net = append(w.Net, sent[:min(3, impl.NetMost-n)]...)
		})
		wantWorld(t, w, writeEv(rmOp("/ab")), want, impl.WorldWait)
		again := with(want, func(w *impl.World) { w.Net = append(w.Net, sent[:min(3, impl.NetMost-len(w.Net))]...) })
		wantWorld(t, want, tryEv(), again, impl.WorldWait)
	}
}

func TestEvTry(t *testing.T) {
	for _, w := range []impl.World{worldAt(0, 0), worldAt(10000, 10000)} {
		wantAsItWas(t, w, tryEv(), impl.WorldNone)
		w.Count, w.Leases = 10000, []impl.Lease{leaseOf(0, "/ab", 1, w.Clock+5)}
		wantAsItWas(t, w, tryEv(), impl.WorldNone)
		wantAsItWas(t, w, impl.Ev{Kind: impl.EvTry, Op: rmOp("/ab"), Path: "/ab"}, impl.WorldNone)
	}
	w := someWorld()
	// Count is 8 by now, and was less when it was asked back the first time.
	w = wantWorld(t, w, tryEv(), with(w, func(w *impl.World) {
		w.Net = append(w.Net, recallMsg(0, "/a/b", 8), recallMsg(2, "/a/b", 8))
	}), impl.WorldWait)
	wantBars(t, w, w.Op, w.Leases[0], w.Leases[1])
	w = with(w, func(w *impl.World) {
		w.Leases = slices.Delete(w.Leases, 1, 2)
		w.Net = slices.Delete(w.Net, 1, 2)
	})
	w = wantWorld(t, w, tryEv(), with(w, func(w *impl.World) { w.Net = append(w.Net, recallMsg(0, "/a/b", 8)) }), impl.WorldWait)
	w = with(w, func(w *impl.World) {
		w.Leases[0].Until = 10
		w.Holds[0][0].Until = 10
	})
	wantBars(t, w, w.Op)
	done := with(w, func(w *impl.World) {
		w.Waits, w.Op = false, impl.Op{}
		w.Over.Upper = layerWith(dirMark("/a"), fileMark("/a/b", "z"))
	})
	wantWorld(t, w, tryEv(), done, impl.DoFine)
	wantWorld(t, w, impl.Ev{Kind: impl.EvTry, Op: makeOp("/e"), Who: -1, Path: "A", At: -1}, done, impl.DoFine)
	wantAsItWas(t, done, tryEv(), impl.WorldNone)
}

func TestEvTick(t *testing.T) {
	w := someWorld()
	w = wantWorld(t, w, tickEv(), with(w, func(w *impl.World) {
		w.Clock = 11
		w.Leases = slices.Delete(w.Leases, 3, 4)
	}), impl.WorldFine)
	// No lease ends at 12.
	w = wantWorld(t, w, tickEv(), with(w, func(w *impl.World) { w.Clock = 12 }), impl.WorldFine)
	w = wantWorld(t, w, impl.Ev{Kind: impl.EvTick, Who: -1, Path: "A", Op: rmOp("/ab"), At: 99}, with(w, func(w *impl.World) {
		w.Clock = 13
		w.Leases = w.Leases[1:]
	}), impl.WorldFine)
	w = wantWorld(t, w, tickEv(), with(w, func(w *impl.World) {
		w.Clock = 14
		w.Leases = slices.Delete(w.Leases, 1, 2)
	}), impl.WorldFine)
	w = wantWorld(t, w, tickEv(), with(w, func(w *impl.World) { w.Clock, w.Leases = 15, nil }), impl.WorldFine)
	if len(w.Holds[0]) != 2 || len(w.Holds[1]) != 3 || len(w.Net) != 5 || !w.Waits {
		t.Errorf("what is not a lease has ended: %v", w)
	}
	wantWorld(t, w, tickEv(), with(w, func(w *impl.World) { w.Clock = 16 }), impl.WorldFine)
}

// At its end time stands, and what is alive then stays so; what is not is gone.
func TestEvTickAtTheEnd(t *testing.T) {
	w := worldAt(9999, 10000)
	w.Leases = []impl.Lease{leaseOf(0, "/a", 1, 10001), leaseOf(1, "/a", 10000, 10004), leaseOf(2, "/a", 2, 10000)}
	w.Holds[0] = []impl.Hold{holdWith(dirAt("/a"), 1, 10001)}
	w = wantWorld(t, w, tickEv(), with(w, func(w *impl.World) {
		w.Clock = 10000
		w.Leases = w.Leases[:2]
	}), impl.WorldFine)
	wantAsItWas(t, w, tickEv(), impl.WorldFine)
	wantRead(t, w, 0, "/a", dirAt("/a"), true, true)
	w.Leases = append(w.Leases, leaseOf(2, "/a", 2, 10000), leaseOf(2, "/b", 3, 10005), leaseOf(2, "/c", 3, -1))
	wantWorld(t, w, tickEv(), with(w, func(w *impl.World) { w.Leases = slices.Delete(w.Leases, 2, 3)[:3] }), impl.WorldFine)
}

func TestPlacesOfMessages(t *testing.T) {
	for n := range impl.NetMost + 1 {
		w := worldAt(0, 3)
		w.Floors[1] = 3
		for i := range n {
			w.Net = append(w.Net, backMsg(1, "/a/b", i%4))
		}
		for at := range n {
			taken := with(w, func(w *impl.World) { w.Net = slices.Delete(w.Net, at, at+1) })
			wantWorld(t, w, giveEv(at), taken, impl.WorldFine)
			wantWorld(t, w, loseEv(at), taken, impl.WorldFine)
			wantWorld(t, w, impl.Ev{Kind: impl.EvLose, At: at, Who: -1, Path: "A", Op: rmOp("/ab")}, taken, impl.WorldFine)
			copied := with(w, func(w *impl.World) {
				if n < impl.NetMost {
					w.Net = append(w.Net, w.Net[at])
				}
			})
			wantWorld(t, w, copyEv(at), copied, impl.WorldFine)
			wantWorld(t, w, impl.Ev{Kind: impl.EvCopy, At: at, Who: -1, Path: "A", Op: rmOp("/ab")}, copied, impl.WorldFine)
		}
		for _, at := range []int{-1, n, n + 1, impl.NetMost, 99, math.MinInt, math.MaxInt} {
			wantAsItWas(t, w, giveEv(at), impl.WorldNone)
			wantAsItWas(t, w, loseEv(at), impl.WorldNone)
			wantAsItWas(t, w, copyEv(at), impl.WorldNone)
		}
	}
}

func TestEvOfNoKind(t *testing.T) {
	for _, kind := range []int{0, 8, -1, 20, 21, 22, 99, math.MinInt, math.MaxInt} {
		for _, w := range []impl.World{worldAt(0, 0), someWorld()} {
			wantAsItWas(t, w, impl.Ev{Kind: kind}, impl.DoBad)
			wantAsItWas(t, w, impl.Ev{Kind: kind, Who: 1, Path: "/a", Op: makeOp("/e")}, impl.DoBad)
		}
	}
}

func TestWorldRead(t *testing.T) {
	w := someWorld()
	wantRead(t, w, 0, "/a/b", fileAt("/a/b", "x"), true, true)
	wantRead(t, w, 0, "/q", impl.Ent{}, false, true)
	wantRead(t, w, 1, "/ab", fileAt("/ab", "y"), true, true)
	// No hold: of another one, of what is only seen, only lent, only granted, and of no path.
	wantRead(t, w, 1, "/q", impl.Ent{}, false, false)
	wantRead(t, w, 2, "/ab", impl.Ent{}, false, false)
	wantRead(t, w, 2, "/a/b", impl.Ent{}, false, false)
	wantRead(t, w, 0, "/a", impl.Ent{}, false, false)
	for _, path := range append(badPaths(), "/", "mark") {
		wantRead(t, w, 0, path, impl.Ent{}, false, false)
	}
	// No hold that is alive: the one till just now, and one till long ago.
	wantRead(t, w, 1, "/a", impl.Ent{}, false, false)
	wantRead(t, w, 1, "/d", impl.Ent{}, false, false)
	for _, who := range []int{-1, 3, 4, math.MinInt, math.MaxInt} {
		wantRead(t, w, who, "/a/b", impl.Ent{}, false, false)
		wantRead(t, w, who, "/q", impl.Ent{}, false, false)
	}
}

// A hold is alive while Clock is below Until, and no longer.
func TestWorldReadTillItsEnd(t *testing.T) {
	w := worldAt(0, 1)
	w.Leases = []impl.Lease{leaseOf(1, "/ab", 1, 5)}
	w.Holds[1] = []impl.Hold{holdWith(fileAt("/ab", "y"), 1, 3)}
	for clock := range 8 {
		w.Clock = clock
		if alive := clock < 3; alive {
			wantRead(t, w, 1, "/ab", fileAt("/ab", "y"), true, true)
		} else {
			wantRead(t, w, 1, "/ab", impl.Ent{}, false, false)
		}
		if clock < 5 {
			wantBars(t, w, rmOp("/ab"), w.Leases[0])
		} else {
			wantBars(t, w, rmOp("/ab"))
		}
	}
}
