package tests

import (
	"math"
	"strings"
	"testing"

	"loop.example/pargeting/impl"
)

// edge is one way not to be ok: a world that is just inside, and the same just outside.
type edge struct {
	inside  impl.World
	outside impl.World
}

// edgeOf turns one world in two ways.
func edgeOf(w impl.World, inside, outside func(*impl.World)) edge {
	return edge{with(w, inside), with(w, outside)}
}

// lentWorldAt has a lease and a hold, both alive, of a file, and a grant of the same.
func lentWorldAt() impl.World {
	w := worldAt(7, 9)
	w.Leases = []impl.Lease{leaseOf(1, "/ab", 6, 12)}
	w.Holds[1] = []impl.Hold{holdWith(fileAt("/ab", "y"), 6, 12)}
	w.Net = []impl.Msg{grantMsg(1, holdWith(fileAt("/ab", "y"), 6, 12))}
	w.Floors[1] = 5
	return w
}

func timeEdges() []edge {
	return []edge{
		edgeOf(worldAt(0, 0), nothing, func(w *impl.World) { w.Clock = -1 }),
		edgeOf(worldAt(0, 0), nothing, func(w *impl.World) { w.Clock = math.MinInt }),
		edgeOf(worldAt(10000, 0), nothing, func(w *impl.World) { w.Clock = 10001 }),
		edgeOf(worldAt(10000, 0), nothing, func(w *impl.World) { w.Clock = math.MaxInt }),
		edgeOf(worldAt(0, 10000), nothing, func(w *impl.World) { w.Count = 10001 }),
		edgeOf(worldAt(0, 10000), nothing, func(w *impl.World) { w.Count = math.MaxInt }),
		edgeOf(worldAt(0, 0), nothing, func(w *impl.World) { w.Holds = w.Holds[:2] }),
		edgeOf(worldAt(0, 0), nothing, func(w *impl.World) { w.Holds = append(w.Holds, nil) }),
		edgeOf(worldAt(0, 0), nothing, func(w *impl.World) { w.Holds = nil }),
		edgeOf(worldAt(0, 0), nothing, func(w *impl.World) { w.Holds = make([][]impl.Hold, 1000) }),
		edgeOf(worldAt(0, 0), nothing, func(w *impl.World) { w.Floors = w.Floors[:2] }),
		edgeOf(worldAt(0, 0), nothing, func(w *impl.World) { w.Floors = append(w.Floors, 0) }),
		edgeOf(worldAt(0, 0), nothing, func(w *impl.World) { w.Floors = nil }),
		edgeOf(worldAt(0, 0), nothing, func(w *impl.World) { w.Floors = make([]int, 1000) }),
		edgeOf(worldAt(0, 7), func(w *impl.World) { w.Floors = []int{7, 0, 7} }, func(w *impl.World) { w.Floors = []int{7, 0, 8} }),
		edgeOf(worldAt(0, 7), func(w *impl.World) { w.Floors[0] = 0 }, func(w *impl.World) { w.Floors[0] = -1 }),
		edgeOf(worldAt(0, 7), func(w *impl.World) { w.Floors[1] = 7 }, func(w *impl.World) { w.Floors[1] = math.MaxInt }),
		edgeOf(worldAt(9, 0), nothing, func(w *impl.World) { w.Floors[2] = 1 }),
	}
}

func netEdges() []edge {
	edges := []edge{
		edgeOf(worldAt(0, 9), func(w *impl.World) { w.Net = asks(12) }, func(w *impl.World) { w.Net = asks(13) }),
		edgeOf(worldAt(0, 9), func(w *impl.World) { w.Net = asks(12) }, func(w *impl.World) { w.Net = asks(1000) }),
	}
	full := worldAt(7, 9)
	full.Floors = []int{9, 9, 9}
	for _, m := range []impl.Msg{askMsg(1, "/ab"), grantMsg(1, holdWith(fileAt("/ab", "y"), 6, 12)), recallMsg(1, "/ab", 6), backMsg(1, "/ab", 6)} {
		in := func(turn func(m *impl.Msg)) func(*impl.World) {
			return func(w *impl.World) {
				m := m
				turn(&m)
				w.Net = []impl.Msg{askMsg(0, "/a"), m}
			}
		}
		edges = append(edges,
			edgeOf(full, in(func(m *impl.Msg) { m.Who = 0 }), in(func(m *impl.Msg) { m.Who = -1 })),
			edgeOf(full, in(func(m *impl.Msg) { m.Who = 2 }), in(func(m *impl.Msg) { m.Who = 3 })),
			edgeOf(full, in(func(m *impl.Msg) {}), in(func(m *impl.Msg) { m.Who = math.MaxInt })),
			edgeOf(full, in(func(m *impl.Msg) { m.Hold.Num = 0 }), in(func(m *impl.Msg) { m.Hold.Num = -1 })),
			edgeOf(full, in(func(m *impl.Msg) { m.Hold.Num = 9 }), in(func(m *impl.Msg) { m.Hold.Num = 10 })),
			edgeOf(full, in(func(m *impl.Msg) { m.Hold.Path = "/abc" }), in(func(m *impl.Msg) { m.Hold.Path = "/abcd" })),
			edgeOf(full, in(func(m *impl.Msg) { m.Hold.Path = "/a/b/c" }), in(func(m *impl.Msg) { m.Hold.Path = "/a/b/c/d" })),
		)
		for _, path := range append(badPaths(), "/") {
			edges = append(edges, edgeOf(full, in(func(m *impl.Msg) {}), in(func(m *impl.Msg) { m.Hold.Path = path })))
		}
		for _, kind := range []int{0, 5, -1, math.MinInt, math.MaxInt} {
			edges = append(edges, edgeOf(full, in(func(m *impl.Msg) {}), in(func(m *impl.Msg) { m.Kind = kind })))
		}
		if m.Kind == impl.MsgGrant {
			continue
		}
		for _, turn := range []func(*impl.Msg){
			func(m *impl.Msg) { m.Hold.Has = true },
			func(m *impl.Msg) { m.Hold.Ent = fileAt("/ab", "y") },
			func(m *impl.Msg) { m.Hold.Ent.Path = "/" },
			func(m *impl.Msg) { m.Hold.Ent.Dir = true },
			func(m *impl.Msg) { m.Hold.Ent.Data = "y" },
			func(m *impl.Msg) { m.Hold.Until = 1 },
			func(m *impl.Msg) { m.Hold.Until = -1 },
			func(m *impl.Msg) { m.Hold.Until = 12 },
		} {
			edges = append(edges, edgeOf(full, in(func(m *impl.Msg) {}), in(turn)))
		}
	}
	return edges
}

func leaseEdges() []edge {
	at := func(leases ...impl.Lease) func(*impl.World) {
		return func(w *impl.World) { w.Leases = leases }
	}
	w := worldAt(7, 9)
	edges := []edge{
		edgeOf(w, at(leaseOf(0, "/a", 1, 9)), at(leaseOf(-1, "/a", 1, 9))),
		edgeOf(w, at(leaseOf(2, "/a", 1, 9)), at(leaseOf(3, "/a", 1, 9))),
		edgeOf(w, at(leaseOf(2, "/a", 1, 9)), at(leaseOf(math.MinInt, "/a", 1, 9))),
		edgeOf(w, at(leaseOf(0, "/a", 1, 9)), at(leaseOf(0, "/a", 0, 9))),
		edgeOf(w, at(leaseOf(0, "/a", 1, 9)), at(leaseOf(0, "/a", -1, 9))),
		edgeOf(w, at(leaseOf(0, "/a", 9, 9)), at(leaseOf(0, "/a", 10, 9))),
		edgeOf(w, at(leaseOf(0, "/a", 1, 12)), at(leaseOf(0, "/a", 1, 13))),
		edgeOf(w, at(leaseOf(0, "/a", 1, math.MinInt)), at(leaseOf(0, "/a", 1, math.MaxInt))),
		edgeOf(worldAt(10000, 9), at(leaseOf(0, "/a", 1, 10005)), at(leaseOf(0, "/a", 1, 10006))),
		edgeOf(worldAt(0, 9), at(leaseOf(0, "/a", 1, 5)), at(leaseOf(0, "/a", 1, 6))),
		edgeOf(w, at(leaseOf(0, "/a", 1, 9), leaseOf(1, "/a", 1, 9)), at(leaseOf(0, "/a", 1, 9), leaseOf(0, "/a", 1, 9))),
		edgeOf(w, at(leaseOf(0, "/a", 1, 9), leaseOf(0, "/ab", 1, 9)), at(leaseOf(0, "/a", 1, 9), leaseOf(0, "/a", 2, 10))),
		edgeOf(w, at(leaseOf(1, "/a", 1, 2), leaseOf(0, "/q", 2, 9), leaseOf(0, "/a", 3, 12)), at(leaseOf(1, "/a", 1, 2), leaseOf(0, "/q", 2, 9), leaseOf(1, "/a", 3, 12))),
	}
	for _, path := range append(badPaths(), "/") {
		edges = append(edges, edgeOf(w, at(leaseOf(1, "/a", 1, 9)), at(leaseOf(1, path, 1, 9))))
	}
	return edges
}

// holdEdges are of holds that are alive no more, of which nothing is asked but these.
func holdEdges() []edge {
	at := func(who int, holds ...impl.Hold) func(*impl.World) {
		return func(w *impl.World) { w.Holds[who] = holds }
	}
	w := worldAt(7, 9)
	edges := []edge{
		edgeOf(w, at(0, holdNone("/a", 0, 7)), at(0, holdNone("/a", -1, 7))),
		edgeOf(w, at(2, holdNone("/a", 9, 0)), at(2, holdNone("/a", 10, 0))),
		edgeOf(w, at(1, holdNone("/a", 9, -1)), at(1, holdNone("/a", math.MaxInt, -1))),
		edgeOf(w, at(1, holdNone("/a", 1, 2), holdNone("/ab", 1, 2)), at(1, holdNone("/a", 1, 2), holdNone("/a", 1, 2))),
		edgeOf(w, at(1, holdNone("/q", 1, 2), holdNone("/a", 1, 2), holdNone("/ab", 1, 2)), at(1, holdNone("/q", 1, 2), holdNone("/a", 1, 2), holdWith(dirAt("/q"), 3, 4))),
		// What is held no more may be anything.
		edgeOf(w, at(0, impl.Hold{Path: "/a", Has: true, Ent: fileAt(strings.Repeat("\xff", 1000), "!!"), Num: 9, Until: 7}), at(0, impl.Hold{Path: "/a", Has: true, Ent: fileAt(strings.Repeat("\xff", 1000), "!!"), Num: 9, Until: 8})),
	}
	for _, path := range append(badPaths(), "/") {
		edges = append(edges, edgeOf(w, at(1, holdNone("/a", 1, 2)), at(1, holdNone(path, 1, 2))))
	}
	return edges
}

func waitEdges() []edge {
	w := worldAt(7, 9)
	op := func(op impl.Op) func(*impl.World) {
		return func(w *impl.World) { w.Waits, w.Op = true, op }
	}
	edges := []edge{
		edgeOf(w, nothing, func(w *impl.World) { w.Op = putOp("/ab", "z") }),
		edgeOf(w, nothing, func(w *impl.World) { w.Op.Data = "z" }),
		edgeOf(w, nothing, func(w *impl.World) { w.Op.To = "/a" }),
		edgeOf(w, op(putOp("/ab", "z")), op(impl.Op{})),
		edgeOf(w, op(putOp("/ab", "y")), op(putOp("/a", "y"))),
		edgeOf(w, op(rmOp("/ab")), op(rmOp("/q"))),
		edgeOf(w, op(makeOp("/d/e")), op(makeOp("/ab/e"))),
		edgeOf(w, op(rmdirOp("/d")), op(rmdirOp("/a"))),
		edgeOf(w, op(moveOp("/a", "/d/a")), op(moveOp("/a", "/a/d"))),
	}
	for _, wrong := range wrongOps() {
		edges = append(edges, edgeOf(w, nothing, op(wrong)))
	}
	return edges
}

// soEdges are of what is held, and of what is granted, alike.
func soEdges() []edge {
	var edges []edge
	for _, place := range []func(w *impl.World) *impl.Hold{
		func(w *impl.World) *impl.Hold { return &w.Holds[1][0] },
		func(w *impl.World) *impl.Hold { return &w.Net[0].Hold },
	} {
		of := func(turn func(held *impl.Hold)) func(*impl.World) {
			return func(w *impl.World) { turn(place(w)) }
		}
		w := lentWorldAt()
		edges = append(edges,
			edgeOf(w, nothing, of(func(held *impl.Hold) { held.Has = false })),
			edgeOf(w, nothing, of(func(held *impl.Hold) { held.Has, held.Ent = false, impl.Ent{} })),
			edgeOf(w, nothing, of(func(held *impl.Hold) { held.Ent = impl.Ent{} })),
			edgeOf(w, nothing, of(func(held *impl.Hold) { held.Ent.Data = "x" })),
			edgeOf(w, nothing, of(func(held *impl.Hold) { held.Ent.Path = "/a/b" })),
			edgeOf(w, nothing, of(func(held *impl.Hold) { held.Ent = dirAt("/ab") })),
			// No lease of that path, and none of that one.
			edgeOf(w, nothing, of(func(held *impl.Hold) { *held = holdWith(dirAt("/d"), 6, 12) })),
			edgeOf(w, nothing, of(func(held *impl.Hold) { *held = holdNone("/q", 6, 12) })),
			edgeOf(w, of(func(held *impl.Hold) { held.Num = 6 }), of(func(held *impl.Hold) { held.Num = 7 })),
			edgeOf(w, of(func(held *impl.Hold) { held.Until = 12 }), of(func(held *impl.Hold) { held.Until = 13 })),
			edgeOf(w, of(func(held *impl.Hold) { held.Until = 8 }), of(func(held *impl.Hold) { held.Until = math.MaxInt })),
			// What is alive no more is not looked at: just so, and one more.
			edgeOf(w, of(func(held *impl.Hold) { held.Until, held.Ent.Data = 7, "x" }), of(func(held *impl.Hold) { held.Until, held.Ent.Data = 8, "x" })),
		)
		// A hold of nothing, where nothing is.
		none := with(w, func(w *impl.World) { w.Leases = append(w.Leases, leaseOf(1, "/q", 6, 12)) })
		edges = append(edges,
			edgeOf(none, of(func(held *impl.Hold) { *held = holdNone("/q", 6, 12) }), of(func(held *impl.Hold) { *held = holdWith(fileAt("/q", ""), 6, 12) })),
			edgeOf(none, of(func(held *impl.Hold) { *held = holdNone("/q", 6, 12) }), of(func(held *impl.Hold) { *held = holdNone("/q", 6, 12); held.Ent.Path = "/q" })),
			edgeOf(none, of(func(held *impl.Hold) { *held = holdNone("/q", 6, 12) }), of(func(held *impl.Hold) { *held = holdNone("/q", 6, 12); held.Has = true })),
		)
	}
	return append(edges, soLeaseEdges()...)
}

func soLeaseEdges() []edge {
	held := with(lentWorldAt(), func(w *impl.World) { w.Net = nil })
	granted := with(lentWorldAt(), func(w *impl.World) { w.Holds[1] = nil })
	var edges []edge
	for _, w := range []impl.World{held, granted} {
		edges = append(edges,
			edgeOf(w, nothing, func(w *impl.World) { w.Leases = nil }),
			edgeOf(w, nothing, func(w *impl.World) { w.Leases[0].Who = 0 }),
			edgeOf(w, nothing, func(w *impl.World) { w.Leases[0].Path = "/a" }),
			edgeOf(w, nothing, func(w *impl.World) { w.Leases[0].Num = 5 }),
			edgeOf(w, func(w *impl.World) { w.Leases[0].Num = 9 }, func(w *impl.World) { w.Leases[0].Num = 1 }),
			edgeOf(w, nothing, func(w *impl.World) { w.Leases[0].Until = 11 }),
			edgeOf(w, nothing, func(w *impl.World) { w.Leases[0].Until = 7 }),
			// What is seen is turned beneath it, or on it.
			edgeOf(w, nothing, func(w *impl.World) { w.Over.Base[2].Data = "z" }),
			edgeOf(w, nothing, func(w *impl.World) { w.Over.Layers = [][]impl.Mark{layerWith(goneMark("/ab"))} }),
			edgeOf(w, func(w *impl.World) { w.Over.Upper = layerWith(fileMark("/abc", "z")) }, func(w *impl.World) { w.Over.Upper = layerWith(fileMark("/ab", "z")) }),
		)
	}
	// What is granted is looked at while its Num is above the Floor of the one whom it is to.
	return append(edges,
		edgeOf(granted, func(w *impl.World) { w.Leases, w.Floors[1] = nil, 6 }, func(w *impl.World) { w.Leases, w.Floors[1] = nil, 5 }),
		edgeOf(granted, func(w *impl.World) { w.Net[0].Hold.Ent.Data, w.Floors[1] = "z", 6 }, func(w *impl.World) { w.Net[0].Hold.Ent.Data, w.Floors = "z", []int{9, 5, 9} }),
		edgeOf(granted, func(w *impl.World) { w.Net[0].Hold.Num, w.Leases[0].Num = 7, 7 }, func(w *impl.World) { w.Net[0].Hold.Num, w.Leases[0].Num = 7, 6 }),
		// What is held is looked at whatever the Floor.
		edgeOf(held, func(w *impl.World) { w.Floors[1] = 9 }, func(w *impl.World) { w.Floors[1], w.Leases = 9, nil }),
	)
}

func backEdges() []edge {
	w := lentWorldAt()
	w.Net = nil
	at := func(m impl.Msg) func(*impl.World) {
		return func(w *impl.World) { w.Net = []impl.Msg{m} }
	}
	dead := with(w, func(w *impl.World) {
		w.Leases, w.Floors[1] = nil, 9
		w.Holds[1] = []impl.Hold{holdNone("/q", 6, 0)}
	})
	return []edge{
		// Above the Floor, with no hold of that path.
		edgeOf(w, at(backMsg(1, "/q", 5)), at(backMsg(1, "/q", 6))),
		edgeOf(w, at(backMsg(0, "/q", 0)), at(backMsg(0, "/q", 1))),
		edgeOf(with(w, func(w *impl.World) { w.Floors = []int{5, 9, 9} }), at(backMsg(0, "/a", 5)), at(backMsg(0, "/a", 6))),
		// Beside a hold of that path, alive or not; those of another path, or one, are of no matter.
		edgeOf(with(w, func(w *impl.World) { w.Floors[1] = 9 }), at(backMsg(1, "/ab", 5)), at(backMsg(1, "/ab", 6))),
		edgeOf(with(w, func(w *impl.World) { w.Floors[1] = 9 }), at(backMsg(1, "/a", 6)), at(backMsg(1, "/ab", 7))),
		edgeOf(with(w, func(w *impl.World) { w.Floors = []int{9, 9, 9} }), at(backMsg(2, "/ab", 9)), at(backMsg(1, "/ab", 9))),
		edgeOf(dead, at(backMsg(1, "/q", 5)), at(backMsg(1, "/q", 6))),
		edgeOf(dead, at(backMsg(1, "/qq", 9)), at(backMsg(1, "/q", 9))),
	}
}

func allEdges() []edge {
	var edges []edge
	for _, some := range [][]edge{timeEdges(), netEdges(), leaseEdges(), holdEdges(), waitEdges(), soEdges(), backEdges()} {
		edges = append(edges, some...)
	}
	return edges
}

// wantNoWorld is for what is not ok: the one fixed answer of each function.
func wantNoWorld(t *testing.T, w impl.World) {
	t.Helper()
	if worldOk(t, w) {
		t.Errorf("WorldOk(%v) = true", brief(w))
	}
	for who := -1; who <= 3; who++ {
		for _, path := range []string{"/ab", "/a", "/q", "", "/"} {
			wantRead(t, w, who, path, impl.Ent{}, false, false)
		}
	}
	for _, op := range []impl.Op{putOp("/ab", "z"), rmOp("/ab"), moveOp("/a", "/q"), makeOp("/q"), {}, putOp("/A", "")} {
		wantBars(t, w, op)
	}
	for _, ev := range []impl.Ev{askEv(0, "/a"), askEv(9, "/a"), writeEv(putOp("/ab", "z")), writeEv(impl.Op{}), tryEv(), tickEv(), giveEv(0), giveEv(1), giveEv(-1), loseEv(0), copyEv(0), {}, {Kind: 8}} {
		if got, code := worldDo(t, w, ev); !alikeWorlds(got, impl.World{}) || code != impl.DoBad {
			t.Errorf("WorldDo(%v, %v) = %v, %d; want nothing, %d", brief(w), ev, brief(got), code, impl.DoBad)
		}
	}
}

func TestWorldEdges(t *testing.T) {
	t.Parallel()
	for _, e := range allEdges() {
		allIsSo(t, e.inside)
		wantNoWorld(t, e.outside)
		if worldSame(t, e.inside, e.outside) || !worldSame(t, e.outside, copyWorld(e.outside)) || worldSame(t, e.outside, impl.World{}) {
			t.Errorf("WorldSame of %v and %v", brief(e.inside), brief(e.outside))
		}
	}
}

func TestWorldOfBrokenOver(t *testing.T) {
	t.Parallel()
	for i, o := range brokenOvers() {
		w := newWorld(o)
		if worldOk(t, w) {
			t.Errorf("WorldOk(%v) = true", brief(w))
		}
		// All that is asked of one is asked of some of them, as there are so many.
		if i%9 == 0 {
			wantNoWorld(t, w)
		}
		if got, codes := worldPlay(t, o, []impl.Ev{askEv(0, "/a"), tickEv()}); !alikeWorlds(got, impl.World{}) || len(codes) != 0 {
			t.Errorf("WorldPlay(%v) = %v, %v; want nothing, none", brief(o), brief(got), codes)
		}
		if got, codes := worldPlay(t, o, nil); !alikeWorlds(got, impl.World{}) || len(codes) != 0 {
			t.Errorf("WorldPlay(%v) = %v, %v; want nothing, none", brief(o), brief(got), codes)
		}
	}
}

func TestWorldOfNothing(t *testing.T) {
	wantNoWorld(t, impl.World{})
	wantNoWorld(t, impl.World{Holds: make([][]impl.Hold, 3)})
	wantNoWorld(t, impl.World{Floors: make([]int, 3)})
	allIsSo(t, impl.World{Holds: make([][]impl.Hold, 3), Floors: make([]int, 3)})
}

// There may be as many leases and holds as there are paths; each is found.
func TestWorldOfVeryMany(t *testing.T) {
	w := worldAt(7, 9)
	for i, a := range manyNames(200) {
		for _, b := range manyNames(20) {
			path := "/" + a + "/" + b
			w.Leases = append(w.Leases, leaseOf(i%3, path, 1+i%9, 8+i%5))
			w.Holds[i%3] = append(w.Holds[i%3], holdNone(path, i%2, 8))
		}
	}
	allIsSo(t, with(w, func(w *impl.World) { w.Holds = make([][]impl.Hold, 3) }))
	if !worldOk(t, w) {
		t.Fatal("WorldOk = false")
	}
	last := w.Leases[len(w.Leases)-1]
	wantRead(t, w, last.Who, last.Path, impl.Ent{}, false, true)
	wantWorld(t, with(w, func(w *impl.World) { w.Holds = make([][]impl.Hold, 3) }), askEv(0, "/a"), with(w, func(w *impl.World) {
		w.Holds = make([][]impl.Hold, 3)
		w.Net = []impl.Msg{askMsg(0, "/a")}
	}), impl.WorldFine)
	wantNoWorld(t, with(w, func(w *impl.World) { w.Leases = append(w.Leases, last) }))
	wantNoWorld(t, with(w, func(w *impl.World) { w.Leases = w.Leases[:len(w.Leases)-1] }))
	wantNoWorld(t, with(w, func(w *impl.World) {
		w.Holds[last.Who] = append(w.Holds[last.Who], holdNone(last.Path, 0, 0))
	}))
}
