package tests

import (
	"slices"
	"testing"

	"loop.example/pargeting/impl"
)

// givenAt is a world in which just one message is under way.
func givenAt(w impl.World, m impl.Msg) impl.World {
	return with(w, func(w *impl.World) { w.Net = []impl.Msg{m} })
}

// wantGiven is for a message that is given: all that it turns.
func wantGiven(t *testing.T, w impl.World, m impl.Msg, turn func(*impl.World)) impl.World {
	t.Helper()
	w = givenAt(w, m)
	return wantWorld(t, w, giveEv(0), with(w, func(w *impl.World) {
		w.Net = nil
		turn(w)
	}), impl.WorldFine)
}

func nothing(*impl.World) {}

func TestGivenAsk(t *testing.T) {
	w := worldAt(7, 4)
	w.Leases = []impl.Lease{leaseOf(0, "/a", 2, 9), leaseOf(1, "/ab", 4, 12)}
	for _, c := range []struct {
		path string
		held impl.Hold
	}{
		{"/a", holdWith(dirAt("/a"), 5, 12)},
		{"/a/b", holdWith(fileAt("/a/b", "x"), 5, 12)},
		{"/ab", holdWith(fileAt("/ab", "y"), 5, 12)},
		{"/q", holdNone("/q", 5, 12)},
		{"/a/b/c", holdNone("/a/b/c", 5, 12)},
	} {
		wantGiven(t, w, askMsg(2, c.path), func(w *impl.World) {
			w.Count = 5
			w.Leases = append(w.Leases, leaseOf(2, c.path, 5, 12))
			w.Net = []impl.Msg{grantMsg(2, c.held)}
		})
	}
	// The Num of what is asked is of no matter.
	m := askMsg(0, "/d")
	m.Hold.Num = 4
	wantGiven(t, w, m, func(w *impl.World) {
		w.Count = 5
		w.Leases = append(w.Leases, leaseOf(0, "/d", 5, 12))
		w.Net = []impl.Msg{grantMsg(0, holdWith(dirAt("/d"), 5, 12))}
	})
}

// What is granted is what is seen now, not what was when it was asked for.
func TestGivenAskBehindAWrite(t *testing.T) {
	w := playOn(t, newWorld(overWith(readTree(), nil)), askEv(0, "/ab"), writeEv(putOp("/ab", "new")), giveEv(0))
	if want := []impl.Msg{grantMsg(0, holdWith(fileAt("/ab", "new"), 1, 5))}; !slices.Equal(w.Net, want) {
		t.Errorf("%v is under way; want %v", w.Net, want)
	}
	w = playOn(t, newWorld(overWith(readTree(), nil)), askEv(0, "/ab"), writeEv(rmOp("/ab")), giveEv(0))
	if want := []impl.Msg{grantMsg(0, holdNone("/ab", 1, 5))}; !slices.Equal(w.Net, want) {
		t.Errorf("%v is under way; want %v", w.Net, want)
	}
}

// A second lease of the same one and path comes behind all, and the first is no more; those of others stay.
func TestGivenAskOnceMore(t *testing.T) {
	w := worldAt(7, 4)
	w.Leases = []impl.Lease{leaseOf(0, "/a", 2, 9), leaseOf(1, "/a", 3, 11), leaseOf(0, "/ab", 4, 12)}
	w.Holds[0] = []impl.Hold{holdWith(dirAt("/a"), 2, 9)}
	next := wantGiven(t, w, askMsg(0, "/a"), func(w *impl.World) {
		w.Count = 5
		w.Leases = []impl.Lease{leaseOf(1, "/a", 3, 11), leaseOf(0, "/ab", 4, 12), leaseOf(0, "/a", 5, 12)}
		w.Net = []impl.Msg{grantMsg(0, holdWith(dirAt("/a"), 5, 12))}
	})
	wantBars(t, next, moveOp("/a", "/e"), leaseOf(1, "/a", 3, 11), leaseOf(0, "/a", 5, 12))
	wantGiven(t, w, askMsg(0, "/ab"), func(w *impl.World) {
		w.Count = 5
		w.Leases[2] = leaseOf(0, "/ab", 5, 12)
		w.Net = []impl.Msg{grantMsg(0, holdWith(fileAt("/ab", "y"), 5, 12))}
	})
	// One that is alive no more is a lease that they have, too.
	w.Clock = 10
	wantGiven(t, w, askMsg(0, "/a"), func(w *impl.World) {
		w.Count = 5
		w.Leases = append(w.Leases[1:], leaseOf(0, "/a", 5, 15))
		w.Net = []impl.Msg{grantMsg(0, holdWith(dirAt("/a"), 5, 15))}
	})
}

// While a write waits, nothing of what it turns is lent: not what is gone by it, nor what comes by it.
func TestGivenAskWhileOneWaits(t *testing.T) {
	w := worldAt(7, 4)
	w.Leases = []impl.Lease{leaseOf(0, "/a/b", 2, 9)}
	w.Waits, w.Op = true, moveOp("/a", "/q")
	for who := range impl.WhoMost {
		for _, path := range []string{"/a", "/a/b", "/q", "/q/b"} {
			wantGiven(t, w, askMsg(who, path), nothing)
		}
		for path, held := range map[string]impl.Hold{"/ab": holdWith(fileAt("/ab", "y"), 5, 12), "/a/c": holdNone("/a/c", 5, 12), "/q/a": holdNone("/q/a", 5, 12), "/d": holdWith(dirAt("/d"), 5, 12)} {
			wantGiven(t, w, askMsg(who, path), func(w *impl.World) {
				w.Count = 5
				w.Leases = append(w.Leases, leaseOf(who, path, 5, 12))
				w.Net = []impl.Msg{grantMsg(who, held)}
			})
		}
	}
}

func TestGivenAskAtTheEndOfNumbers(t *testing.T) {
	w := worldAt(10000, 9999)
	w = wantGiven(t, w, askMsg(0, "/d"), func(w *impl.World) {
		w.Count = 10000
		w.Leases = []impl.Lease{leaseOf(0, "/d", 10000, 10005)}
		w.Net = []impl.Msg{grantMsg(0, holdWith(dirAt("/d"), 10000, 10005))}
	})
	w = playOn(t, w, giveEv(0))
	wantRead(t, w, 0, "/d", dirAt("/d"), true, true)
	wantGiven(t, w, askMsg(0, "/d"), nothing)
	wantGiven(t, w, askMsg(1, "/q"), nothing)
	w.Waits, w.Op = true, rmdirOp("/d")
	wantGiven(t, w, askMsg(1, "/q"), nothing)
	wantGiven(t, w, askMsg(1, "/d"), nothing)
}

func TestGivenGrant(t *testing.T) {
	w := worldAt(7, 9)
	w.Leases = []impl.Lease{leaseOf(1, "/ab", 6, 12), leaseOf(1, "/q", 5, 11)}
	w.Holds[1] = []impl.Hold{holdNone("/q", 4, 9)}
	w.Floors[1] = 3
	have := []impl.Hold{holdNone("/q", 4, 9)}
	// What the lease stands for, and less than that.
	for _, held := range []impl.Hold{holdWith(fileAt("/ab", "y"), 6, 12), holdWith(fileAt("/ab", "y"), 4, 8)} {
		next := wantGiven(t, w, grantMsg(1, held), func(w *impl.World) { w.Holds[1] = append(have, held) })
		wantRead(t, next, 1, "/ab", fileAt("/ab", "y"), true, true)
	}
	// Another one's Floor is of no matter.
	w.Floors = []int{9, 3, 9}
	wantGiven(t, w, grantMsg(1, holdNone("/q", 5, 11)), func(w *impl.World) { w.Holds[1] = []impl.Hold{holdNone("/q", 5, 11)} })
}

// What is granted comes behind what is asked back: its Num is not above the Floor, and nothing is held, nor looked at.
func TestGivenGrantBehindARecall(t *testing.T) {
	w := worldAt(7, 9)
	w.Floors[1] = 6
	w.Holds[1] = []impl.Hold{holdNone("/q", 0, 3)}
	for _, num := range []int{0, 5, 6} {
		next := wantGiven(t, w, grantMsg(1, holdWith(fileAt("/ab", "no more so"), num, 12)), nothing)
		wantRead(t, next, 1, "/ab", impl.Ent{}, false, false)
		wantGiven(t, w, grantMsg(1, holdNone("/q", num, 9000)), nothing)
	}
	w.Leases = []impl.Lease{leaseOf(1, "/ab", 7, 12)}
	wantGiven(t, w, grantMsg(1, holdWith(fileAt("/ab", "y"), 6, 12)), nothing)
	wantGiven(t, w, grantMsg(1, holdWith(fileAt("/ab", "y"), 7, 12)), func(w *impl.World) {
		w.Holds[1] = append(w.Holds[1], holdWith(fileAt("/ab", "y"), 7, 12))
	})
}

// A grant whose time is over does nothing; one more, and it is held.
func TestGivenGrantThatIsLate(t *testing.T) {
	w := worldAt(7, 9)
	w.Leases = []impl.Lease{leaseOf(1, "/ab", 6, 12)}
	for _, until := range []int{-1, 0, 6, 7} {
		next := wantGiven(t, w, grantMsg(1, holdWith(fileAt("/ab", "old"), 6, until)), nothing)
		wantRead(t, next, 1, "/ab", impl.Ent{}, false, false)
	}
	held := holdWith(fileAt("/ab", "y"), 6, 8)
	wantGiven(t, w, grantMsg(1, held), func(w *impl.World) { w.Holds[1] = []impl.Hold{held} })
}

// A grant with a Num below, the same as, and above that of the hold that is there, be that alive or not.
func TestGivenGrantBesideAHold(t *testing.T) {
	for _, until := range []int{6, 7, 8, 12} {
		w := worldAt(7, 9)
		w.Leases = []impl.Lease{leaseOf(1, "/ab", 9, 12), leaseOf(1, "/a", 9, 12), leaseOf(0, "/ab", 9, 12)}
		there := holdWith(fileAt("/ab", "y"), 5, until)
		w.Holds[0] = []impl.Hold{holdWith(fileAt("/ab", "y"), 2, 12)}
		w.Holds[1] = []impl.Hold{holdWith(dirAt("/a"), 2, 9), there, holdNone("/z", 8, 1)}
		for num := 1; num < 10; num++ {
			held := holdWith(fileAt("/ab", "y"), num, 11)
			wantGiven(t, w, grantMsg(1, held), func(w *impl.World) {
				if num > 5 {
					w.Holds[1] = []impl.Hold{w.Holds[1][0], w.Holds[1][2], held}
				}
			})
		}
	}
}

// A recall with a Num below, the same as, and above that of the hold; and of a path that is not held, and of nothing.
func TestGivenRecall(t *testing.T) {
	for _, until := range []int{7, 12} {
		w := worldAt(7, 9)
		w.Leases = []impl.Lease{leaseOf(1, "/ab", 9, 12), leaseOf(1, "/a", 9, 12), leaseOf(0, "/ab", 9, 12)}
		w.Holds[0] = []impl.Hold{holdWith(fileAt("/ab", "y"), 2, 12)}
		w.Holds[1] = []impl.Hold{holdWith(dirAt("/a"), 2, 9), holdWith(fileAt("/ab", "y"), 5, until), holdNone("/z", 3, 1)}
		w.Floors = []int{1, 4, 2}
		for num := range 10 {
			next := wantGiven(t, w, recallMsg(1, "/ab", num), func(w *impl.World) {
				if num >= 5 {
					w.Holds[1] = []impl.Hold{w.Holds[1][0], w.Holds[1][2]}
				}
				w.Floors[1] = max(4, num)
				w.Net = []impl.Msg{backMsg(1, "/ab", num)}
			})
			wantRead(t, next, 1, "/a", dirAt("/a"), true, true)
			wantGiven(t, w, recallMsg(2, "/ab", num), func(w *impl.World) {
				w.Floors[2] = max(2, num)
				w.Net = []impl.Msg{backMsg(2, "/ab", num)}
			})
			wantGiven(t, w, recallMsg(1, "/q", num), func(w *impl.World) {
				w.Floors[1] = max(4, num)
				w.Net = []impl.Msg{backMsg(1, "/q", num)}
			})
		}
	}
}

// A back with a Num below, the same as, and above that of the lease; and where there is none.
func TestGivenBack(t *testing.T) {
	w := worldAt(7, 9)
	w.Leases = []impl.Lease{leaseOf(0, "/ab", 4, 12), leaseOf(1, "/a", 4, 12), leaseOf(1, "/ab", 5, 11), leaseOf(1, "/abc", 3, 12), leaseOf(2, "/ab", 2, 7)}
	w.Floors = []int{9, 9, 9}
	for num := range 10 {
		next := wantGiven(t, w, backMsg(1, "/ab", num), func(w *impl.World) {
			if num >= 5 {
				w.Leases = slices.Delete(w.Leases, 2, 3)
			}
		})
		// What is given back twice takes no more away.
		wantGiven(t, next, backMsg(1, "/ab", num), nothing)
		wantGiven(t, w, backMsg(1, "/q", num), nothing)
		wantGiven(t, w, backMsg(1, "/a/b", num), nothing)
		wantGiven(t, w, backMsg(2, "/a", num), nothing)
		wantGiven(t, w, backMsg(2, "/ab", num), func(w *impl.World) {
			if num >= 2 {
				w.Leases = w.Leases[:4]
			}
		})
	}
	// A hold that came with a greater Num stays, and so does its lease.
	w.Floors[1] = 4
	w.Holds[1] = []impl.Hold{holdWith(fileAt("/ab", "y"), 5, 11)}
	wantGiven(t, w, backMsg(1, "/ab", 4), nothing)
}

// Of several the one that is given is taken from where it is, and what it sends comes behind the others.
func TestGivenAmongOthers(t *testing.T) {
	w := worldAt(7, 9)
	w.Net = []impl.Msg{askMsg(0, "/d"), recallMsg(1, "/a", 3), askMsg(2, "/q"), askMsg(0, "/ab")}
	wantWorld(t, w, giveEv(1), with(w, func(w *impl.World) {
		w.Floors[1] = 3
		w.Net = []impl.Msg{askMsg(0, "/d"), askMsg(2, "/q"), askMsg(0, "/ab"), backMsg(1, "/a", 3)}
	}), impl.WorldFine)
	wantWorld(t, w, giveEv(2), with(w, func(w *impl.World) {
		w.Count, w.Leases = 10, []impl.Lease{leaseOf(2, "/q", 10, 12)}
		w.Net = []impl.Msg{askMsg(0, "/d"), recallMsg(1, "/a", 3), askMsg(0, "/ab"), grantMsg(2, holdNone("/q", 10, 12))}
	}), impl.WorldFine)
}

// With NetMost under way there is room for what is sent for the one that is given, as that was taken.
func TestGivenWithNoRoom(t *testing.T) {
	for at := range impl.NetMost {
		w := worldAt(7, 9)
		w.Net = asks(impl.NetMost)
		w.Net[at] = recallMsg(1, "/a", 3)
		wantWorld(t, w, giveEv(at), with(w, func(w *impl.World) {
			w.Floors[1] = 3
			w.Net = append(slices.Delete(w.Net, at, at+1), backMsg(1, "/a", 3))
		}), impl.WorldFine)
		w.Net[at] = askMsg(2, "/d")
		wantWorld(t, w, giveEv(at), with(w, func(w *impl.World) {
			w.Count, w.Leases = 10, []impl.Lease{leaseOf(2, "/d", 10, 12)}
			w.Net = append(slices.Delete(w.Net, at, at+1), grantMsg(2, holdWith(dirAt("/d"), 10, 12)))
		}), impl.WorldFine)
	}
}

// A hold of a path at which nothing is bars what makes something there, whichever way it comes there.
func TestHoldOfNothing(t *testing.T) {
	w := playOn(t, newWorld(overWith(readTree(), nil)), askEv(1, "/d/e"), giveEv(0), giveEv(0))
	wantRead(t, w, 1, "/d/e", impl.Ent{}, false, true)
	for _, op := range []impl.Op{makeOp("/d/e"), putOp("/d/e", ""), moveOp("/ab", "/d/e"), moveOp("/a", "/d/e")} {
		wantBars(t, w, op, leaseOf(1, "/d/e", 1, 5))
		waits, code := worldDo(t, w, writeEv(op))
		if code != impl.WorldWait || !waits.Waits {
			t.Errorf("%v ends with %d: %v", op, code, waits)
		}
		wantRead(t, waits, 1, "/d/e", impl.Ent{}, false, true)
		// It is asked back, given back, and then there is something.
		done := playOn(t, waits, giveEv(0), giveEv(0), tryEv())
		wantRead(t, done, 1, "/d/e", impl.Ent{}, false, false)
		done = playOn(t, done, askEv(1, "/d/e"), giveEv(0), giveEv(0))
		e, _ := treeGet(t, mustView(t, done.Over), "/d/e")
		wantRead(t, done, 1, "/d/e", e, true, true)
	}
}
