package tests

import (
	"fmt"
	"slices"
	"testing"

	"loop.example/pargeting/impl"
)

// The chapter's words once more, said of lists that are gone through, to hold the program against.

// hall is a world with what is seen in it.
type hall struct {
	world impl.World
	shelf shelf
}

func hallOf(w impl.World) (hall, bool) {
	s, ok := shelfOf(w.Over)
	h := hall{w, s}
	return h, ok && w.Clock >= 0 && w.Clock <= 10000 && w.Count >= 0 && w.Count <= 10000 && len(w.Holds) == 3 && len(w.Floors) == 3 &&
		h.floorsAreRight() && h.leasesAreRight() && h.holdsAreRight() && h.netIsRight() && h.waitIsRight()
}

func (h hall) floorsAreRight() bool {
	for _, f := range h.world.Floors {
		if f < 0 || f > h.world.Count {
			return false
		}
	}
	return true
}

func (h hall) leasesAreRight() bool {
	w := h.world
	for i, l := range w.Leases {
		if l.Who < 0 || l.Who > 2 || !wholePath.MatchString(l.Path) || l.Num < 1 || l.Num > w.Count || l.Until > w.Clock+5 {
			return false
		}
		for _, other := range w.Leases[:i] {
			if other.Who == l.Who && other.Path == l.Path {
				return false
			}
		}
	}
	return true
}

func (h hall) holdsAreRight() bool {
	w := h.world
	for who, list := range w.Holds {
		for i, held := range list {
			if !wholePath.MatchString(held.Path) || held.Num < 0 || held.Num > w.Count {
				return false
			}
			for _, other := range list[:i] {
				if other.Path == held.Path {
					return false
				}
			}
			if w.Clock < held.Until && !h.isSo(who, held) {
				return false
			}
		}
	}
	return true
}

func (h hall) isSo(who int, held impl.Hold) bool {
	e, has := h.shelf.seen.get(held.Path)
	if has != held.Has || e != held.Ent {
		return false
	}
	for _, l := range h.world.Leases {
		if l.Who == who && l.Path == held.Path && h.world.Clock < l.Until && l.Num >= held.Num && l.Until >= held.Until {
			return true
		}
	}
	return false
}

func (h hall) netIsRight() bool {
	w := h.world
	if len(w.Net) > 12 {
		return false
	}
	for _, m := range w.Net {
		held := m.Hold
		if m.Kind < 1 || m.Kind > 4 || m.Who < 0 || m.Who > 2 || !wholePath.MatchString(held.Path) || held.Num < 0 || held.Num > w.Count {
			return false
		}
		if m.Kind != 2 && (held.Has || held.Ent != impl.Ent{} || held.Until != 0) {
			return false
		}
		if m.Kind == 2 && w.Clock < held.Until && held.Num > w.Floors[m.Who] && !h.isSo(m.Who, held) {
			return false
		}
		if m.Kind == 4 && !h.isGivenBack(m) {
			return false
		}
	}
	return true
}

func (h hall) isGivenBack(m impl.Msg) bool {
	for _, held := range h.world.Holds[m.Who] {
		if held.Path == m.Hold.Path && held.Num <= m.Hold.Num {
			return false
		}
	}
	return m.Hold.Num <= h.world.Floors[m.Who]
}

func (h hall) waitIsRight() bool {
	if !h.world.Waits {
		return h.world.Op == impl.Op{}
	}
	_, code := h.shelf.seen.do(h.world.Op)
	return code == 0
}

func (h hall) read(who int, path string) (impl.Ent, bool, bool) {
	if who < 0 || who > 2 {
		return impl.Ent{}, false, false
	}
	for _, held := range h.world.Holds[who] {
		if held.Path == path && h.world.Clock < held.Until {
			return held.Ent, held.Has, true
		}
	}
	return impl.Ent{}, false, false
}

func (h hall) turned(op impl.Op) []string {
	done, code := h.shelf.seen.do(op)
	if code != 0 {
		return nil
	}
	return h.shelf.seen.turned(done)
}

func (h hall) bars(op impl.Op) []impl.Lease {
	var bars []impl.Lease
	for _, l := range h.world.Leases {
		if h.world.Clock < l.Until && slices.Contains(h.turned(op), l.Path) {
			bars = append(bars, l)
		}
	}
	return bars
}

func (h *hall) send(m impl.Msg) {
	if len(h.world.Net) < 12 {
		h.world.Net = append(h.world.Net, m)
	}
}

// do is the chapter's table.
func (h hall) do(ev impl.Ev) (impl.World, int) {
	h.world = copyWorld(h.world)
	there := ev.At >= 0 && ev.At < len(h.world.Net)
	code := 0
	switch ev.Kind {
	case 1:
		if ev.Who < 0 || ev.Who > 2 || !wholePath.MatchString(ev.Path) {
			code = 1
		} else {
			h.send(askMsg(ev.Who, ev.Path))
		}
	case 2:
		code = h.write(ev.Op)
	case 3:
		code = 22
		if h.world.Waits {
			code = h.try()
		}
	case 4:
		h.world.Clock = min(10000, h.world.Clock+1)
		h.world.Leases = slices.DeleteFunc(h.world.Leases, func(l impl.Lease) bool { return l.Until <= h.world.Clock })
	case 5, 6, 7:
		if !there {
			return h.world, 22
		}
		m := h.world.Net[ev.At]
		if ev.Kind == 7 {
			h.send(m)
			break
		}
		h.world.Net = slices.Delete(h.world.Net, ev.At, ev.At+1)
		if ev.Kind == 5 {
			h.give(m)
		}
	default:
		code = 1
	}
	return h.world, code
}

func (h *hall) write(op impl.Op) int {
	if h.world.Waits {
		return 21
	}
	over, code := h.shelf.do(op)
	if code != 0 {
		return code
	}
	if len(h.bars(op)) == 0 {
		h.world.Over = over
		return 0
	}
	h.world.Waits, h.world.Op = true, op
	return h.try()
}

func (h *hall) try() int {
	bars := h.bars(h.world.Op)
	for _, l := range bars {
		h.send(recallMsg(l.Who, l.Path, h.world.Count))
	}
	if len(bars) > 0 {
		return 20
	}
	h.world.Over, _ = h.shelf.do(h.world.Op)
	h.world.Waits, h.world.Op = false, impl.Op{}
	return 0
}

func (h *hall) give(m impl.Msg) {
	w, who, path, num := &h.world, m.Who, m.Hold.Path, m.Hold.Num
	switch m.Kind {
	case 1:
		if w.Waits && slices.Contains(h.turned(w.Op), path) || w.Count == 10000 {
			return
		}
		w.Count++
		w.Leases = slices.DeleteFunc(w.Leases, func(l impl.Lease) bool { return l.Who == who && l.Path == path })
		w.Leases = append(w.Leases, leaseOf(who, path, w.Count, w.Clock+5))
		e, has := h.shelf.seen.get(path)
		h.send(grantMsg(who, impl.Hold{Path: path, Has: has, Ent: e, Num: w.Count, Until: w.Clock + 5}))
	case 2:
		if m.Hold.Until <= w.Clock || num <= w.Floors[who] {
			return
		}
		for i, held := range w.Holds[who] {
			if held.Path == path && held.Num >= num {
				return
			}
			if held.Path == path {
				w.Holds[who] = slices.Delete(w.Holds[who], i, i+1)
				break
			}
		}
		w.Holds[who] = append(w.Holds[who], m.Hold)
	case 3:
		w.Holds[who] = slices.DeleteFunc(w.Holds[who], func(held impl.Hold) bool { return held.Path == path && held.Num <= num })
		w.Floors[who] = max(w.Floors[who], num)
		h.send(backMsg(who, path, num))
	case 4:
		w.Leases = slices.DeleteFunc(w.Leases, func(l impl.Lease) bool { return l.Who == who && l.Path == path && l.Num <= num })
	}
}

// happensAsSaid holds WorldDo against the words, and what it told against being ok.
func happensAsSaid(t *testing.T, w impl.World, ev impl.Ev) (impl.World, int) {
	t.Helper()
	h, ok := hallOf(w)
	if !ok {
		t.Fatalf("the words say that %v is not ok", w)
	}
	want, wantCode := h.do(ev)
	got, code := worldDo(t, w, ev)
	if !alikeWorlds(got, want) || code != wantCode {
		t.Fatalf("WorldDo(%v, %v) = %v, %d; want %v, %d", w, ev, got, code, want, wantCode)
	}
	allIsSo(t, got)
	return got, code
}

// isAsSaid holds all but WorldDo against the words, at something that may be ok or not, and says whether it is.
func isAsSaid(t *testing.T, w impl.World, paths []string, ops []impl.Op) bool {
	t.Helper()
	h, ok := hallOf(w)
	if worldOk(t, w) != ok {
		t.Fatalf("WorldOk(%v) = %v", w, !ok)
	}
	if !ok {
		return false
	}
	for who := -1; who <= 3; who++ {
		for _, path := range paths {
			want, wantHas, wantOk := h.read(who, path)
			wantRead(t, w, who, path, want, wantHas, wantOk)
		}
	}
	for _, op := range ops {
		wantBars(t, w, op, h.bars(op)...)
	}
	return true
}

func TestWorldOfGoodAndBroken(t *testing.T) {
	for _, e := range allEdges() {
		if _, ok := hallOf(e.inside); !ok {
			t.Errorf("the words say that %v is not ok", brief(e.inside))
		}
		if _, ok := hallOf(e.outside); ok {
			t.Errorf("the words say that %v is ok", brief(e.outside))
		}
	}
	if !isAsSaid(t, someWorld(), []string{"/a", "/a/b", "/ab", "/d", "/q"}, []impl.Op{rmOp("/a/b"), makeOp("/q"), moveOp("/a", "/q")}) {
		t.Error("the words say that someWorld is not ok")
	}
}

// Whatever can come of a file, a path at which nothing is, and few who read them, as far as there is time for:
// each world is gone on from once.
func TestWorldOfAllSmall(t *testing.T) {
	t.Parallel()
	for _, few := range []struct {
		evs []impl.Ev
		net int
	}{
		{[]impl.Ev{askEv(0, "/a"), askEv(1, "/a"), writeEv(putOp("/a", "y")), writeEv(rmOp("/a")), tryEv(), tickEv()}, 2},
		{[]impl.Ev{askEv(0, "/a"), askEv(0, "/b"), writeEv(moveOp("/a", "/b")), writeEv(putOp("/b", "x")), tryEv(), tickEv()}, 2},
		{[]impl.Ev{askEv(2, "/a"), writeEv(putOp("/a", "y")), tryEv(), tickEv()}, 3},
	} {
		first := newWorld(overWith(treeWith(fileAt("/a", "x")), nil))
		todo, seen := []impl.World{first}, map[string]int{fmt.Sprint(first): 1}
		for len(todo) > 0 && len(seen) < 4000 {
			w := todo[0]
			todo = todo[1:]
			for _, ev := range eventsAt(w, few.evs, few.net) {
				next, _ := happensAsSaid(t, w, ev)
				if key := fmt.Sprint(next); seen[key] == 0 {
					seen[key] = 1
					todo = append(todo, next)
				}
			}
		}
		if len(seen) < 4000 {
			t.Errorf("there are only %d", len(seen))
		}
	}
}

// eventsAt are what may happen: no more is sent than there is room for in a small net, so that what is done with it comes soon.
func eventsAt(w impl.World, evs []impl.Ev, net int) []impl.Ev {
	var may []impl.Ev
	for _, ev := range evs {
		if ev.Kind != impl.EvAsk || len(w.Net) < net {
			may = append(may, ev)
		}
	}
	for at := range w.Net {
		may = append(may, giveEv(at), loseEv(at))
		if len(w.Net) < net {
			may = append(may, copyEv(at))
		}
	}
	return may
}

// somePlay is what happens by a fixed rule, step for step.
type somePlay struct {
	*someWay
	first  impl.Over
	world  impl.World
	evs    []impl.Ev
	codes  []int
	readAt []string
}

func newPlay(state uint32) *somePlay {
	paths := slices.Sorted(slices.Values(pathsOf("", [][]string{{"a", "aa", "b"}, {"a", "b"}, {"z"}})))
	return &somePlay{someWay: &someWay{
		wayside: &wayside{state: state, paths: paths, datas: []string{"", "x", "y1"}},
		came:    map[string]int{},
	}}
}

// begin takes a tree on layers, and few paths that are read, so that writes often bar each other.
func (p *somePlay) begin(t *testing.T) {
	t.Helper()
	p.start(t)
	p.first, p.world, p.evs, p.codes = p.over, worldNew(t, p.over), nil, nil
	p.readAt = nil
	for range 1 + p.pick(4) {
		p.readAt = append(p.readAt, p.paths[p.pick(len(p.paths))])
	}
}

func (p *somePlay) event() impl.Ev {
	net := len(p.world.Net)
	switch k := p.pick(20); {
	case k < 5:
		return askEv(p.pick(3), p.readAt[p.pick(len(p.readAt))])
	case k < 8:
		return writeEv(p.writes())
	case k == 8:
		return tryEv()
	case k == 9:
		return tickEv()
	case k < 16 && net > 0:
		return giveEv(p.pick(net))
	case k == 16 && net > 0:
		return loseEv(p.pick(net))
	case k < 19 && net > 0:
		return copyEv(p.pick(net))
	}
	return impl.Ev{Kind: p.pick(9), Who: p.pick(6) - 1, Path: p.paths[0][:p.pick(3)], Op: p.op(), At: p.pick(15) - 1}
}

// writes is more often of what is read than not.
func (p *somePlay) writes() impl.Op {
	op := p.op()
	if p.pick(3) > 0 {
		op.Path = p.readAt[p.pick(len(p.readAt))]
	}
	return op
}

// step takes a step as the words say, and notes what came.
func (p *somePlay) step(t *testing.T, ev impl.Ev) int {
	t.Helper()
	next, code := happensAsSaid(t, p.world, ev)
	p.came[fmt.Sprint(ev.Kind, code)]++
	if ev.Kind == impl.EvGive && code == impl.WorldFine {
		p.noteGiven(p.world.Net[ev.At], next)
	}
	if len(next.Net) == impl.NetMost {
		p.came["no room"]++
	}
	p.world, p.evs, p.codes = next, append(p.evs, ev), append(p.codes, code)
	return code
}

func (p *somePlay) noteGiven(m impl.Msg, next impl.World) {
	did := fmt.Sprint("message ", m.Kind)
	if slices.EqualFunc(p.world.Holds, next.Holds, slices.Equal) && slices.Equal(p.world.Leases, next.Leases) && slices.Equal(p.world.Floors, next.Floors) {
		did += ": nothing"
	}
	p.came[did]++
	if m.Kind == impl.MsgGrant && p.world.Clock < m.Hold.Until && m.Hold.Num <= p.world.Floors[m.Who] {
		p.came["a grant behind a recall"]++
	}
}

// P6 on long plays, with messages lost, doubled, late and out of order: behind each step it is ok, and what is held is so.
func TestWorldOnLongPlays(t *testing.T) {
	t.Parallel()
	p := newPlay(23)
	for range 60 {
		p.begin(t)
		for range impl.EvMost {
			if !isAsSaid(t, p.world, []string{p.readAt[p.pick(len(p.readAt))]}, []impl.Op{p.writes()}) || t.Failed() {
				t.Fatalf("at %v", p.world)
			}
			p.step(t, p.event())
		}
		got, codes := worldPlay(t, p.first, p.evs)
		if !alikeWorlds(got, p.world) || !slices.Equal(codes, p.codes) {
			t.Fatalf("WorldPlay(%v, %v) = %v, %v; want %v, %v", p.first, p.evs, got, codes, p.world, p.codes)
		}
	}
	for _, what := range []string{"0 1", "1 0", "1 1", "2 0", "2 1", "2 2", "2 3", "2 4", "2 5", "2 6", "2 7", "2 8", "2 20", "2 21", "3 0", "3 20", "3 22", "4 0", "5 0", "5 22", "6 0", "6 22", "7 0", "7 22", "8 1",
		"message 1", "message 1: nothing", "message 2", "message 2: nothing", "message 3", "message 3: nothing", "message 4", "message 4: nothing", "a grant behind a recall", "no room"} {
		if p.came[what] == 0 {
			t.Errorf("%q has not come", what)
		}
	}
}

// aside is a world a little beside one that came in a play: one part of it is another one.
func (p *somePlay) aside() impl.World {
	by := []int{-1, 1, -2, 2, 5, -5}[p.pick(6)]
	return with(p.world, func(w *impl.World) {
		switch k := p.pick(12); {
		case k == 0:
			w.Clock += by
		case k == 1:
			w.Count += by
		case k == 2:
			w.Floors[p.pick(3)] += by
		case k == 3:
			w.Waits, w.Op = true, p.writes()
		case k == 4 && w.Waits:
			w.Waits = false
		case k < 7 && len(w.Leases) > 0:
			p.turnLease(w, by)
		case k < 9 && len(w.Net) > 0:
			p.turnMsg(&w.Net[p.pick(len(w.Net))], by)
		case k == 9:
			w.Over.Upper = nil
		default:
			if list := w.Holds[p.pick(3)]; len(list) > 0 {
				p.turnHold(&list[p.pick(len(list))], by)
			}
		}
	})
}

func (p *somePlay) turnLease(w *impl.World, by int) {
	i := p.pick(len(w.Leases))
	l := &w.Leases[i]
	switch p.pick(5) {
	case 0:
		l.Who += by
	case 1:
		l.Path = p.readAt[p.pick(len(p.readAt))]
	case 2:
		l.Num += by
	case 3:
		l.Until += by
	case 4:
		w.Leases = slices.Delete(w.Leases, i, i+1)
	}
}

func (p *somePlay) turnMsg(m *impl.Msg, by int) {
	switch p.pick(4) {
	case 0:
		m.Kind += by
	case 1:
		m.Who += by
	default:
		p.turnHold(&m.Hold, by)
	}
}

func (p *somePlay) turnHold(held *impl.Hold, by int) {
	switch p.pick(6) {
	case 0:
		held.Path = p.readAt[p.pick(len(p.readAt))]
	case 1:
		held.Has = !held.Has
	case 2:
		held.Ent.Data += "x"
	case 3:
		held.Ent.Dir = !held.Ent.Dir
	case 4:
		held.Num += by
	case 5:
		held.Until += by
	}
}

// What is a little beside what came is ok just as the words say; and what is ok stays ok, however it came to be.
func TestWorldsAside(t *testing.T) {
	t.Parallel()
	p := newPlay(5)
	good, bad := 0, 0
	for range 60 {
		p.begin(t)
		for range impl.EvMost {
			p.world, _ = worldDo(t, p.world, p.event())
			w := p.aside()
			if !isAsSaid(t, w, nil, []impl.Op{p.writes()}) {
				bad++
				continue
			}
			good++
			happensAsSaid(t, w, p.event())
		}
	}
	if good < 500 || bad < 500 {
		t.Errorf("%d were ok, and %d were not", good, bad)
	}
}
