package tests

import (
	"slices"
	"testing"

	"loop.example/pargeting/impl"
)

func TestDeskBounds(t *testing.T) {
	if got, want := []int{impl.DeskMaxText, impl.DeskMaxLines, impl.DeskMaxOut}, []int{20000, 200, 20000}; !slices.Equal(got, want) {
		t.Errorf("the constants are %v; want %v", got, want)
	}
}

// The document's example, whole and cut at each of its lines.
func TestDeskOfTheExample(t *testing.T) {
	wantRows(t, exampleRows)
}

func TestDeskMake(t *testing.T) {
	wantRows(t, `
		make /a       > fine
		make /a       > there
		make /a/b     > fine
		make /a/b/c   > fine
		make /b/c     > none
		make /a/d/e   > none
		put /f        > fine
		make /f       > there
		make /f/c     > notdir
		make /a/b/c/d > what
		make /A       > what
		make /        > what
		tree          > d /a, d /a/b, d /a/b/c, f /f, end
	`)
}

func TestDeskPut(t *testing.T) {
	wantRows(t, `
		put /a x         > fine
		put /a y1        > fine
		put /a y1        > fine
		make /b          > fine
		put /b x         > isdir
		put /b           > isdir
		put /a/c x       > notdir
		put /a/c         > notdir
		put /q/c x       > none
		put /q/c         > none
		put /b/c abc123  > fine
		put /b/c abc1234 > what
		put /b/c X       > what
		put /b/c /a      > what
		put b x          > what
		put b            > what
		tree             > f /a y1, d /b, f /b/c abc123, end
	`)
}

// A file of nothing is put, told and read like any other, and Data that was there is gone.
func TestDeskFileOfNothing(t *testing.T) {
	wantRows(t, `
		put /a       > fine
		tree         > f /a, end
		upper        > f /a, end
		list /       > a, end
		list /a      > notdir
		ask 0 /a     > fine
		give 0       > fine
		give 0       > fine
		read 0 /a    > f /a
		put /a       > fine
		read 0 /a    > f /a
		put /a x     > wait
		give 0       > fine
		give 0       > fine
		try          > fine
		tree         > f /a x, end
		push         > fine
		put /a       > fine
		upper        > f /a, end
		tree         > f /a, end
		put /a x     > fine
		upper        > end
		rm /a        > fine
		put /a       > fine
		move /a /b   > fine
		tree         > f /b, end
		upper        > x /a, f /b, end
	`)
}

func TestDeskRm(t *testing.T) {
	wantRows(t, `
		rm /a     > none
		put /a x  > fine
		rm /a     > fine
		rm /a     > none
		make /a   > fine
		rm /a     > isdir
		rm /a/b   > none
		rm /      > what
		rm a      > what
		tree      > d /a, end
	`)
}

func TestDeskRmdir(t *testing.T) {
	wantRows(t, `
		rmdir /a    > none
		make /a     > fine
		put /a/b    > fine
		rmdir /a    > kept
		rmdir /a/b  > notdir
		rm /a/b     > fine
		rmdir /a    > fine
		rmdir /a    > none
		rmdir /     > what
		rmdir /a/   > what
		tree        > end
	`)
}

func TestDeskMove(t *testing.T) {
	wantRows(t, `
		move /a /b       > none
		make /a          > fine
		put /a/b x       > fine
		make /a/c        > fine
		put /a/c/d       > fine
		move /a/b /q/b   > none
		move /a/c /a/b/c > notdir
		move /a/b /a/c   > there
		move /a /a       > there
		move /a /a/e     > under
		make /e          > fine
		move /a /e/a     > room
		move /a/c /e/f   > fine
		move /a /e/a     > fine
		move /e /        > what
		move / /e        > what
		move /e          > what
		tree             > d /e, d /e/a, f /e/a/b x, d /e/f, f /e/f/d, end
	`)
}

// There are TreeMost: what takes no more room can still be done.
func TestDeskOfAFullTree(t *testing.T) {
	wantSaid(t, slices.Concat(fullRows(), []said{{"tree", fullTree()}}, saidOf(`
		make /b                 > room
		put /b x                > room
		put /b                  > room
		make /aaa/bbb/caa       > there
		make /q/b               > none
		put /aaa/bbb/caa        > fine
		move /aaa/bbb/caa /b    > fine
		rm /b                   > fine
		make /b                 > fine
		put /c                  > room
		net                     > 0 0
	`)))
}

func TestDeskAsk(t *testing.T) {
	wantRows(t, `
		ask 0 /a      > fine
		ask 1 /a/b/c  > fine
		ask 2 /zzz    > fine
		net           > 3 0
		ask 3 /a      > bad
		ask -1 /a     > bad
		ask 0 /       > bad
		ask 0 a       > bad
		ask 0 /A      > bad
		ask 3 /A      > bad
		ask 99999999999999999 /a  > bad
		ask -99999999999999999 /a > bad
		net           > 3 0
	`)
}

// What is sent when there are NetMost is lost, and no one is told.
func TestDeskOfAFullNet(t *testing.T) {
	wantSaid(t, slices.Concat(always(impl.NetMost, "ask 0 /a", "fine\n"), saidOf(`
		net      > 12 0
		ask 1 /a > fine
		net      > 12 0
		copy 0   > fine
		net      > 12 0
		copy 11  > fine
		copy 12  > none
		give 11  > fine
		net      > 12 1
		lose 11  > fine
		net      > 11 1
		copy 0   > fine
		net      > 12 1
	`)))
}

func TestDeskGiveLoseCopy(t *testing.T) {
	wantRows(t, `
		give 0   > none
		lose 0   > none
		copy 0   > none
		give -1  > none
		lose -1  > none
		copy -1  > none
		ask 0 /a > fine
		ask 1 /a > fine
		give 2   > none
		lose 2   > none
		copy 2   > none
		give -1  > none
		net      > 2 0
		copy 0   > fine
		net      > 3 0
		give 2   > fine
		net      > 3 1
		lose 0   > fine
		net      > 2 1
		give 0   > fine
		net      > 2 2
		give 0   > fine
		give 0   > fine
		net      > 0 2
		read 0 /a > none
		read 1 /a > none
		give 99999999999999999  > none
		lose -99999999999999999 > none
		copy 4294967296         > none
	`)
}

func TestDeskRead(t *testing.T) {
	wantRows(t, `
		make /a    > fine
		put /a/b x > fine
		read 0 /a  > -
		ask 0 /a   > fine
		ask 0 /a/b > fine
		ask 0 /c   > fine
		read 0 /a  > -
		give 0     > fine
		give 0     > fine
		give 0     > fine
		read 0 /a  > -
		give 2     > fine
		read 0 /c  > none
		read 0 /a  > -
		give 0     > fine
		read 0 /a  > d /a
		give 0     > fine
		read 0 /a/b > f /a/b x
		read 0 /a  > d /a
		read 0 /c  > none
		read 0 /q  > -
		read 1 /a  > -
		read 2 /c  > -
		read 3 /a  > -
		read -1 /a > -
		read 0 /   > -
		read 0 a   > -
		read 0 /A  > -
		read 0 -   > -
		read 99999999999999999 /a > -
	`)
}

// What is held is alive till its time, and then another one can be had.
func TestDeskTick(t *testing.T) {
	wantSaid(t, slices.Concat(saidOf(`
		tick      > fine
		put /a x  > fine
		ask 1 /a  > fine
		give 0    > fine
		give 0    > fine
		put /a y  > wait
		net       > 1 1
	`), always(impl.LeaseFor-1, "tick", "fine\n"), saidOf(`
		read 1 /a > f /a x
		try       > wait
		net       > 2 1
		tick      > fine
		read 1 /a > -
		net       > 2 0
		try       > fine
		try       > none
		tree      > f /a y, end
		ask 1 /a  > fine
		give 2    > fine
		give 2    > fine
		read 1 /a > f /a y
	`)))
}

// Each line that writes waits for who may hold what it turns, and for no one else; what waits is done by `try` alone.
func TestDeskWaits(t *testing.T) {
	ahead := `
		make /a    > fine
		put /a/b x > fine
		make /d    > fine
		ask 0 /a/b > fine
		ask 2 /q   > fine
		ask 1 /d   > fine
		give 0     > fine
		give 0     > fine
		give 0     > fine
	`
	for line, tree := range map[string]string{
		"make /q":       "d /a, f /a/b x, d /d, d /q, end",
		"put /q z":      "d /a, f /a/b x, d /d, f /q z, end",
		"put /q":        "d /a, f /a/b x, d /d, f /q, end",
		"put /a/b z":    "d /a, f /a/b z, d /d, end",
		"put /a/b":      "d /a, f /a/b, d /d, end",
		"rm /a/b":       "d /a, d /d, end",
		"rmdir /d":      "d /a, f /a/b x, end",
		"move /d /a/d":  "d /a, f /a/b x, d /a/d, end",
		"move /a /c":    "d /c, f /c/b x, d /d, end",
		"move /a/b /b":  "d /a, f /b x, d /d, end",
		"move /d /q":    "d /a, f /a/b x, d /q, end",
		"move /a/b /q":  "d /a, d /d, f /q x, end",
		"move /a   /q ": "d /d, d /q, f /q/b x, end",
	} {
		wantRows(t, ahead+line+` > wait
			tree       > d /a, f /a/b x, d /d, end
			upper      > d /a, f /a/b x, d /d, end
			try        > wait
			make /z    > busy
			put /a/b z > busy
			put /a/b   > busy
			rm /q      > busy
			rmdir /d   > busy
			move /d /z > busy
			move /z    > what
			tree       > d /a, f /a/b x, d /d, end
			tick       > fine
			tick       > fine
			tick       > fine
			tick       > fine
			try        > wait
			tick       > fine
			tree       > d /a, f /a/b x, d /d, end
			rm /z      > busy
			try        > fine
			try        > none
			tree       > `+tree)
	}
}

// What turns nothing that is lent is done at once, and what can not be done does not wait.
func TestDeskWaitsForNoOneElse(t *testing.T) {
	wantRows(t, `
		make /a    > fine
		put /a/b x > fine
		ask 0 /a/b > fine
		ask 1 /q   > fine
		give 0     > fine
		give 0     > fine
		put /a/b x > fine
		put /a/c x > fine
		put /q/c   > none
		rm /q      > none
		rmdir /a   > kept
		make /a/b  > there
		move /a/c /a/b > there
		make /qq   > fine
		net        > 2 2
		try        > none
		tree       > d /a, f /a/b x, f /a/c x, d /qq, end
	`)
}

// What is lent no more while a write waits is lent again behind it.
func TestDeskAskWhileItWaits(t *testing.T) {
	wantRows(t, `
		put /a x   > fine
		ask 0 /a   > fine
		give 0     > fine
		give 0     > fine
		put /a y   > wait
		ask 1 /a   > fine
		ask 1 /b   > fine
		give 1     > fine
		net        > 2 1
		give 1     > fine
		net        > 2 2
		give 1     > fine
		read 1 /a  > -
		read 1 /b  > none
		give 0     > fine
		give 0     > fine
		net        > 0 1
		try        > fine
		ask 1 /a   > fine
		give 0     > fine
		give 0     > fine
		read 1 /a  > f /a y
		read 0 /a  > -
	`)
}

// What is lent comes late behind what was given back, and is not held; nor is it when it is given twice.
func TestDeskLateBehindWhatWasGivenBack(t *testing.T) {
	wantRows(t, `
		put /a x   > fine
		ask 0 /a   > fine
		give 0     > fine
		copy 0     > fine
		copy 0     > fine
		give 0     > fine
		read 0 /a  > f /a x
		put /a y   > wait
		net        > 3 1
		copy 2     > fine
		give 2     > fine
		read 0 /a  > -
		give 0     > fine
		read 0 /a  > -
		net        > 3 1
		give 2     > fine
		net        > 2 0
		try        > fine
		tree       > f /a y, end
		give 0     > fine
		read 0 /a  > -
		ask 0 /a   > fine
		give 1     > fine
		give 1     > fine
		read 0 /a  > f /a y
		put /a z   > wait
		give 0     > fine
		read 0 /a  > f /a y
		give 1     > fine
		try        > wait
		net        > 2 1
		lose 0     > fine
		read 0 /a  > f /a y
		give 0     > fine
		read 0 /a  > -
		try        > wait
		give 0     > fine
		net        > 1 0
		try        > fine
		tree       > f /a z, end
	`)
}

// What is lost is asked for once more by each `try`; what is asked back ahead of what is lent bars that.
func TestDeskLostAndOutOfOrder(t *testing.T) {
	wantRows(t, `
		ask 0 /a   > fine
		give 0     > fine
		make /a    > wait
		net        > 2 1
		lose 1     > fine
		try        > wait
		net        > 2 1
		give 1     > fine
		give 0     > fine
		read 0 /a  > -
		lose 0     > fine
		try        > wait
		give 0     > fine
		give 0     > fine
		net        > 0 0
		try        > fine
		tree       > d /a, end
	`)
}

func TestDeskTree(t *testing.T) {
	wantRows(t, `
		tree       > end
		make /b    > fine
		put /a x   > fine
		put /b/c   > fine
		put /bb    > fine
		make /b/d  > fine
		tree       > f /a x, d /b, f /b/c, d /b/d, f /bb, end
		push       > fine
		rm /bb     > fine
		put /b/c z > fine
		tree       > f /a x, d /b, f /b/c z, d /b/d, end
		rm /a      > fine
		rm /b/c    > fine
		rmdir /b/d > fine
		rmdir /b   > fine
		tree       > end
	`)
}

func TestDeskList(t *testing.T) {
	wantRows(t, `
		list /      > end
		list /a     > none
		make /a     > fine
		list /a     > end
		put /a/z    > fine
		make /a/b   > fine
		put /a/b/c  > fine
		put /ab x   > fine
		list /      > a, ab, end
		list /a     > b, z, end
		list /a/b   > c, end
		list /a/z   > notdir
		list /ab    > notdir
		list /ab/c  > none
		list /q     > none
		list /a/b/d > none
		list a      > bad
		list //     > bad
		list /A     > bad
		list /a/    > bad
		list /a/b/c/d > bad
		list 0      > bad
		push        > fine
		rm /a/z     > fine
		list /a     > b, end
	`)
}

// Upper has what is seen otherwise than beneath, and nothing needless.
func TestDeskUpper(t *testing.T) {
	wantRows(t, `
		upper       > end
		make /a     > fine
		put /a/b x  > fine
		put /c      > fine
		upper       > d /a, f /a/b x, f /c, end
		push        > fine
		upper       > end
		put /a/b y  > fine
		upper       > d /a, f /a/b y, end
		put /a/b x  > fine
		upper       > end
		rm /c       > fine
		rm /a/b     > fine
		upper       > d /a, x /a/b, x /c, end
		rmdir /a    > fine
		upper       > x /a, x /c, end
		put /a z    > fine
		upper       > f /a z, x /c, end
		rm /a       > fine
		make /a     > fine
		upper       > d /a, x /a/b, x /c, end
		put /a/b x  > fine
		put /c      > fine
		upper       > end
	`)
}

func TestDeskNet(t *testing.T) {
	wantRows(t, `
		net      > 0 0
		ask 0 /a > fine
		net      > 1 0
		give 0   > fine
		net      > 1 1
		ask 0 /b > fine
		ask 1 /b > fine
		net      > 3 1
		give 1   > fine
		give 1   > fine
		net      > 3 3
		ask 0 /a > fine
		give 3   > fine
		net      > 4 3
		lose 0   > fine
		lose 0   > fine
		lose 0   > fine
		lose 0   > fine
		net      > 0 3
	`)
}
