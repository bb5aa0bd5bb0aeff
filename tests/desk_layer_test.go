package tests

import (
	"slices"
	"testing"

	"loop.example/pargeting/impl"
)

// A layer may be pushed on nothing, up to OverMost of them, and all of nothing are one of nothing.
func TestDeskPushOnNothing(t *testing.T) {
	wantSaid(t, slices.Concat(always(impl.OverMost, "push", "fine\n"), saidOf(`
		push      > room
		upper     > end
		tree      > end
		flat      > fine
		flat      > room
		push      > fine
		push      > fine
		push      > fine
		push      > room
		sink      > fine
		flat      > room
		push      > fine
		flat      > room
		push      > fine
		flat      > fine
		flat      > room
		tree      > end
		upper     > end
		net       > 0 0
	`)))
}

// What could not be pushed turns nothing: Upper is still what is turned.
func TestDeskPushMost(t *testing.T) {
	wantSaid(t, slices.Concat(saidOf("put /a 0 > fine"), always(impl.OverMost, "push", "fine\n"), saidOf(`
		put /a 1  > fine
		push      > room
		upper     > f /a 1, end
		put /a 0  > fine
		upper     > end
		put /b    > fine
		push      > room
		upper     > f /b, end
		flat      > fine
		upper     > f /b, end
		push      > fine
		upper     > end
		tree      > f /a 0, f /b, end
	`)))
}

func TestDeskFlatOfFewerThanTwo(t *testing.T) {
	wantRows(t, `
		flat      > room
		put /a x  > fine
		flat      > room
		upper     > f /a x, end
		push      > fine
		rm /a     > fine
		flat      > room
		upper     > x /a, end
		push      > fine
		put /a y  > fine
		flat      > fine
		upper     > f /a y, end
		tree      > f /a y, end
		rm /a     > fine
		upper     > end
		flat      > room
	`)
}

// Upper stays what it is when what is beneath becomes one layer, or a tree.
func TestDeskFlatAndSink(t *testing.T) {
	ahead := `
		make /a     > fine
		put /a/b x  > fine
		put /c      > fine
		push        > fine
		rm /a/b     > fine
		rmdir /a    > fine
		push        > fine
		make /a     > fine
		put /a/d    > fine
		push        > fine
		put /a/b z  > fine
		rm /c       > fine
		upper       > d /a, f /a/b z, x /c, end
	`
	behind := ` > fine
		upper       > d /a, f /a/b z, x /c, end
		tree        > d /a, f /a/b z, f /a/d, end
		rm /a/b     > fine
		upper       > x /c, end
		put /c      > fine
		upper       > end
		rm /a/d     > fine
		upper       > d /a, x /a/d, end
		tree        > d /a, f /c, end
	`
	wantRows(t, ahead+"flat"+behind)
	wantRows(t, ahead+"sink"+behind+"flat > room")
	wantRows(t, ahead+"flat > fine\nsink"+behind+"flat > room")
	wantRows(t, ahead+"sink > fine\nsink"+behind)
}

// joinedTooGreat has layers on which there is as much as there may be, but too much as one of them.
func joinedTooGreat() []said {
	var all []said
	for i, names := range [][]string{manyNames(48)[:16], manyNames(48)[16:32], manyNames(48)[32:]} {
		if i > 0 {
			for _, name := range manyNames(48)[16*(i-1) : 16*i] {
				all = append(all, said{"rm /" + name, "fine\n"})
			}
		}
		for _, name := range names {
			all = append(all, said{"put /" + name, "fine\n"})
		}
		all = append(all, said{"push", "fine\n"})
	}
	return all
}

// A layer of three on each other would have 48 marks, which is more than there may be.
func TestDeskFlatWithoutRoom(t *testing.T) {
	tree := ""
	for _, name := range manyNames(48)[32:] {
		tree += "f /" + name + "\n"
	}
	for lay, want := range map[string]string{"flat": "room\n", "sink": "fine\n"} {
		script, answer := scriptOf(slices.Concat(joinedTooGreat(), []said{{lay, want}, {"tree", tree + "end\n"}}))
		wantDesk(t, script, answer)
		// Where it could not be flat there are three, on which one more may lie; and where all is sunk none.
		rest := map[string]string{"flat": "fine\nroom\nroom\n", "sink": "fine\nfine\nfine\n"}[lay]
		wantDesk(t, script+"\npush\npush\nflat", answer+rest)
	}
	// Two of them may be one.
	script, answer := scriptOf(joinedTooGreat()[:50])
	wantDesk(t, script+"\nflat\nflat\ntree", answer+"fine\nroom\n"+answerOf(t, script+"\ntree", answer))
}

// answerOf is what a script answers behind what is known of it.
func answerOf(t *testing.T, script, known string) string {
	t.Helper()
	told := deskRun(t, script)
	if len(told) < len(known) || told[:len(known)] != known {
		t.Fatalf("DeskRun(%q) = %q; want it to begin with %q", brief(script), brief(told), brief(known))
	}
	return told[len(known):]
}

// Layers are left alone while something waits, and while there is a lease, and at no other time.
func TestDeskBusy(t *testing.T) {
	for _, lay := range []string{"push", "flat", "sink"} {
		busy := "\n" + lay + " > busy"
		fine := "\n" + lay + " > fine"
		ahead := `
			put /a x  > fine
			push      > fine
			push      > fine
			push      > fine
			put /a y  > fine
			ask 0 /a  > fine
			ask 1 /q  > fine
		`
		// What is only asked for bars nothing.
		wantRows(t, ahead+fine)
		// One lease.
		wantRows(t, ahead+"give 0 > fine"+busy+"\ngive 1 > fine"+busy+`
			read 0 /a > f /a y
			net       > 1 1
			upper     > f /a y, end
			tick      > fine`+busy+`
			tick      > fine`+busy+`
			tick      > fine`+busy+`
			tick      > fine`+busy+`
			net       > 1 1
			tick      > fine
			net       > 1 0
			read 0 /a > -`+fine+`
			tree      > f /a y, end
			net       > 1 0`)
		// A lease of what is not there, of another one.
		wantRows(t, ahead+"give 1 > fine"+busy+"\nlose 0 > fine"+busy+"\nlose 0 > fine"+busy)
		// It waits; and still does when all has been given back; and does no more.
		wantRows(t, ahead+"give 0 > fine\ngive 1 > fine\nput /a z > wait"+busy+`
			give 1    > fine`+busy+`
			give 1    > fine
			net       > 1 0`+busy+`
			put /q    > busy`+busy+`
			upper     > f /a y, end
			try       > fine
			upper     > f /a z, end`+fine+`
			tree      > f /a z, end`)
		// It waits, and the lease has ended by itself.
		wantRows(t, ahead+"give 0 > fine\ngive 1 > fine\nrm /a > wait"+`
			tick      > fine
			tick      > fine
			tick      > fine
			tick      > fine
			tick      > fine
			net       > 2 0`+busy+`
			try       > fine`+fine+`
			tree      > end`)
	}
}

// When it is busy it says so, also where there would be no room.
func TestDeskBusyWithoutRoom(t *testing.T) {
	wantSaid(t, slices.Concat(always(impl.OverMost, "push", "fine\n"), saidOf(`
		ask 0 /a  > fine
		give 0    > fine
		push      > busy
		sink      > busy
		lose 0    > fine
		push      > busy
		tick      > fine
		tick      > fine
		tick      > fine
		tick      > fine
		tick      > fine
		push      > room
		sink      > fine
		ask 0 /a  > fine
		give 0    > fine
		flat      > busy
	`)))
}

// Messages of what is lent no more, and what is no more held, do not bar layers; and layers turn nothing of them.
func TestDeskLayersBetweenReaders(t *testing.T) {
	wantRows(t, `
		put /a x  > fine
		ask 0 /a  > fine
		give 0    > fine
		copy 0    > fine
		give 0    > fine
		put /a y  > wait
		give 1    > fine
		give 1    > fine
		try       > fine
		push      > fine
		sink      > fine
		give 0    > fine
		read 0 /a > -
		ask 1 /a  > fine
		push      > fine
		give 0    > fine
		give 0    > fine
		read 1 /a > f /a y
		read 0 /a > -
		put /a z  > wait
		flat      > busy
	`)
}

// What stands between the lines of a script: layers that are pushed, made flat and sunk turn no answer but those of `upper`.
func TestDeskLayersAtEachPlace(t *testing.T) {
	plain := saidOf(exampleRows)
	plain = slices.DeleteFunc(plain, func(s said) bool { return s.line == "push" || s.line == "sink" || s.line == "upper" })
	want := answersOf(t, plain)
	for at := range len(plain) + 1 {
		for _, lays := range [][]string{{"push"}, {"flat"}, {"sink"}, {"push", "push", "flat"}, {"push", "push", "push", "push", "push", "sink"}, {"push", "sink"}} {
			var between []said
			for _, lay := range lays {
				between = append(between, said{line: lay})
			}
			got := answersOf(t, slices.Insert(slices.Clone(plain), at, between...))
			if got = slices.Delete(got, at, at+len(lays)); !slices.Equal(got, want) {
				t.Errorf("with %q ahead of line %d the answers are %q; want %q", lays, at, got, want)
			}
		}
	}
}

// answersOf is what each line of a script answers, told by what it answers cut ahead of it and behind it.
func answersOf(t *testing.T, all []said) []string {
	t.Helper()
	var answers []string
	known := ""
	for cut := range all {
		script, _ := scriptOf(all[:cut+1])
		answers = append(answers, answerOf(t, script, known))
		known += answers[cut]
	}
	return answers
}
