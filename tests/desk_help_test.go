package tests

import (
	"strings"
	"testing"

	"loop.example/pargeting/impl"
)

// deskRun runs a script twice, with a look at its memory, and asks of the answer what is said of any.
func deskRun(t *testing.T, script string) string {
	t.Helper()
	lent, was := strings.Clone(script), strings.Clone(script)
	told := impl.DeskRun(lent)
	isFresh(t, "DeskRun", told, lent)
	if told != "" && !strings.HasSuffix(told, "\n") {
		t.Fatalf("DeskRun(%q) = %q, without a newline at the end", brief(was), brief(told))
	}
	if again := impl.DeskRun(lent); again != told || lent != was {
		t.Fatalf("DeskRun(%q) = %q; and again %q", brief(was), brief(told), brief(again))
	}
	return told
}

func wantDesk(t *testing.T, script, want string) {
	t.Helper()
	if got := deskRun(t, script); got != want {
		t.Errorf("DeskRun(%q) = %q; want %q", brief(script), brief(got), brief(want))
	}
}

// said is a line of a script, and what it answers.
type said struct {
	line, want string
}

// saidOf reads rows of a line, `>`, and the lines of its answer with commas between.
func saidOf(rows string) []said {
	var all []said
	for row := range strings.Lines(rows) {
		if line, answer, ok := strings.Cut(row, ">"); ok {
			answer = strings.Join(strings.Split(strings.TrimSpace(answer), ", "), "\n") + "\n"
			all = append(all, said{strings.TrimSpace(line), answer})
		}
	}
	return all
}

// always says the same line so often.
func always(n int, line, want string) []said {
	var all []said
	for range n {
		all = append(all, said{line, want})
	}
	return all
}

// scriptOf is the lines, and what they answer, one behind the other. There is no newline behind the last line.
func scriptOf(all []said) (string, string) {
	var lines []string
	want := ""
	for _, s := range all {
		lines = append(lines, s.line)
		want += s.want
	}
	return strings.Join(lines, "\n"), want
}

// wantSaid asks a script, and each that ends ahead of one of its lines, with and without the last newline.
func wantSaid(t *testing.T, all []said) {
	t.Helper()
	for cut := range len(all) + 1 {
		script, want := scriptOf(all[:cut])
		wantDesk(t, script, want)
		if cut > 0 {
			wantDesk(t, script+"\n", want)
		}
		if t.Failed() {
			return
		}
	}
}

// wantRows is wantSaid of rows.
func wantRows(t *testing.T, rows string) {
	t.Helper()
	wantSaid(t, saidOf(rows))
}

// exampleRows is the document's example.
const exampleRows = `
	make /a      > fine
	put /a/b x   > fine
	put /c y     > fine
	push         > fine
	rm /a/b      > fine
	put /a/d z   > fine
	upper        > d /a, x /a/b, f /a/d z, end
	ask 0 /c     > fine
	give 0       > fine
	give 0       > fine
	read 0 /c    > f /c y
	put /c w     > wait
	put /c v     > busy
	give 0       > fine
	read 0 /c    > -
	try          > wait
	give 0       > fine
	try          > fine
	tree         > d /a, f /a/d z, f /c w, end
	move /a /e   > fine
	upper        > x /a, f /c w, d /e, f /e/d z, end
	sink         > fine
	upper        > x /a, f /c w, d /e, f /e/d z, end
	list /e      > d, end
	net          > 1 0
`

// fullRows make a tree of TreeMost, /aaa/bbb/caa to /aaa/bbb/can of Data 123456 in it; fullTree is what `tree` answers then.
func fullRows() []said {
	all := saidOf("make /aaa > fine\nmake /aaa/bbb > fine")
	for i := range impl.TreeMost - 2 {
		all = append(all, said{"put /aaa/bbb/ca" + string('a'+rune(i)) + " 123456", "fine\n"})
	}
	return all
}

func fullTree() string {
	tree := "d /aaa\nd /aaa/bbb\n"
	for i := range impl.TreeMost - 2 {
		tree += "f /aaa/bbb/ca" + string('a'+rune(i)) + " 123456\n"
	}
	return tree + "end\n"
}
