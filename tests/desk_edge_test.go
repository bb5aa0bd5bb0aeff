package tests

import (
	"fmt"
	"slices"
	"strings"
	"sync"
	"testing"

	"loop.example/pargeting/impl"
)

// No line answers nothing, and one without words does so too, wherever it stands.
func TestDeskWithoutWords(t *testing.T) {
	for _, script := range []string{"", "\n", "\n\n", " ", "   ", " \n", "\n ", " \n  \n\n   ", strings.Repeat("\n", 500), strings.Repeat(" ", 500), strings.Repeat(" \n", 500)} {
		wantDesk(t, script, "")
	}
	example := saidOf(exampleRows)
	script, want := scriptOf(example)
	for _, none := range []string{"", " ", "     "} {
		wantDesk(t, none+"\n"+script, want)
		wantDesk(t, script+"\n"+none, want)
		wantDesk(t, script+"\n"+none+"\n", want)
		wantDesk(t, strings.ReplaceAll(script, "\n", "\n"+none+"\n"), want)
		wantDesk(t, strings.ReplaceAll(script, "\n", "\n"+none+"\n\n"+none+"\n"), want)
	}
}

// The last line ends at the end, too.
func TestDeskLastNewline(t *testing.T) {
	for _, s := range append(saidOf(exampleRows), saidOf("fly > what\nmake > what\nread 0 > what\ngive x > what\nlist a > bad\nput /a  > fine")...) {
		got := deskRun(t, s.line)
		if got == "" {
			t.Errorf("DeskRun(%q) answers nothing", s.line)
		}
		wantDesk(t, s.line+"\n", got)
		wantDesk(t, s.line+"\n\n", got)
		wantDesk(t, "\n"+s.line, got)
	}
}

// Any spaces may stand between words, ahead of them and behind.
func TestDeskSpaces(t *testing.T) {
	script, want := scriptOf(saidOf(exampleRows))
	for _, gap := range []string{" ", "  ", "       "} {
		text := strings.ReplaceAll(script, " ", gap)
		wantDesk(t, text, want)
		wantDesk(t, gap+strings.ReplaceAll(text, "\n", "\n"+gap), want)
		wantDesk(t, strings.ReplaceAll(text, "\n", gap+"\n")+gap, want)
		wantDesk(t, gap+strings.ReplaceAll(text, "\n", gap+"\n"+gap)+gap, want)
	}
	wantDesk(t, "   make    /a \n put  /a/b   x     \n   tree  ", "fine\nfine\nd /a\nf /a/b x\nend\n")
	wantDesk(t, strings.Repeat(" ", 9000)+"make"+strings.Repeat(" ", 9000)+"/a"+strings.Repeat(" ", 1000), "fine\n")
}

// Nothing else is a space.
func TestDeskOtherSpaces(t *testing.T) {
	for _, gap := range []string{"\t", "\r", "\v", "\f", "\x00", "\u00a0", "\u0085", "\u2003", "\u2028", "\u3000", "\ufeff", "\u200b", "_", ",", "\xff", "\xc3", "\xe2\x80"} {
		for _, line := range []string{gap, "make" + gap + "/a", "make " + gap + " /a", "make /a" + gap, gap + "make /a", "make /a " + gap, "tree" + gap, gap + "tree", "tree " + gap, "put /a" + gap + "x", "put /a x" + gap, "give 0" + gap, "give" + gap + "0"} {
			wantDesk(t, line, "what\n")
			wantDesk(t, "make /b\n"+line+"\ntree", "fine\nwhat\nd /b\nend\n")
		}
		wantDesk(t, "list /"+gap, "bad\n")
		wantDesk(t, "read 0 /a"+gap, "-\n")
		wantDesk(t, "ask 0 /a"+gap, "bad\n")
	}
	// A carriage return ahead of a newline is part of the word ahead of it.
	wantDesk(t, "tree\r\nnet\r\nnet\n", "what\nwhat\n0 0\n")
}

// DeskMaxText bytes may be there, whatever bytes they are; one more is too long, and nothing else is answered.
func TestDeskMaxText(t *testing.T) {
	for _, c := range []struct{ head, fill, tail, want string }{
		{"", " ", "", ""},
		{"", "\n", "", ""},
		{"tree", " ", "", "end\n"},
		{"tree", "\n", "", "end\n"},
		{"", " ", "tree", "end\n"},
		{"", " ", "tree\n", "end\n"},
		{"make /a\n", " ", "tree", "fine\nd /a\nend\n"},
		{"make /a\n", "\n", "tree", "fine\nfull\n"},
		{"", "x", "", "what\n"},
		{"", "\xff", "", "what\n"},
		{"", "\x00", "", "what\n"},
		{"net ", "0", "", "what\n"},
		{"list ", "/", "", "bad\n"},
		{"give ", "9", "\n", "what\n"},
	} {
		at := func(n int) string {
			return c.head + strings.Repeat(c.fill, n-len(c.head)-len(c.tail)) + c.tail
		}
		wantDesk(t, at(impl.DeskMaxText-1), c.want)
		wantDesk(t, at(impl.DeskMaxText), c.want)
		wantDesk(t, at(impl.DeskMaxText+1), "long\n")
		wantDesk(t, at(impl.DeskMaxText+1)+"\n", "long\n")
		wantDesk(t, at(10*impl.DeskMaxText), "long\n")
	}
	// Bytes count, not letters.
	wide := strings.Repeat("日", impl.DeskMaxText/3)
	wantDesk(t, wide+"xx", "what\n")
	wantDesk(t, wide+"xxx", "long\n")
	wantDesk(t, wide+"日", "long\n")
}

// DeskMaxLines lines of any kind may be ahead of a line with words, and no more than those that have words ask for it.
func TestDeskMaxLines(t *testing.T) {
	for _, c := range []struct{ line, want string }{
		{"", ""}, {"  ", ""}, {"try", "none\n"}, {"fly", "what\n"}, {"make /a b", "what\n"}, {"net", "0 0\n"}, {"tree ", "end\n"}, {"give x", "what\n"},
	} {
		ahead := func(n int) (string, string) {
			return strings.Repeat(c.line+"\n", n), strings.Repeat(c.want, n)
		}
		script, want := ahead(impl.DeskMaxLines - 1)
		wantDesk(t, script+"net", want+"0 0\n")
		wantDesk(t, script+"net\ntick", want+"0 0\nfull\n")
		wantDesk(t, script+"\ntick", want+"full\n")
		wantDesk(t, script+" \ntick\n", want+"full\n")
		script, want = ahead(impl.DeskMaxLines)
		wantDesk(t, script, want)
		wantDesk(t, script+"\n\n   \n", want)
		wantDesk(t, script+"net", want+"full\n")
		wantDesk(t, script+"net\n", want+"full\n")
		wantDesk(t, script+" net  \ntree\nfly\n", want+"full\n")
		wantDesk(t, script+"fly", want+"full\n")
		wantDesk(t, script+"make /a b c", want+"full\n")
		wantDesk(t, script+"\n\n\nnet\n", want+"full\n")
		script, want = ahead(impl.DeskMaxLines + 1)
		if c.want != "" {
			want = strings.Repeat(c.want, impl.DeskMaxLines) + "full\n"
		}
		wantDesk(t, script, want)
	}
	// Lines without words count like any other.
	half := impl.DeskMaxLines / 2
	wantDesk(t, strings.Repeat("\nnet\n", half)+"tree", strings.Repeat("0 0\n", half)+"full\n")
	wantDesk(t, strings.Repeat("net\n\n", half)+"tree", strings.Repeat("0 0\n", half)+"full\n")
	wantDesk(t, strings.Repeat("net\n \n", half-1)+"net\ntree", strings.Repeat("0 0\n", half)+"end\n")
}

// manyAnswers is a script that answers just so many bytes, and how many.
func manyAnswers(t *testing.T, trees, tries, nets int) (string, string) {
	t.Helper()
	script, want := scriptOf(slices.Concat(fullRows(), always(trees, "tree", fullTree()), always(tries, "try", "none\n"), always(nets, "net", "0 0\n")))
	return script + "\n", want
}

// Answers of DeskMaxOut bytes may be ahead of a line with words; behind one byte more there is no room. No answer is cut.
func TestDeskMaxOut(t *testing.T) {
	for _, c := range []struct {
		trees, tries, nets int
		bytes              int
		full               bool
	}{
		{60, 23, 1, 19999, false},
		{60, 24, 0, 20000, false},
		{60, 21, 4, 20001, true},
		{60, 22, 3, 20002, true},
		{61, 0, 0, 20210, true},
	} {
		script, want := manyAnswers(t, c.trees, c.tries, c.nets)
		if len(want) != c.bytes {
			t.Fatalf("%d bytes are wanted, and not %d", len(want), c.bytes)
		}
		wantDesk(t, script, want)
		wantDesk(t, script+"\n\n  \n", want)
		if c.full {
			for _, line := range []string{"net", "tree", "fly", "make /a b", " net ", "\n\nnet", "net\nnet\n", "tree\ntree\nfly"} {
				wantDesk(t, script+line, want+"full\n")
			}
			continue
		}
		wantDesk(t, script+"fly", want+"what\n")
		wantDesk(t, script+"tree\nfly\n", want+fullTree()+"full\n")
		wantDesk(t, script+"\n tree \n\n", want+fullTree())
		wantDesk(t, script+"tree\n"+"tree", want+fullTree()+"full\n")
	}
}

// The two bounds at once are told once.
func TestDeskFullTwice(t *testing.T) {
	script, want := manyAnswers(t, 61, 0, 0)
	wantDesk(t, script+strings.Repeat("\n", impl.DeskMaxLines)+"net\nnet", want+"full\n")
	wantDesk(t, script+strings.Repeat("\n", impl.DeskMaxText-len(script)-3)+"net", want+"full\n")
	wantDesk(t, script+strings.Repeat("\n", impl.DeskMaxText-len(script)-2)+"net", "long\n")
}

// someScripts are unlike in what they leave behind: trees, layers, leases, what waits, and what is under way.
func someScripts() []string {
	example, _ := scriptOf(saidOf(exampleRows))
	full, _ := scriptOf(fullRows())
	scripts := []string{
		"", "tree\nupper\nnet\nlist /\ntry\nread 0 /c\ngive 0", example, full,
		"push\npush\npush\npush\npush\nupper", "put /c x\nask 0 /c\ngive 0\ngive 0\nread 0 /c\nrm /c\nnet", "tick\ntick\nask 1 /c\nask 2 /c\ngive 0\nnet\npush",
		strings.Repeat("net\n", impl.DeskMaxLines+1), strings.Repeat(" ", impl.DeskMaxText+1), "fly\nmake /c d\ngive 00",
	}
	for cut := range saidOf(exampleRows) {
		part, _ := scriptOf(saidOf(exampleRows)[:cut])
		scripts = append(scripts, part)
	}
	return scripts
}

// Nothing is kept between two calls: a script answers the same, whatever was run ahead of it, and beside it.
func TestDeskKeepsNothing(t *testing.T) {
	scripts := someScripts()
	first := map[string]string{}
	for _, script := range scripts {
		first[script] = deskRun(t, script)
	}
	for _, between := range scripts {
		for _, script := range scripts {
			impl.DeskRun(between)
			wantDesk(t, script, first[script])
		}
	}
	var all sync.WaitGroup
	wrong := make([]string, 8)
	for i := range wrong {
		all.Go(func() {
			for at := range scripts {
				script := scripts[(at*(2*i+1)+i)%len(scripts)]
				if got := impl.DeskRun(script); got != first[script] {
					wrong[i] = fmt.Sprintf("beside others DeskRun(%q) = %q; want %q", brief(script), brief(got), brief(first[script]))
				}
			}
		})
	}
	all.Wait()
	for _, what := range wrong {
		if what != "" {
			t.Error(what)
		}
	}
}
