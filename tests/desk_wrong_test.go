package tests

import (
	"slices"
	"strconv"
	"strings"
	"testing"

	"loop.example/pargeting/impl"
)

// deskWords are the first words of the lines, each with how many words may be behind it.
func deskWords() map[string][]int {
	return map[string][]int{
		"make": {1}, "put": {1, 2}, "rm": {1}, "rmdir": {1}, "move": {2},
		"ask": {2}, "try": {0}, "tick": {0}, "give": {1}, "lose": {1}, "copy": {1},
		"read": {2}, "tree": {0}, "list": {1}, "upper": {0}, "push": {0}, "flat": {0}, "sink": {0}, "net": {0},
	}
}

// A word too many or too few, whatever it is, makes it no line.
func TestDeskWordsTooManyOrTooFew(t *testing.T) {
	for word, counts := range deskWords() {
		for _, more := range []string{"/a", "0", "x", "-", word, "/"} {
			for _, count := range []int{0, 1, 2, 3, 4, 5, 6, 7, 50, 255, 256, 257, 258, 1000} {
				line := word + strings.Repeat(" "+more, count)
				if got := deskRun(t, line); !slices.Contains(counts, count) && got != "what\n" {
					t.Errorf("DeskRun(%q) = %q; want what", brief(line), brief(got))
				}
			}
		}
	}
}

// Where they are just so many, and right, it is one. Only what is put may be with a word more or less.
func TestDeskWordsOneMoreOrLess(t *testing.T) {
	for _, line := range []string{
		"make /a", "put /a x", "put /a", "rm /a", "rmdir /a", "move /a /b", "ask 0 /a", "try", "tick", "give 0", "lose 0", "copy 0",
		"read 0 /a", "tree", "list /a", "upper", "push", "flat", "sink", "net",
	} {
		if got := deskRun(t, line); got == "what\n" || got == "" {
			t.Errorf("DeskRun(%q) = %q", line, got)
		}
		if line != "put /a" {
			wantDesk(t, line+" x", "what\n")
		}
		if gap := strings.LastIndex(line, " "); gap > 0 && line != "put /a x" {
			wantDesk(t, line[:gap], "what\n")
		}
	}
}

// wrongLines are no lines, each in one way.
func wrongLines() []string {
	lines := []string{
		// Words that begin no line, some of which are answers.
		"fly", "mkdir /a", "Make /a", "MAKE /a", "makes /a", "mak /a", "ma", "m", "rmd /a", "rmdirs /a", "puts /a x", "mv /a /b", "cp 0", "ls /", "cat /a", "drop", "view", "lower",
		"trees", "Tree", "up", "uppers", "pushes", "pull", "sinks", "flats", "nets", "fine", "bad", "none", "end", "what", "full", "long", "-", "0", "0 0", "/a", "/", "f /a", "d /a",
		"write /a", "recall 0", "back 0", "grant 0 /a", "help", "exit", "quit", ";", "#", "# tree", "tree;", "tree,net", "tree#", "\"tree\"", "'tree'", "tree\\n", "tree\\", "$tree", "tree=",
		// Letters and bytes that are none of the words.
		"é", "tréé", "ｔｒｅｅ", "日本", "tree\x00", "\x00tree", "\x00", "tree\xff", "\xfftree", "\xff", "\xc3", "tree \xc3", "\xe2\x82 tree", "tr\xffee", "\xed\xa0\x80", "\ufeffnet", "net\u200b", "ne\u0301t",
		"make\xff /a", "make\xc3 /a", "make \xff", "make /a\xff", "make \xff/a", "put /a \xff", "put /a x\xff", "put /\xff x", "move /a /\xff", "give \xff", "give 0\xff", "ask \xff /a", "read 0\xff /a",
		// Paths that are none, and no data.
		"make a", "make /", "make //a", "make /a/", "make /abcd", "make /a/b/c/d", "make /A", "make /a1", "make -", "rm /", "rm a", "rmdir /", "rmdir /a//b", "put / x", "put a x", "put /a X", "put /a abcdefg",
		"put /a -", "put /a x.y", "put /a é", "put /a /a", "put x /a", "move / /a", "move /a /", "move /a b", "move a /b", "move /a 0",
		// A word too many or too few.
		"make", "put", "rm", "rmdir", "move", "move /a", "make /a x", "put /a x y", "rm /a x", "rm /a /b", "rmdir /a /b", "move /a /b x", "move /a /b /c", "ask", "ask 0", "ask /a", "ask 0 /a x", "ask 0 1 /a",
		"try 0", "tick 1", "give", "give 0 0", "lose", "lose 0 1", "copy", "copy 0 2", "read", "read 0", "read /a", "read 0 /a x", "tree /", "tree x", "list", "list / /", "upper 0", "push 1", "flat 2", "sink 3", "net 0",
		// The words in another order.
		"/a make", "/a put x", "0 give", "/ list", "ask /a 0", "read /a 0", "give give", "tree net", "try try",
	}
	for _, number := range wrongNumbers() {
		lines = append(lines, "give "+number, "lose "+number, "copy "+number, "ask "+number+" /c", "read "+number+" /c")
	}
	return lines
}

// wrongNumbers are no numbers as the document writes them; some would be 0 if they were.
func wrongNumbers() []string {
	return []string{
		"00", "000", "01", "007", "-0", "-00", "-01", "+0", "+1", "--1", "-", "+", "- 1", "1-", "0-", "1-1", "0.", ".0", "0.0", "1.5", "1e0", "0e0", "1e2", "0x0", "0x1", "0b0", "0o0", "1_0", "0_0", "_0", "1,0",
		"x", "a", "one", "zero", "nil", "true", "/a", "/", "O", "o", "l", "#0", "0#", "'0'", "\"0\"", "(0)", "0;", "0\x00", "\x000", "0\t", "\t0",
		"٠", "０", "१", "²", "½", "Ⅰ", "0\u0301", "\ufeff0", "0\u200b", "−1", "–1", "\xff", "0\xff", "\xff0", "0\xc3", "1\x80", "∞", "NaN", "Inf", "-Inf",
		"100000000000000000", "-100000000000000000", "000000000000000000", "999999999999999999", "9223372036854775807", "-9223372036854775808", "9223372036854775808", "18446744073709551615", "18446744073709551616",
		"-18446744073709551616", "36893488147419103232", "340282366920938463463374607431768211456", "00000000000000000", "-00000000000000001", "10000000000000000000000000", strings.Repeat("0", 5000), strings.Repeat("9", 5000), "1" + strings.Repeat("0", 5000),
	}
}

func TestDeskWrongLines(t *testing.T) {
	for _, line := range wrongLines() {
		wantDesk(t, line, "what\n")
		wantDesk(t, line+"\n", "what\n")
		wantDesk(t, " "+line+"  \n", "what\n")
		wantDesk(t, "make /a\n"+line+"\n"+line+"\ntree", "fine\nwhat\nwhat\nd /a\nend\n")
	}
}

// At a line that is none nothing is done, wherever it stands.
func TestDeskWrongLinesDoNothing(t *testing.T) {
	t.Parallel()
	example := saidOf(exampleRows)
	for i, line := range wrongLines() {
		for at := range len(example) + 1 {
			if (i+at)%3 == 0 {
				script, want := scriptOf(slices.Insert(slices.Clone(example), at, said{line, "what\n"}))
				if got := impl.DeskRun(script); got != want {
					t.Fatalf("DeskRun(%q) = %q; want %q", brief(script), brief(got), brief(want))
				}
			}
		}
	}
}

// Numbers are those of places, and of readers; any other that is written right is none.
func TestDeskNumbers(t *testing.T) {
	ahead := "put /c x\nask 0 /c\nask 1 /c\nask 2 /c\n"
	fine := strings.Repeat("fine\n", 4)
	for _, word := range []string{"give", "lose", "copy"} {
		for n := range 3 {
			wantDesk(t, ahead+word+" "+strconv.Itoa(n), fine+"fine\n")
		}
		for _, n := range otherNumbers() {
			wantDesk(t, ahead+word+" "+n+"\nnet", fine+"none\n3 0\n")
		}
		for _, n := range wrongNumbers() {
			wantDesk(t, ahead+word+" "+n+"\nnet", fine+"what\n3 0\n")
		}
	}
	held := ahead + strings.Repeat("give 0\n", 6)
	fine = strings.Repeat("fine\n", 10)
	for n := range impl.WhoMost {
		wantDesk(t, held+"read "+strconv.Itoa(n)+" /c", fine+"f /c x\n")
		wantDesk(t, held+"ask "+strconv.Itoa(n)+" /c\nnet", fine+"fine\n1 3\n")
	}
	for _, n := range otherNumbers() {
		wantDesk(t, held+"read "+n+" /c", fine+"-\n")
		wantDesk(t, held+"ask "+n+" /c\nnet", fine+"bad\n0 3\n")
	}
	for _, n := range wrongNumbers() {
		wantDesk(t, held+"read "+n+" /c", fine+"what\n")
		wantDesk(t, held+"ask "+n+" /c\nnet", fine+"what\n0 3\n")
	}
}

// otherNumbers are written right, but are no place of three, and no reader.
func otherNumbers() []string {
	return []string{
		"3", "4", "9", "10", "12", "100", "255", "256", "257", "65536", "2147483647", "2147483648", "4294967295", "4294967296", "4294967297", "8589934592",
		"9999999999999999", "10000000000000000", "12345678901234567", "99999999999999999",
		"-1", "-2", "-3", "-10", "-256", "-4294967296", "-4294967295", "-9999999999999999", "-10000000000000000", "-99999999999999999",
	}
}

// Paths that are none: what writes is no line then, all others say so in their own way.
func TestDeskWrongPaths(t *testing.T) {
	for _, path := range append(badPaths(), "/") {
		if path == "" || len(path) > impl.DeskMaxText-20 || strings.ContainsAny(path, " \n") {
			continue
		}
		for _, line := range []string{"make " + path, "put " + path, "put " + path + " x", "rm " + path, "rmdir " + path, "move " + path + " /q", "move /a " + path, "move " + path + " " + path} {
			wantDesk(t, "make /a\n"+line+"\ntree", "fine\nwhat\nd /a\nend\n")
		}
		wantDesk(t, "ask 0 "+path+"\nnet", "bad\n0 0\n")
		wantDesk(t, "ask 7 "+path+"\nnet", "bad\n0 0\n")
		wantDesk(t, "read 0 "+path, "-\n")
		if path != "/" {
			wantDesk(t, "list "+path, "bad\n")
		}
	}
	for _, data := range badData() {
		if data == "" || len(data) > impl.DeskMaxText-20 || strings.ContainsAny(data, " \n") {
			continue
		}
		wantDesk(t, "put /a "+data+"\ntree", "what\nend\n")
	}
}

// Texts of any bytes: each line that has words has an answer, and none ends it.
func TestDeskOfAnyBytes(t *testing.T) {
	for b := range 256 {
		one := string([]byte{byte(b)})
		for _, script := range []string{one, one + one, "tree" + one, one + "tree", "tree" + one + "tree", "make /a" + one, "make " + one, "put /a " + one, "give " + one, "give 0" + one, "make /a\n" + one + "\ntree", strings.Repeat(one, 1000), strings.Repeat(one+"\n", 150)} {
			got := deskRun(t, script)
			words := 0
			for line := range strings.SplitSeq(script, "\n") {
				if strings.Trim(line, " ") != "" {
					words++
				}
			}
			if lines := strings.Count(got, "\n"); lines < words || words == 0 && lines > 0 {
				t.Errorf("DeskRun(%q) = %q, of %d lines with words", brief(script), brief(got), words)
			}
		}
	}
	for _, text := range append(strangeTexts(), badNames()...) {
		deskRun(t, text)
		deskRun(t, "list "+text)
		deskRun(t, "make /a\n"+text+"\ntree")
	}
}
