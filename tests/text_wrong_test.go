package tests

import (
	"slices"
	"strings"
	"testing"

	"loop.example/pargeting/impl"
)

// What is not ok has no text, though its lines could be written.
func TestTextOfBroken(t *testing.T) {
	for _, tree := range brokenTrees() {
		if got := treeText(t, tree); got != "" {
			t.Errorf("TreeText(%v) = %q", brief(tree), short(got))
		}
	}
	for _, l := range brokenLayers() {
		if got := layerText(t, l); got != "" {
			t.Errorf("LayerText(%v) = %q", brief(l), short(got))
		}
	}
	for _, op := range wrongOps() {
		if got := opText(t, op); got != "" {
			t.Errorf("OpText(%v) = %q", brief(op), short(got))
		}
	}
}

// twoWords is no path, but is read as one with data behind it.
const twoWords = "/a b"

// The lines of a tree that is not ok are those of none; but Data of a directory is not in them.
func TestReadOfBroken(t *testing.T) {
	for _, tree := range brokenTrees() {
		if slices.ContainsFunc(tree, func(e impl.Ent) bool { return e.Dir && e.Data != "" || e.Path == twoWords }) {
			continue
		}
		text := ""
		for _, e := range tree {
			text += entText(t, e) + "\n"
		}
		wantNoTree(t, text)
	}
	for _, l := range brokenLayers() {
		if slices.ContainsFunc(l, func(m impl.Mark) bool {
			return m.Kind != impl.MarkFile && m.Data != "" || m.Kind < 1 || m.Kind > 4 || m.Path == twoWords
		}) {
			continue
		}
		text := ""
		for _, m := range l {
			text += markText(t, m) + "\n"
		}
		wantNoLayer(t, text)
	}
}

// badLines are lines that neither a tree nor a layer has, each in one way by itself.
func badLines() []string {
	lines := []string{
		// No line, and no words.
		"", " ", "  ", "   ",
		// A word that is no kind.
		"q /a", "q /a x", "D /a", "F /a", "X /a", "B /a", "dd /a", "df /a", "ff /a", "fd /a x", "dir /a", "file /a", "e /a", "c /a", "g /a", "0 /a", "1 /a", "- /a",
		"make /a", "put /a x", "rm /a", "rmdir /a", "move /a /b", "end", "é /a", "ｄ /a", "\xff /a", "\x00 /a", "d\x00 /a", "d\ufeff /a", "\ufeffd /a",
		// No space, or another one.
		"d", "f", "x", "b", "d/a", "f/a", "f/a x", "/a", "/a x", "x", "/a d", "d\t/a", "f\t/a\tx", "d\u00a0/a", "f /a\u00a0x", "d\u2003/a", "d\u3000/a", "d\r/a", "d\v/a", "d_/a", "d:/a",
		// Two spaces, and a space ahead or at the end.
		"d  /a", "f  /a", "f /a  x", "f  /a x", "x  /a", "b  /a", "d   /a", " d /a", " f /a x", " x /a", " b /a", "\td /a",
		"d /a ", "f /a ", "f /a  ", "f /a x ", "x /a ", "b /a ", "d ", "f ", "x ", "b ", "d  ", "f  x", "f  ", "f   ",
		// One word too few, or too many.
		"d x", "f x", "f x /a", "f /a x y", "f /a x /b", "f /a x x", "d /a /b", "x /a /b", "b /a /b", "f /a /b", "d d /a", "f f /a", "f /a f /b", "f /a x f /b x", "d /a d /b",
		// Data of a kind that has none.
		"d /a x", "x /a x", "b /a x", "d /a 0", "d /a abc123", "d /a x y",
		// Other ends of lines.
		"d /a\r", "f /a\r", "f /a x\r", "x /a\r", "b /a\r", "d /a\x00", "d /a\v", "d /a\f", "d /a\u2028", "d /a\u0085", "d /a\u00a0", "d /a\\n",
		// Nothing but what is said, no signs around it.
		"\"d\" /a", "d \"/a\"", "f /a \"x\"", "f /a ''", "d /a;", "d /a,", "# d /a", "d /a #", "f /a=x", "f /a x,y",
		// Bytes that are no runes.
		"\xff", "d \xff", "d /a\xff", "d /\xff", "f /a \xff", "f /a x\xff", "f /a\xffx", "f\xff/a x", "d\xc3 /a", "d /a\xc3", "\xc3d /a", "d\xc0\xa0/a", "d /a\xc0\x8a", "d\xe2\x80 /a",
		strings.Repeat("d", 100000), strings.Repeat(" ", 100000), strings.Repeat("d ", 50000), "d " + strings.Repeat("/a", 50000), strings.Repeat("\xff", 100000), "f /a " + strings.Repeat("x", 100000), "f /a" + strings.Repeat(" x", 50000),
	}
	// A line that is right, but whose path is none.
	for _, path := range append(badPaths(), "/") {
		lines = append(lines, "d "+path, "x "+path, "b "+path, "f "+path+" x")
		if path != twoWords {
			lines = append(lines, "f "+path)
		}
	}
	for _, data := range badData() {
		lines = append(lines, "f /a "+data)
	}
	return lines
}

func TestReadOfBadLines(t *testing.T) {
	for _, line := range badLines() {
		wantNeither(t, line+"\n")
		wantNeither(t, "d /a\n"+line+"\n")
		wantNeither(t, line+"\nf /zzz\n")
		wantNeither(t, "d /a\nf /a/b x\n"+line+"\nf /zzz\n")
		if line != "" && !strings.HasSuffix(line, "\n") {
			wantNeither(t, line)
		}
	}
}

func TestReadWithoutLastNewline(t *testing.T) {
	for _, tree := range goodTrees() {
		if text := treeText(t, tree); text != "" {
			wantNoTree(t, text[:len(text)-1])
			wantNoTree(t, text+"\n")
			wantNoTree(t, "\n"+text)
			wantNoTree(t, strings.Replace(text, "\n", "\n\n", 1))
			wantNoTree(t, strings.ReplaceAll(text, "\n", "\r\n"))
			wantNoTree(t, text+" ")
			wantNoTree(t, " "+text)
			wantNoTree(t, text+"\x00")
			wantNoTree(t, text+"end\n")
			wantNoTree(t, text+text)
		}
	}
	for _, l := range goodLayers() {
		if text := layerText(t, l); text != "" {
			wantNoLayer(t, text[:len(text)-1])
			wantNoLayer(t, text+"\n")
			wantNoLayer(t, "\n"+text)
			wantNoLayer(t, strings.Replace(text, "\n", "\n\n", 1))
			wantNoLayer(t, strings.ReplaceAll(text, "\n", "\r\n"))
			wantNoLayer(t, text+" ")
			wantNoLayer(t, " "+text)
			wantNoLayer(t, text+"\x00")
			wantNoLayer(t, text+"end\n")
			wantNoLayer(t, text+text)
		}
	}
	for _, text := range []string{"\n", "\n\n", " ", " \n", "d /a", "d /a\nf /b", "d /a\nf /b x", "d /a\n\nf /b\n", "d /a\n \nf /b\n", "\nd /a\n"} {
		wantNeither(t, text)
	}
}

// Lines that are right, each by itself, but not together.
func TestReadOfLinesNotOk(t *testing.T) {
	for _, text := range []string{
		// Not in order.
		"f /b\nf /a\n", "f /b x\nd /a\n", "f /a/b\nd /a\n", "d /a\nf /ab\nf /a/b\n", "d /a\nf /a/c\nf /a/b\n",
		// Twice.
		"d /a\nd /a\n", "f /a\nf /a\n", "f /a x\nf /a x\n", "f /a x\nf /a y\n", "d /a\nf /a\n", "f /a\nd /a\n", "d /a\nf /a/b\nf /a/b\n",
		// In nothing, and in a file.
		"f /a/b\n", "d /a/b\n", "d /a\nf /a/b/c\n", "d /a\nf /ab/c\n", "f /a\nf /a/b\n", "f /a x\nd /a/b\n",
	} {
		wantNeither(t, text)
	}
	for _, text := range []string{
		"x /b\nx /a\n", "x /a\nx /a\n", "b /a\nb /a\n", "d /a\nb /a\n", "x /a\nf /a\n",
		"x /a/b\n", "b /a/b\n", "x /a\nf /a/b\n", "x /a\nx /a/b\n", "f /a\nx /a/b\n",
		"b /a\nx /a/b\n", "b /a\nb /a/b\n", "b /a\nd /a/b\nx /a/b/c\n", "b /a\nd /a/b\nb /a/b/c\n",
	} {
		wantNeither(t, text)
	}
}

// What only a layer has is in no tree.
func TestTreeReadOfLayers(t *testing.T) {
	for _, text := range []string{"x /a\n", "b /a\n", "d /a\nx /a/b\n", "d /a\nb /a/b\n", "b /a\nf /a/b x\n", "f /a\nx /b\n", "x /a\nf /b\n"} {
		wantNoTree(t, text)
		if l, ok := layerRead(t, text); !ok || layerText(t, l) != text {
			t.Errorf("LayerRead(%q) = %v, %v", text, l, ok)
		}
	}
}

// badOpTexts are texts of nothing that is done, each in one way by itself.
func badOpTexts() []string {
	texts := []string{
		"", " ", "  ", "\n", "\n\n", "\x00",
		// A word that is no kind.
		"fly /a", "Make /a", "MAKE /a", "mak /a", "makes /a", "mkdir /a", "pu /a", "puts /a x", "r /a", "rmd /a", "rmdi /a", "rmdirs /a", "mov /a /b", "moves /a /b", "mv /a /b", "del /a", "1 /a", "2 /a x",
		"d /a", "f /a x", "x /a", "b /a", "ask 0 /a", "try", "tick", "é /a", "\xff /a", "make\x00 /a", "\ufeffmake /a",
		// No space, or another one.
		"make", "put", "rm", "rmdir", "move", "make/a", "put/a x", "rm/a", "rmdir/a", "move/a /b", "move /a/b", "/a", "/a make", "make\t/a", "put /a\tx", "move\t/a\t/b", "make\n/a", "put /a\nx", "move /a\n/b", "make\u00a0/a",
		// Two spaces, and a space ahead or at the end.
		"make  /a", "put  /a x", "put /a  x", "rm  /a", "rmdir  /a", "move  /a /b", "move /a  /b", " make /a", " put /a x", " rm /a", " rmdir /a", " move /a /b",
		"make /a ", "put /a ", "put /a  ", "put /a x ", "rm /a ", "rmdir /a ", "move /a /b ", "move /a ", "make ", "put ", "put  x", "rm ", "rmdir ", "move ", "move  /b", "move  ", "make  ",
		// One word too few, or too many.
		"move /a", "put x", "make /a /b", "rm /a /b", "rmdir /a /b", "put /a x y", "put /a /b x", "move /a /b /c", "move /a /b x", "move /a x", "make make /a", "make /a make /b",
		// Data of a kind that has none, and To of one that has none.
		"make /a x", "rm /a x", "rmdir /a x", "make /a 0", "put /a /b",
		// A newline, and other ends.
		"make /a\n", "put /a x\n", "put /a\n", "rm /a\n", "rmdir /a\n", "move /a /b\n", "\nmake /a", "make /a\n\n", "make /a\nmake /b", "make /a\nmake /b\n", "make /a\r", "make /a\r\n", "put /a x\r", "make /a\x00", "make /a\u2028",
		// The root, and data that is none.
		"rm /", "make /", "put / x", "rmdir /", "move / /a", "move /a /", "put /a A", "put /a -", "put /a é", "put /a 1234567",
		// Bytes that are no runes.
		"\xff", "make \xff", "make /a\xff", "put /a \xff", "put /a x\xff", "move /a /\xff", "make\xff/a", "make\xc0\xa0/a", "put\xc3 /a",
		strings.Repeat("make ", 20000), strings.Repeat(" ", 100000), strings.Repeat("\n", 100000), "make /a" + strings.Repeat("\n", 100000), strings.Repeat("m", 100000), strings.Repeat("\xff", 100000),
	}
	for _, path := range append(badPaths(), "/") {
		texts = append(texts, "make "+path, "rm "+path, "rmdir "+path, "move /a "+path, "move "+path+" /a", "put "+path+" x")
		if path != twoWords {
			texts = append(texts, "put "+path)
		}
	}
	for _, data := range badData() {
		texts = append(texts, "put /a "+data)
	}
	return texts
}

func TestOpReadWrong(t *testing.T) {
	for _, text := range badOpTexts() {
		wantNoOp(t, text)
	}
	// The texts of trees and layers are not those of what is done, nor the other way round.
	for _, text := range []string{"d /a\n", "f /a x\n", "d /a", "f /a x", "x /a", "b /a"} {
		wantNoOp(t, text)
	}
	for _, text := range []string{"make /a", "put /a x", "put /a", "rm /a", "rmdir /a", "move /a /b"} {
		wantNeither(t, text)
		wantNeither(t, text+"\n")
	}
}

// Data and paths that are no such, but would be read as another line, are neither written nor read so.
func TestTextsWithinTexts(t *testing.T) {
	for _, data := range []string{"x\nf /b y", "\nf /b", "x\n", "x y", " x", "x ", "\n", " ", "x\nd /b\n"} {
		for _, tree := range [][]impl.Ent{treeWith(fileAt("/a", data)), treeWith(fileAt("/a"+data, ""))} {
			if got := treeText(t, tree); got != "" {
				t.Errorf("TreeText(%v) = %q", tree, got)
			}
		}
		for _, l := range [][]impl.Mark{layerWith(fileMark("/a", data)), layerWith(goneMark("/a" + data))} {
			if got := layerText(t, l); got != "" {
				t.Errorf("LayerText(%v) = %q", l, got)
			}
		}
		for _, op := range []impl.Op{putOp("/a", data), putOp("/a"+data, ""), moveOp("/a", "/b"+data), makeOp("/a" + data)} {
			if got := opText(t, op); got != "" {
				t.Errorf("OpText(%v) = %q", op, got)
			}
		}
	}
	// What the lines of two say is read as two, whoever wrote them.
	wantTreeText(t, treeWith(fileAt("/a", "x"), fileAt("/b", "y")), entText(t, fileAt("/a", "x\nf /b y"))+"\n")
}

func TestReadOfVeryMany(t *testing.T) {
	lines := ""
	for _, name := range manyNames(400) {
		lines += "f /" + name + " x\n"
	}
	for _, text := range []string{
		lines, strings.Repeat("d /a\n", 20000), strings.Repeat("\n", 1000000), strings.Repeat(" ", 1000000), strings.Repeat("d ", 500000), strings.Repeat("a", 1000000),
		strings.Repeat("\xff\n", 100000), strings.Repeat("x /a ", 100000), "d /a\n" + strings.Repeat("f", 1000000), "d /a\n" + strings.Repeat("\x00", 1000000),
	} {
		wantNeither(t, text)
		wantNoOp(t, text)
	}
}
