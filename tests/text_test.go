package tests

import (
	"strings"
	"testing"

	"loop.example/pargeting/impl"
)

func wantEntText(t *testing.T, e impl.Ent, want string) {
	t.Helper()
	if got := entText(t, e); got != want {
		t.Errorf("EntText(%v) = %q; want %q", brief(e), short(got), short(want))
	}
}

func wantMarkText(t *testing.T, m impl.Mark, want string) {
	t.Helper()
	if got := markText(t, m); got != want {
		t.Errorf("MarkText(%v) = %q; want %q", brief(m), short(got), short(want))
	}
}

func TestEntText(t *testing.T) {
	wantEntText(t, dirAt("/a"), "d /a")
	wantEntText(t, dirAt("/a/b/c"), "d /a/b/c")
	wantEntText(t, fileAt("/a", "x"), "f /a x")
	wantEntText(t, fileAt("/abc/abc/abc", "abc123"), "f /abc/abc/abc abc123")
	// A file of nothing has no space behind its path.
	wantEntText(t, fileAt("/a", ""), "f /a")
	wantEntText(t, dirAt("/"), "d /")
}

// strangeTexts are such as may stand as any Path and Data of what is not ok.
func strangeTexts() []string {
	return []string{
		" ", "  ", "\n", "a b", "/a b", " /a", "/a ", "/a\n", "/a\nd /b", "\x00", "é", "日本", "\xff", "a\xffb", "\xc3", "\xe2\x82 ", "\xc3\n", "\ufffd",
		"d", "f", "x", "b", "d /a", "f /a x", "%d", "%s%v", "\"", "`", "\\n", "1234567", strings.Repeat("a", 100000), strings.Repeat("\xff ", 50000),
	}
}

func TestEntTextOfAnything(t *testing.T) {
	wantEntText(t, impl.Ent{}, "f ")
	wantEntText(t, dirAt(""), "d ")
	wantEntText(t, fileAt("", "x"), "f  x")
	// The Data of a directory is not written.
	wantEntText(t, impl.Ent{Path: "/a", Dir: true, Data: "x"}, "d /a")
	wantEntText(t, impl.Ent{Dir: true, Data: "x"}, "d ")
	for _, s := range strangeTexts() {
		wantEntText(t, dirAt(s), "d "+s)
		wantEntText(t, fileAt(s, ""), "f "+s)
		wantEntText(t, fileAt("/a", s), "f /a "+s)
		wantEntText(t, fileAt(s, s), "f "+s+" "+s)
		wantEntText(t, impl.Ent{Path: "/a", Dir: true, Data: s}, "d /a")
		wantEntText(t, impl.Ent{Path: s, Dir: true, Data: s}, "d "+s)
	}
}

func TestMarkText(t *testing.T) {
	wantMarkText(t, dirMark("/a"), "d /a")
	wantMarkText(t, goneMark("/a"), "x /a")
	wantMarkText(t, bareMark("/a"), "b /a")
	wantMarkText(t, fileMark("/a", "x1"), "f /a x1")
	wantMarkText(t, fileMark("/a", ""), "f /a")
	wantMarkText(t, bareMark("/abc/abc/abc"), "b /abc/abc/abc")
	wantMarkText(t, fileMark("/abc/abc/abc", "abc123"), "f /abc/abc/abc abc123")
}

// noMarks are kinds that no mark is of; they are written as files.
func noMarks() []int {
	return []int{0, 5, 6, -1, -2, -3, -4, 100, 255, 256, 257, 258, 1 << 40, 1<<32 + 1, 1<<32 + 2, -1 << 63, 1<<63 - 1}
}

func TestMarkTextOfAnything(t *testing.T) {
	for _, kind := range append(noMarks(), impl.MarkFile) {
		wantMarkText(t, impl.Mark{Kind: kind}, "f ")
		wantMarkText(t, impl.Mark{Path: "/a", Kind: kind}, "f /a")
		wantMarkText(t, impl.Mark{Path: "/a", Kind: kind, Data: "x"}, "f /a x")
		wantMarkText(t, impl.Mark{Kind: kind, Data: "x"}, "f  x")
		for _, s := range strangeTexts() {
			wantMarkText(t, impl.Mark{Path: s, Kind: kind}, "f "+s)
			wantMarkText(t, impl.Mark{Path: "/a", Kind: kind, Data: s}, "f /a "+s)
			wantMarkText(t, impl.Mark{Path: s, Kind: kind, Data: s}, "f "+s+" "+s)
		}
	}
	// The Data of all other kinds is not written.
	for kind, word := range map[int]string{impl.MarkDir: "d", impl.MarkGone: "x", impl.MarkBare: "b"} {
		wantMarkText(t, impl.Mark{Kind: kind}, word+" ")
		wantMarkText(t, impl.Mark{Kind: kind, Data: "x"}, word+" ")
		wantMarkText(t, impl.Mark{Path: "/a", Kind: kind, Data: "x"}, word+" /a")
		for _, s := range strangeTexts() {
			wantMarkText(t, impl.Mark{Path: s, Kind: kind}, word+" "+s)
			wantMarkText(t, impl.Mark{Path: s, Kind: kind, Data: s}, word+" "+s)
		}
	}
}

func TestTreeTexts(t *testing.T) {
	wantTreeText(t, nil, "")
	wantTreeText(t, treeWith(), "")
	wantTreeText(t, treeWith(dirAt("/a")), "d /a\n")
	wantTreeText(t, treeWith(fileAt("/a", "")), "f /a\n")
	wantTreeText(t, treeWith(fileAt("/a", "z9")), "f /a z9\n")
	wantTreeText(t, treeWith(fileAt("/d", "d"), fileAt("/f", "f")), "f /d d\nf /f f\n")
	wantTreeText(t, someTree(), "d /a\nf /a/b x\nd /a/c\nf /a/c/d\nf /a/cc 1\nf /ab y\nd /e\n")
	// The longest names, and the most.
	wantTreeText(t, treeWith(dirAt("/abc"), dirAt("/abc/abc"), fileAt("/abc/abc/abc", "abc123")), "d /abc\nd /abc/abc\nf /abc/abc/abc abc123\n")
	wantTreeText(t, treeWith(dirAt("/a"), dirAt("/a/a"), dirAt("/a/a/a")), "d /a\nd /a/a\nd /a/a/a\n")
	for _, tree := range goodTrees() {
		text := treeText(t, tree)
		if strings.Count(text, "\n") != len(tree) {
			t.Errorf("TreeText(%v) = %q", tree, text)
		}
		wantTreeText(t, tree, text)
	}
}

func TestLayerTexts(t *testing.T) {
	wantLayerText(t, nil, "")
	wantLayerText(t, layerWith(), "")
	wantLayerText(t, layerWith(dirMark("/a")), "d /a\n")
	wantLayerText(t, layerWith(goneMark("/a")), "x /a\n")
	wantLayerText(t, layerWith(bareMark("/a")), "b /a\n")
	wantLayerText(t, layerWith(fileMark("/a", "")), "f /a\n")
	wantLayerText(t, layerWith(fileMark("/a", "z9")), "f /a z9\n")
	wantLayerText(t, layerWith(fileMark("/b", "b"), goneMark("/x")), "f /b b\nx /x\n")
	wantLayerText(t, someLayer(), "d /a\nx /a/b\nb /a/c\nf /a/c/q n\nd /ab\nd /ab/d\nx /ab/d/e\nb /ab/d/f\nf /ab/d/g\nf /f x1\nx /g\nb /h\nd /h/i\nd /h/i/j\nf /h/i/k 123456\n")
	wantLayerText(t, layerWith(bareMark("/abc"), dirMark("/abc/abc"), fileMark("/abc/abc/abc", "abc123")), "b /abc\nd /abc/abc\nf /abc/abc/abc abc123\n")
	for _, l := range goodLayers() {
		text := layerText(t, l)
		if strings.Count(text, "\n") != len(l) {
			t.Errorf("LayerText(%v) = %q", l, text)
		}
		wantLayerText(t, l, text)
	}
}

func TestOpTexts(t *testing.T) {
	wantOpText(t, makeOp("/a"), "make /a")
	wantOpText(t, putOp("/a", "x"), "put /a x")
	wantOpText(t, putOp("/a", ""), "put /a")
	wantOpText(t, rmOp("/a/b"), "rm /a/b")
	wantOpText(t, rmdirOp("/a"), "rmdir /a")
	wantOpText(t, moveOp("/a", "/b"), "move /a /b")
	wantOpText(t, moveOp("/a", "/a"), "move /a /a")
	wantOpText(t, putOp("/put", "put"), "put /put put")
	wantOpText(t, putOp("/rm", "move"), "put /rm move")
	for _, g := range goodPaths() {
		wantOpText(t, makeOp(g.path), "make "+g.path)
		wantOpText(t, putOp(g.path, ""), "put "+g.path)
		wantOpText(t, putOp(g.path, "abc123"), "put "+g.path+" abc123")
		wantOpText(t, rmOp(g.path), "rm "+g.path)
		wantOpText(t, rmdirOp(g.path), "rmdir "+g.path)
		wantOpText(t, moveOp(g.path, "/q"), "move "+g.path+" /q")
		wantOpText(t, moveOp("/q", g.path), "move /q "+g.path)
	}
}

// A tree is a layer too, of the same text: what it has is written as the marks of it are.
func TestTextOfTreeAsLayer(t *testing.T) {
	for _, tree := range goodTrees() {
		l := layerDiff(t, nil, tree)
		wantLayerText(t, l, treeText(t, tree))
	}
}

func TestTextOfTreeMost(t *testing.T) {
	for _, tree := range [][]impl.Ent{filesAnd(impl.TreeMost), filesAnd(impl.TreeMost, dirAt("/a"), fileAt("/a/b", ""))} {
		text := treeText(t, tree)
		wantTreeText(t, tree, text)
		wantNoTree(t, text+"f /zz\n")
		wantNoTree(t, text+"d /zz\n")
		if got, ok := layerRead(t, text+"f /zz\n"); len(got) != impl.TreeMost+1 || !ok {
			t.Errorf("LayerRead of one more than TreeMost = %v, %v", got, ok)
		}
	}
	if got := treeText(t, filesAnd(impl.TreeMost+1)); got != "" {
		t.Errorf("TreeText of one more than TreeMost = %q", got)
	}
}

func TestTextOfTwiceTreeMost(t *testing.T) {
	for _, l := range [][]impl.Mark{marksAnd(2 * impl.TreeMost), goneAnd(2*impl.TreeMost, bareMark("/a"), fileMark("/a/b", ""))} {
		text := layerText(t, l)
		wantLayerText(t, l, text)
		for _, more := range []string{"f /zz\n", "x /zz\n", "b /zz\n", "d /zz\n"} {
			wantNoLayer(t, text+more)
		}
		wantNoTree(t, text)
	}
	if got := layerText(t, marksAnd(2*impl.TreeMost+1)); got != "" {
		t.Errorf("LayerText of one more than twice TreeMost = %q", got)
	}
}

func TestTextOfDataMost(t *testing.T) {
	most := strings.Repeat("d", impl.DataMost)
	wantTreeText(t, treeWith(fileAt("/a", most)), "f /a "+most+"\n")
	wantLayerText(t, layerWith(fileMark("/a", most)), "f /a "+most+"\n")
	wantOpText(t, putOp("/a", most), "put /a "+most)
	wantNeither(t, "f /a "+most+"d\n")
	wantNoOp(t, "put /a "+most+"d")
	if treeText(t, treeWith(fileAt("/a", most+"d"))) != "" || layerText(t, layerWith(fileMark("/a", most+"d"))) != "" || opText(t, putOp("/a", most+"d")) != "" {
		t.Error("the text of one more than DataMost")
	}
}

func TestTextOfDeepest(t *testing.T) {
	deep, long := strings.Repeat("/a", impl.PathDeep), "/"+strings.Repeat("z", impl.NameMost)
	wantTreeText(t, treeWith(fileAt(long, "")), "f "+long+"\n")
	wantNeither(t, "f "+long+"z\n")
	ahead := "d /a\nd /a/a\n"
	wantTreeText(t, treeWith(dirAt("/a"), dirAt("/a/a"), dirAt(deep)), ahead+"d "+deep+"\n")
	wantLayerText(t, layerWith(dirMark("/a"), dirMark("/a/a"), goneMark(deep)), ahead+"x "+deep+"\n")
	wantNeither(t, ahead+"d "+deep+"\nd "+deep+"/a\n")
	for _, word := range []string{"make ", "put ", "rm ", "rmdir ", "move /q "} {
		for _, path := range []string{deep, long} {
			if op, ok := opRead(t, word+path); !ok || opText(t, op) != word+path {
				t.Errorf("OpRead(%q) = %v, %v", word+path, op, ok)
			}
		}
		wantNoOp(t, word+deep+"/a")
		wantNoOp(t, word+long+"z")
	}
}
