package tests

import (
	"fmt"
	"regexp"
	"slices"
	"strings"
	"testing"

	"loop.example/pargeting/impl"
)

// The chapter's words once more, said by expressions that whole texts are held against.

const (
	aPath = `(?:/[a-z]{1,3}){1,3}`
	aData = `[a-z0-9]{1,6}`
)

var (
	wholeTree  = regexp.MustCompile(`\A(?:(?:d ` + aPath + `|f ` + aPath + `|f ` + aPath + ` ` + aData + `)\n)*\z`)
	wholeLayer = regexp.MustCompile(`\A(?:(?:[dxb] ` + aPath + `|f ` + aPath + `|f ` + aPath + ` ` + aData + `)\n)*\z`)
	wholeOp    = regexp.MustCompile(`\A(?:(make|put|rmdir|rm) (` + aPath + `)|put (` + aPath + `) (` + aData + `)|move (` + aPath + `) (` + aPath + `))\z`)
)

// rowsOf are the words of the lines of a text, with nothing in the place of those that a line has not.
func rowsOf(text string) [][3]string {
	var rows [][3]string
	for line := range strings.Lines(text) {
		var row [3]string
		copy(row[:], strings.Fields(line))
		rows = append(rows, row)
	}
	return rows
}

func treeIn(text string) ([]impl.Ent, bool) {
	if !wholeTree.MatchString(text) {
		return nil, false
	}
	var tree []impl.Ent
	for _, row := range rowsOf(text) {
		tree = append(tree, impl.Ent{Path: row[1], Dir: row[0] == "d", Data: row[2]})
	}
	if _, ok := spreadOf(tree); !ok {
		return nil, false
	}
	return tree, true
}

func layerIn(text string) ([]impl.Mark, bool) {
	if !wholeLayer.MatchString(text) {
		return nil, false
	}
	var l []impl.Mark
	for _, row := range rowsOf(text) {
		l = append(l, impl.Mark{Path: row[1], Kind: 1 + strings.Index("fdxb", row[0]), Data: row[2]})
	}
	if _, ok := sheetOf(l); !ok {
		return nil, false
	}
	return l, true
}

func opIn(text string) (impl.Op, bool) {
	found := wholeOp.FindStringSubmatch(text)
	switch {
	case found == nil:
		return impl.Op{}, false
	case found[5] != "":
		return impl.Op{Kind: 5, Path: found[5], To: found[6]}, true
	case found[3] != "":
		return impl.Op{Kind: 2, Path: found[3], Data: found[4]}, true
	}
	return impl.Op{Kind: 1 + slices.Index([]string{"make", "put", "rm", "rmdir"}, found[1]), Path: found[2]}, true
}

func wordsOfEnt(e impl.Ent) string {
	switch {
	case e.Dir:
		return fmt.Sprintf("d %s", e.Path)
	case e.Data == "":
		return fmt.Sprintf("f %s", e.Path)
	}
	return fmt.Sprintf("f %s %s", e.Path, e.Data)
}

func wordsOfMark(m impl.Mark) string {
	word, known := map[int]string{2: "d", 3: "x", 4: "b"}[m.Kind]
	if known {
		return fmt.Sprintf("%s %s", word, m.Path)
	}
	return wordsOfEnt(fileAt(m.Path, m.Data))
}

func wordsOfOp(op impl.Op) string {
	if !opIsRead(op) {
		return ""
	}
	words := []string{[]string{"make", "put", "rm", "rmdir", "move"}[op.Kind-1], op.Path}
	if op.Kind == 5 {
		words = append(words, op.To)
	}
	if op.Data != "" {
		words = append(words, op.Data)
	}
	return strings.Join(words, " ")
}

// treeIsRead holds TreeRead of any text against the words, and what was read against having that text; it says whether it was read.
func treeIsRead(t *testing.T, text string) bool {
	t.Helper()
	want, wantOk := treeIn(text)
	got, ok := impl.TreeRead(text)
	if !slices.Equal(got, want) || ok != wantOk {
		t.Fatalf("TreeRead(%q) = %v, %v; want %v, %v", text, brief(got), ok, want, wantOk)
	}
	if ok && impl.TreeText(got) != text {
		t.Fatalf("TreeRead(%q) = %v, whose text is %q", text, got, impl.TreeText(got))
	}
	return ok
}

func layerIsRead(t *testing.T, text string) bool {
	t.Helper()
	want, wantOk := layerIn(text)
	got, ok := impl.LayerRead(text)
	if !slices.Equal(got, want) || ok != wantOk {
		t.Fatalf("LayerRead(%q) = %v, %v; want %v, %v", text, brief(got), ok, want, wantOk)
	}
	if ok && impl.LayerText(got) != text {
		t.Fatalf("LayerRead(%q) = %v, whose text is %q", text, got, impl.LayerText(got))
	}
	return ok
}

func opIsReadOf(t *testing.T, text string) bool {
	t.Helper()
	want, wantOk := opIn(text)
	got, ok := impl.OpRead(text)
	if got != want || ok != wantOk {
		t.Fatalf("OpRead(%q) = %v, %v; want %v, %v", text, brief(got), ok, want, wantOk)
	}
	if ok && impl.OpText(got) != text {
		t.Fatalf("OpRead(%q) = %v, whose text is %q", text, got, impl.OpText(got))
	}
	return ok
}

// treeAsWritten is P8 of a tree: its text is as the words say, and what is read of that is the tree.
func treeAsWritten(t *testing.T, tree []impl.Ent) string {
	t.Helper()
	want := ""
	for _, e := range tree {
		want += wordsOfEnt(e) + "\n"
	}
	text := treeText(t, tree)
	if text != want {
		t.Fatalf("TreeText(%v) = %q; want %q", tree, text, want)
	}
	if got, ok := treeRead(t, text); !slices.Equal(got, tree) || !ok {
		t.Fatalf("TreeRead(%q) = %v, %v; want %v, true", text, got, ok, tree)
	}
	return text
}

func layerAsWritten(t *testing.T, l []impl.Mark) string {
	t.Helper()
	want := ""
	for _, m := range l {
		want += wordsOfMark(m) + "\n"
	}
	text := layerText(t, l)
	if text != want {
		t.Fatalf("LayerText(%v) = %q; want %q", l, text, want)
	}
	if got, ok := layerRead(t, text); !slices.Equal(got, l) || !ok {
		t.Fatalf("LayerRead(%q) = %v, %v; want %v, true", text, got, ok, l)
	}
	return text
}

func opAsWritten(t *testing.T, op impl.Op) string {
	t.Helper()
	text := opText(t, op)
	if want := wordsOfOp(op); text != want {
		t.Fatalf("OpText(%v) = %q; want %q", op, text, want)
	}
	if got, ok := opRead(t, text); text != "" && (got != op || !ok) {
		t.Fatalf("OpRead(%q) = %v, %v; want %v, true", text, got, ok, op)
	}
	return text
}

// No two of these have one text, so that there is one to be read.
func TestTextsOfAllSmallTrees(t *testing.T) {
	seen := map[string][]impl.Ent{}
	for _, data := range []string{"", "x", "abc123"} {
		for _, tree := range treesOf("", someNames()) {
			tree = withData(tree, data)
			text := treeAsWritten(t, tree)
			if other, there := seen[text]; there && !slices.Equal(other, tree) {
				t.Fatalf("%v and %v have one text, %q", tree, other, text)
			}
			seen[text] = tree
		}
	}
}

func TestTextsOfAllSmallLayers(t *testing.T) {
	seen := map[string][]impl.Mark{}
	for _, data := range []string{"", "x", "abc123"} {
		for _, names := range [][][]string{someNames()[:2], {{"a"}, {"b"}, {"c", "cd"}}, {{"abc"}, {"abc", "x"}, {"abc"}}} {
			for _, l := range layersOf("", names, data, false) {
				text := layerAsWritten(t, l)
				if other, there := seen[text]; there && !slices.Equal(other, l) {
					t.Fatalf("%v and %v have one text, %q", l, other, text)
				}
				seen[text] = l
			}
		}
	}
}

// All that is done at a few paths, with any To and Data, most of it not ok.
func TestTextsOfAllSmallOps(t *testing.T) {
	seen := map[string]impl.Op{}
	paths := append(pathsOf("", someNames()), "", "/", "a", "/A", "/a b", "/a\n", "/abc/abc/abc", "/abcd", "/a/b/c/d")
	for kind := -1; kind <= 7; kind++ {
		for _, path := range paths {
			for _, to := range paths {
				for _, data := range []string{"", "x", "abc123", "abc1234", "!", "x y", "/a"} {
					op := impl.Op{Kind: kind, Path: path, To: to, Data: data}
					text := opAsWritten(t, op)
					if other, there := seen[text]; there && text != "" {
						t.Fatalf("%v and %v have one text, %q", op, other, text)
					}
					seen[text] = op
				}
			}
		}
	}
}

func TestTextsOfAllShortLists(t *testing.T) {
	var ents []impl.Ent
	var marks []impl.Mark
	for _, path := range []string{"", "/a", "/a/b", "/ab", "/a b"} {
		for _, data := range []string{"", "x", "x y"} {
			ents = append(ents, fileAt(path, data), impl.Ent{Path: path, Dir: true, Data: data})
			for kind := 0; kind <= 5; kind++ {
				marks = append(marks, impl.Mark{Path: path, Kind: kind, Data: data})
			}
		}
	}
	for _, a := range ents {
		if got := entText(t, a); got != wordsOfEnt(a) {
			t.Fatalf("EntText(%v) = %q; want %q", a, got, wordsOfEnt(a))
		}
		for _, b := range ents {
			treeByTheWords(t, treeWith(a))
			treeByTheWords(t, treeWith(a, b))
		}
	}
	for _, a := range marks {
		if got := markText(t, a); got != wordsOfMark(a) {
			t.Fatalf("MarkText(%v) = %q; want %q", a, got, wordsOfMark(a))
		}
		for _, b := range marks {
			layerByTheWords(t, layerWith(a))
			layerByTheWords(t, layerWith(a, b))
		}
	}
}

// treeByTheWords is for any list: one that is ok is as it was written, any other has no text.
// The lines of any other may still be those of a tree, and then that is read.
func treeByTheWords(t *testing.T, tree []impl.Ent) {
	t.Helper()
	if _, ok := spreadOf(tree); ok {
		treeAsWritten(t, tree)
	} else if got := treeText(t, tree); got != "" {
		t.Fatalf("TreeText(%v) = %q", tree, got)
	}
	lines := ""
	for _, e := range tree {
		lines += entText(t, e) + "\n"
	}
	treeIsRead(t, lines)
	layerIsRead(t, lines)
}

func layerByTheWords(t *testing.T, l []impl.Mark) {
	t.Helper()
	if _, ok := sheetOf(l); ok {
		layerAsWritten(t, l)
	} else if got := layerText(t, l); got != "" {
		t.Fatalf("LayerText(%v) = %q", l, got)
	}
	lines := ""
	for _, m := range l {
		lines += markText(t, m) + "\n"
	}
	treeIsRead(t, lines)
	layerIsRead(t, lines)
}

// All texts of a few pieces, from those of single words up to those of whole lines.
func TestReadOfAllTexts(t *testing.T) {
	t.Parallel()
	for _, few := range []struct {
		pieces []string
		most   int
	}{
		{[]string{"d", "f", "x", "b", " ", "\n", "/a", "/", "q"}, 5},
		{[]string{"d ", "f ", "x ", "b ", " ", "\n", "/a", "/b", "\xff"}, 6},
		{[]string{"d /a\n", "b /a\n", "f /a\n", "d /a/b\n", "b /a/b\n", "x /a/b\n", "f /a/b x\n", "x /a/b/c\n", "f /a/b/c\n", "f /c", "d /c", " y", "\n"}, 5},
	} {
		trees, layers := 0, 0
		eachText(few.pieces, few.most, func(text string) {
			if treeIsRead(t, text) {
				trees++
			}
			if layerIsRead(t, text) {
				layers++
			}
		})
		if trees < 5 || layers <= trees {
			t.Errorf("of %q %d trees were read, and %d layers", few.pieces, trees, layers)
		}
	}
}

func TestOpReadOfAllTexts(t *testing.T) {
	t.Parallel()
	for _, few := range []struct {
		pieces []string
		most   int
	}{
		{[]string{"make", "put", "rm", "dir", "move", " ", "/a", "x", "\n"}, 6},
		{[]string{"make ", "put ", "rm ", "rmdir ", "move ", " ", "/a", "/b", "/", "0", "\n", "\xff"}, 5},
	} {
		read := 0
		eachText(few.pieces, few.most, func(text string) {
			if opIsReadOf(t, text) {
				read++
			}
		})
		if read < 10 {
			t.Errorf("of %q %d were read", few.pieces, read)
		}
	}
}

// besides are the texts that are one byte beside a text: one less, one more, or one other.
func besides(text string, tell func(string)) {
	for i := range len(text) + 1 {
		if i < len(text) {
			tell(text[:i] + text[i+1:])
		}
		for b := range 256 {
			one := string([]byte{byte(b)})
			tell(text[:i] + one + text[i:])
			if i < len(text) {
				tell(text[:i] + one + text[i+1:])
			}
		}
	}
}

func TestReadOfOneByteBeside(t *testing.T) {
	t.Parallel()
	for _, text := range []string{
		"", "d /a\n", "f /a\n", "x /a\n", "b /abc\n", "f /a x\n", "d /a\nf /a/b 12345\n", "d /a\nx /a/b\nb /a/c\nf /a/c/q n\n",
		treeText(t, someTree()), layerText(t, someLayer()),
	} {
		besides(text, func(other string) {
			treeIsRead(t, other)
			layerIsRead(t, other)
		})
	}
	for _, text := range []string{"", "make /a", "put /a", "put /a x", "put /abc/abc/abc abc123", "rm /a/b", "rmdir /ab", "move /a /b", "move /abc/abc/abc /abc/abc"} {
		besides(text, func(other string) { opIsReadOf(t, other) })
	}
}

// wrongWay turns a text into one that is mostly wrong, by a fixed rule.
func (w *wayside) wrongWay(text string) string {
	lines := strings.SplitAfter(text, "\n")
	i, j, at := w.pick(len(lines)), w.pick(len(lines)), w.pick(len(text)+1)
	switch w.pick(6) {
	case 0:
		lines[i], lines[j] = lines[j], lines[i]
	case 1:
		lines[i] = lines[j]
	case 2:
		lines = slices.Delete(lines, i, i+1)
	case 3:
		lines = slices.Insert(lines, i, []string{"d /b\n", "f /ab x\n", "f /a/b\n", "x /c\n", "b /aa\n", "d /a/b/z\n", "\n", "f /c"}[w.pick(8)])
	case 4:
		return text[:at]
	default:
		return text[:at] + []string{" ", "\n", "x", "/", "d", "f", "/z", "9", "\xff"}[w.pick(9)] + text[at:]
	}
	return strings.Join(lines, "")
}

// Greater trees and layers, up to what there may be, and texts beside theirs.
func TestTextsOnALongWay(t *testing.T) {
	w := &wayside{
		state: 11,
		paths: slices.Sorted(slices.Values(pathsOf("", [][]string{{"a", "aa", "ab", "b", "c"}, {"a", "ab", "b"}, {"a", "z"}}))),
		datas: []string{"", "x", "y1", "abc123", "0", "d", "f"},
	}
	seen := map[string]int{}
	count := func(what string, is bool) {
		if is {
			seen[what]++
		}
	}
	for range 1500 {
		tree, l := w.tree(), w.layer()
		count("a full tree", len(tree) == impl.TreeMost)
		count("a great layer", len(l) > impl.TreeMost)
		text := treeAsWritten(t, tree)
		other := layerAsWritten(t, l)
		count("a tree that is a layer", layerIsRead(t, text))
		count("a layer that is a tree", treeIsRead(t, other))
		for range 6 {
			text, other = w.wrongWay(text), w.wrongWay(other)
			ok := treeIsRead(t, text)
			count("a wrong tree", !ok)
			count("another tree", ok)
			ok = layerIsRead(t, other)
			count("a wrong layer", !ok)
			count("another layer", ok)
		}
		op := impl.Op{Kind: w.pick(7), Path: w.paths[w.pick(len(w.paths))]}
		if op.Kind == impl.OpMove {
			op.To = w.paths[w.pick(len(w.paths))]
		}
		if op.Kind == impl.OpPut {
			op.Data = w.datas[w.pick(len(w.datas))]
		}
		done := opAsWritten(t, op)
		count("something done", done != "")
		count("something wrong", !opIsReadOf(t, w.wrongWay(done)))
	}
	for _, what := range []string{"a full tree", "a great layer", "a tree that is a layer", "a layer that is a tree", "a wrong tree", "another tree", "a wrong layer", "another layer", "something done", "something wrong"} {
		if seen[what] < 20 {
			t.Errorf("%s has come %d times", what, seen[what])
		}
	}
}
