package tests

import (
	"fmt"
	"regexp"
	"slices"
	"strconv"
	"strings"
	"testing"

	"loop.example/pargeting/impl"
)

// The chapter's words once more, said by expressions that whole lines are held against.

const aNumber = `(0|-?[1-9][0-9]{0,16})`

var (
	wholeAsk  = regexp.MustCompile(`\Aask ` + aNumber + ` ([^ ]+)\z`)
	wholeRead = regexp.MustCompile(`\Aread ` + aNumber + ` ([^ ]+)\z`)
	wholeMsg  = regexp.MustCompile(`\A(give|lose|copy) ` + aNumber + `\z`)
	wholeList = regexp.MustCompile(`\Alist ([^ ]+)\z`)
	gaps      = regexp.MustCompile(` +`)
)

// clerk answers lines one behind the other.
type clerk struct {
	hall hall
}

func newClerk() clerk {
	h, _ := hallOf(newWorld(impl.Over{}))
	return clerk{h}
}

// wordOfEnd is the word of how it ended.
func wordOfEnd(code int) string {
	if code >= 20 {
		return []string{"wait\n", "busy\n", "none\n"}[code-20]
	}
	return strings.Fields("fine bad none notdir there isdir kept under room")[code] + "\n"
}

// cleared is the words of a line with one space between.
func cleared(line string) string {
	return strings.Trim(gaps.ReplaceAllString(line, " "), " ")
}

// answer is the chapter's table; the line is cleared, and has words.
func (c *clerk) answer(line string) string {
	if op, ok := opIn(line); ok {
		return c.happens(writeEv(op))
	}
	if found := wholeAsk.FindStringSubmatch(line); found != nil {
		return c.happens(askEv(numberIn(found[1]), found[2]))
	}
	if found := wholeMsg.FindStringSubmatch(line); found != nil {
		kind := map[string]int{"give": 5, "lose": 6, "copy": 7}[found[1]]
		return c.happens(impl.Ev{Kind: kind, At: numberIn(found[2])})
	}
	if found := wholeRead.FindStringSubmatch(line); found != nil {
		return c.read(numberIn(found[1]), found[2])
	}
	if found := wholeList.FindStringSubmatch(line); found != nil {
		return c.list(found[1])
	}
	return c.oneWord(line)
}

func (c *clerk) oneWord(line string) string {
	w := c.hall.world
	told := ""
	switch line {
	case "try":
		return c.happens(tryEv())
	case "tick":
		return c.happens(tickEv())
	case "tree":
		for _, e := range c.hall.shelf.seen.list() {
			told += wordsOfEnt(e) + "\n"
		}
		return told + "end\n"
	case "upper":
		for _, m := range w.Over.Upper {
			told += wordsOfMark(m) + "\n"
		}
		return told + "end\n"
	case "net":
		return fmt.Sprintf("%d %d\n", len(w.Net), len(w.Leases))
	case "push", "flat", "sink":
		return c.lay(line)
	}
	return "what\n"
}

func numberIn(text string) int {
	n, _ := strconv.Atoi(text)
	return n
}

func (c *clerk) happens(ev impl.Ev) string {
	w, code := c.hall.do(ev)
	c.hall, _ = hallOf(w)
	return wordOfEnd(code)
}

func (c *clerk) read(who int, path string) string {
	e, has, ok := c.hall.read(who, path)
	switch {
	case !ok:
		return "-\n"
	case !has:
		return "none\n"
	}
	return wordsOfEnt(e) + "\n"
}

func (c *clerk) list(path string) string {
	names, code := c.hall.shelf.seen.namesIn(path)
	if code != 0 {
		return wordOfEnd(code)
	}
	return strings.Join(append(names, "end"), "\n") + "\n"
}

func (c *clerk) lay(word string) string {
	w := copyWorld(c.hall.world)
	if w.Waits || len(w.Leases) > 0 {
		return "busy\n"
	}
	ok := true
	switch word {
	case "push":
		w.Over, ok = c.hall.shelf.push()
	case "flat":
		w.Over, ok = c.hall.shelf.flat()
	case "sink":
		w.Over = overWith(c.hall.shelf.lower.list(), w.Over.Upper)
	}
	c.hall, _ = hallOf(w)
	if !ok {
		return "room\n"
	}
	return "fine\n"
}

// clerked is what a script answers by the words.
func clerked(script string) string {
	if len(script) > 20000 {
		return "long\n"
	}
	c, told := newClerk(), ""
	for ahead, line := range strings.Split(script, "\n") {
		line = cleared(line)
		switch {
		case line == "":
			continue
		case ahead >= 200 || len(told) > 20000:
			return told + "full\n"
		}
		told += c.answer(line)
	}
	return told
}

// isClerked holds DeskRun of any text against the words.
func isClerked(t *testing.T, script string) string {
	t.Helper()
	got := impl.DeskRun(script)
	if want := clerked(script); got != want {
		t.Fatalf("DeskRun(%q) = %q; want %q", brief(script), brief(got), brief(want))
	}
	return got
}

// The words are those of the tests by hand.
func TestDeskOfTheWords(t *testing.T) {
	script, want := scriptOf(saidOf(exampleRows))
	if got := clerked(script); got != want {
		t.Errorf("the words say that %q answers %q; want %q", script, got, want)
	}
	for _, script := range append(someScripts(), wrongLines()...) {
		isClerked(t, script)
	}
}

// desked is a script, what it answers, and the clerk behind it.
type desked struct {
	clerk        clerk
	script, told string
}

// Whatever can come of a few lines, as far as there is time for: each world is gone on from once, by the first script that comes to it.
func TestDeskOfAllSmall(t *testing.T) {
	t.Parallel()
	for _, few := range []struct {
		lines []string
		asked []string
	}{
		{
			strings.Split("make /a,put /a x,put /a,put /a/b,make /a/b,rm /a,rm /a/b,rmdir /a,move /a /b,move /b /a,push,flat,sink", ","),
			strings.Split("tree,upper,list /,list /a,list /b,list /a/b,net,try,rm /q,make /q/r", ","),
		},
		{
			strings.Split("put /a x,put /a,rm /a,ask 0 /a,ask 1 /a,give 0,give 1,lose 0,lose 1,copy 0,tick,try,push,flat,sink", ","),
			strings.Split("read 0 /a,read 1 /a,read 2 /a,net,tree,upper,list /a,give 9,lose -1,fly", ","),
		},
		{
			strings.Split("make /a,put /a/b x,move /a/b /b,ask 2 /a/b,ask 2 /b,ask 2 /a,give 0,give 1,copy 1,lose 1,tick,try,push,sink", ","),
			strings.Split("read 2 /a/b,read 2 /b,read 2 /a,read 0 /b,net,tree,upper,list /a,copy 9", ","),
		},
	} {
		todo, seen := []desked{{clerk: newClerk()}}, map[string]int{}
		for len(todo) > 0 && len(seen) < 1600 {
			at := todo[0]
			todo = todo[1:]
			same := at
			for _, line := range few.asked {
				same = same.with(t, line)
			}
			for _, line := range few.lines {
				next := at.with(t, line)
				if key := fmt.Sprint(next.clerk.hall.world); seen[key] == 0 && len(next.clerk.hall.world.Net) < 4 {
					seen[key] = 1
					todo = append(todo, next)
				}
			}
		}
		if len(seen) < 1600 {
			t.Errorf("of %q there are only %d", few.lines, len(seen))
		}
	}
}

// with is the script with a line more: it answers what it did, and then what the line answers.
func (d desked) with(t *testing.T, line string) desked {
	t.Helper()
	d.script += line + "\n"
	d.told += d.clerk.answer(cleared(line))
	if got := impl.DeskRun(d.script); got != d.told {
		t.Fatalf("DeskRun(%q) = %q; want %q", d.script, got, d.told)
	}
	return d
}

// All texts of a few pieces, from those of single words up to those of whole lines.
func TestDeskOfAllTexts(t *testing.T) {
	t.Parallel()
	for _, few := range []struct {
		pieces []string
		most   int
		unlike int
	}{
		{[]string{"make", "tree", "list", " ", "\n", "/a", "x", "\xff"}, 5, 30},
		{[]string{"put ", "read ", "give ", " ", "\n", "/a", "0", "-", "1"}, 5, 15},
		{[]string{"put /a", " x", "\n", "tree\n", "push", "sink", "upper", "rm /a\n"}, 5, 100},
		{[]string{"make /a\n", "ask 0 /a\n", "give 0\n", "read 0 /a\n", "net\n", "try\n", "rmdir /a\n", "sink\n"}, 5, 100},
	} {
		answers := map[string]int{}
		eachText(few.pieces, few.most, func(script string) {
			answers[isClerked(t, script)]++
		})
		if len(answers) < few.unlike {
			t.Errorf("of %q there are %d answers", few.pieces, len(answers))
		}
	}
}

// Each line of the table with a byte more, less or turned, where it has something to do.
func TestDeskOfOneByteBeside(t *testing.T) {
	t.Parallel()
	ahead := desked{clerk: newClerk()}
	for _, line := range []string{"make /a", "put /a/b x", "push", "put /c", "ask 0 /c", "give 0", "give 0", "ask 1 /a"} {
		ahead = ahead.with(t, line)
	}
	for _, line := range []string{
		"make /d", "put /c y", "put /a/c", "rm /a/b", "rmdir /a", "move /a /d", "ask 1 /c", "try", "tick", "give 0", "lose 0", "copy 0",
		"read 0 /c", "read 12 /c", "give -1", "tree", "list /a", "list /", "upper", "push", "flat", "sink", "net", "give 12345678901234567", "lose -12345678901234567",
	} {
		turn := 0
		besides(line, func(other string) {
			// Some are enough, and more of those that could be typed.
			if turn++; turn%9 == 0 || turn%3 == 0 && isPlain(other) {
				ahead.isGoneOn(t, other+"\ntree\nnet")
			}
		})
	}
}

// isGoneOn is for lines behind the script.
func (d desked) isGoneOn(t *testing.T, lines string) {
	t.Helper()
	want := d.told
	for line := range strings.SplitSeq(lines, "\n") {
		if line = cleared(line); line != "" {
			want += d.clerk.answer(line)
		}
	}
	if got := impl.DeskRun(d.script + lines); got != want {
		t.Fatalf("DeskRun(%q) = %q; want %q", d.script+lines, got, want)
	}
}

func isPlain(text string) bool {
	return !strings.ContainsFunc(text, func(r rune) bool { return r != '\n' && (r < ' ' || r > '~') })
}

// someScript is lines by a fixed rule, step for step, with the clerk beside.
type someScript struct {
	*wayside
	// What is read, if anyone reads; where no one does the tree grows.
	readAt []string
	clerk  clerk
	all    []said
	came   map[string]int
}

func newScript(state uint32) *someScript {
	paths := slices.Sorted(slices.Values(pathsOf("", [][]string{{"a", "aa", "b", "c"}, {"a", "b", "c"}, {"z"}})))
	return &someScript{wayside: &wayside{state: state, paths: paths, datas: []string{"", "x", "y1"}}, came: map[string]int{}}
}

func (s *someScript) begin() {
	s.clerk, s.all, s.readAt = newClerk(), nil, nil
	if s.pick(3) > 0 {
		// Those that are read are in the root or not deep below it, so that there is something.
		s.readAt = []string{s.path(), "/a", s.paths[s.pick(4)], s.paths[s.pick(8)]}[:1+s.pick(4)]
	}
}

func (s *someScript) path() string {
	if len(s.readAt) > 0 && s.pick(2) == 0 {
		return s.readAt[s.pick(len(s.readAt))]
	}
	return s.paths[s.pick(len(s.paths))]
}

// line is mostly one that does something.
func (s *someScript) line() string {
	switch k := s.pick(32); {
	case k < 16 && len(s.readAt) > 0:
		return s.readersLine()
	case k < 16:
		return []string{"make ", "put "}[s.pick(2)] + s.path()
	case k < 18:
		return "make " + s.path()
	case k < 21:
		return "put " + s.path() + " " + s.datas[s.pick(len(s.datas))]
	case k < 23:
		return []string{"rm ", "rmdir "}[s.pick(2)] + s.path()
	case k < 25:
		// From near the root to deeper, most often.
		return "move " + s.path()[:2] + " " + s.path()
	case k < 27:
		return []string{"push", "push", "flat", "sink"}[s.pick(4)]
	case k < 30:
		return []string{"tree", "upper", "net", "list /", "list " + s.path()}[s.pick(5)]
	}
	return s.oddLine()
}

func (s *someScript) readersLine() string {
	net, who, path := len(s.clerk.hall.world.Net), s.pick(3), s.readAt[s.pick(len(s.readAt))]
	switch k := s.pick(16); {
	case k < 3:
		return fmt.Sprintf("ask %d %s", who, path)
	case k < 6:
		return fmt.Sprintf("read %d %s", who, path)
	case k < 12 && net > 0:
		return fmt.Sprintf("%s %d", []string{"give", "give", "give", "give", "lose", "copy"}[s.pick(6)], s.pick(net))
	case k < 14:
		return "tick"
	}
	return "try"
}

func (s *someScript) oddLine() string {
	odd := []string{"", "   ", "fly", "make", "put /A", "give 00", "ask 3 /a", "ask x /a", "read 9 /a", "read -0 /a", "list a", "net 0", "rm /a /b", "copy -1", "lose 99", "give 12", "\xff", "tree\t", "move /a"}
	return odd[s.pick(len(odd))]
}

// spaced has more spaces than a line needs, now and then.
func (s *someScript) spaced(line string) string {
	if s.pick(4) == 0 {
		return strings.Repeat(" ", s.pick(3)) + strings.ReplaceAll(line, " ", strings.Repeat(" ", 1+s.pick(3))) + strings.Repeat(" ", s.pick(3))
	}
	return line
}

// step takes a line, and notes what came.
func (s *someScript) step(line string) {
	want, words := "", cleared(line)
	if words != "" {
		want = s.clerk.answer(words)
	}
	first, _, _ := strings.Cut(words, " ")
	end := want
	if strings.HasSuffix(want, "end\n") {
		end = "end"
	} else if len(want) > 2 && want[1] == ' ' {
		end = want[:1]
	}
	s.came[strings.TrimSpace(first+" "+end)]++
	s.all = append(s.all, said{s.spaced(line), want})
}

// P11 on long scripts: each answers what its first lines answer, wherever it is cut, and then what the others do; as far as there is room.
func TestDeskOnLongScripts(t *testing.T) {
	t.Parallel()
	s := newScript(29)
	for turn := range 80 {
		s.begin()
		for range impl.DeskMaxLines + s.pick(12) {
			s.step(s.line())
		}
		told, full := "", false
		for cut, line := range s.all {
			if !full && cleared(line.line) != "" && (cut >= impl.DeskMaxLines || len(told) > impl.DeskMaxOut) {
				told, full = told+"full\n", true
				s.came["full"]++
			}
			if !full {
				told += line.want
			}
			// All cuts of some, and some of all.
			if turn%8 > 0 && s.pick(10) > 0 && cut < impl.DeskMaxLines-1 {
				continue
			}
			script, _ := scriptOf(s.all[:cut+1])
			if got := impl.DeskRun(script); got != told {
				t.Fatalf("DeskRun(%q) = %q; want %q", script, got, told)
			}
		}
	}
	s.haveCome(t, "full", "make fine", "make none", "make notdir", "make there", "make room", "make wait", "make busy", "make what",
		"put fine", "put none", "put notdir", "put isdir", "put room", "put wait", "put busy", "put what", "rm fine", "rm none", "rm isdir", "rm wait", "rm busy", "rm what",
		"rmdir fine", "rmdir none", "rmdir notdir", "rmdir kept", "rmdir wait", "rmdir busy", "move fine", "move none", "move notdir", "move there", "move under", "move room", "move wait", "move busy", "move what",
		"ask fine", "ask bad", "ask what", "give fine", "give none", "give what", "lose fine", "lose none", "copy fine", "copy none", "try fine", "try none", "try wait", "tick fine",
		"read -", "read none", "read d", "read f", "read what", "tree end", "list end", "list bad", "list none", "list notdir", "upper end", "net what",
		"push fine", "push room", "push busy", "flat fine", "flat room", "flat busy", "sink fine", "sink busy", "fly what")
}

func (s *someScript) haveCome(t *testing.T, whats ...string) {
	t.Helper()
	for _, what := range whats {
		if s.came[what] == 0 {
			t.Errorf("%q has not come", what)
		}
	}
}

// P11 on however many layers: lines that push, make flat and sink, wherever they stand, turn no answer of others but of `upper`.
func TestDeskOnLayersOrNone(t *testing.T) {
	t.Parallel()
	s := newScript(31)
	for range 12 {
		s.begin()
		for len(s.all) < impl.DeskMaxLines*2/3 {
			s.step(s.line())
		}
		var plain, laid []said
		for _, line := range s.all {
			switch cleared(line.line) {
			case "push", "flat", "sink", "upper":
				continue
			}
			plain = append(plain, line)
			laid = append(laid, line)
			for s.pick(3) == 0 && len(laid) < impl.DeskMaxLines {
				laid = append(laid, said{line: []string{"push", "push", "push", "flat", "sink"}[s.pick(5)]})
			}
		}
		answers := answersOf(t, laid)
		for i, line := range laid {
			if line.want == "" && strings.TrimSpace(line.line) != "" {
				s.came["laid "+strings.TrimSpace(line.line+" "+answers[i])]++
			}
		}
		if got, want := withoutLays(laid, answers), answersOf(t, plain); !slices.Equal(got, want) {
			t.Fatalf("the answers to %v are %q; with layers between, as %v, they are %q", plain, want, laid, got)
		}
	}
	s.haveCome(t, "laid push fine", "laid push room", "laid push busy", "laid flat fine", "laid flat room", "laid flat busy", "laid sink fine", "laid sink busy")
}

// withoutLays leaves out what was answered to the lines that turn layers.
func withoutLays(all []said, answers []string) []string {
	var rest []string
	for i, line := range all {
		switch line.line {
		case "push", "flat", "sink":
			continue
		}
		rest = append(rest, answers[i])
	}
	return rest
}
