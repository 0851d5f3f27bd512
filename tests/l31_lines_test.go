package tests

import (
	"fmt"
	"math/rand/v2"
	"regexp"
	"runtime"
	"slices"
	"strconv"
	"strings"
	"sync"
	"testing"

	"loop.example/fathomline/impl"
)

// orderWords is the words of the orders, as their numbers stand from 1 on.
func orderWords() []string { return []string{"strict", "late", "loose"} }

// goodAsks is all last lines that ask for something.
func goodAsks() []string {
	return []string{"strict", "late", "loose", "walls strict", "walls late", "walls loose"}
}

// asLines is all that is parted by semicolons, each with a newline.
func asLines(text string) string { return strings.ReplaceAll(text, "; ", "\n") + "\n" }

// linesCase is what is told of a program, order by order, "same" where it is as by the order ahead; then the walls, order by order.
type linesCase struct {
	text                string
	strict, late, loose string
	walls               [3]string
}

func (c linesCase) check(t *testing.T) {
	t.Helper()
	text, last := plainText(read(t, c.text)), ""
	for i, want := range []string{c.strict, c.late, c.loose} {
		if want == "same" {
			want = last
		}
		last = want
		word := orderWords()[i]
		if got := impl.LinesRun(text + word + "\n"); got != asLines(want) {
			t.Errorf("%s, %s: %q, not %q", c.text, word, got, asLines(want))
		}
		if got := impl.LinesRun(text + "walls " + word + "\n"); got != c.walls[i]+"\n" {
			t.Errorf("%s, walls %s: %q, not %q", c.text, word, got, c.walls[i]+"\n")
		}
	}
}

// needless is the walls of a program that needs none; tooMany those of one with more gaps than are looked at.
func needless() [3]string { return [3]string{"walls", "walls", "walls"} }

func tooMany() [3]string { return [3]string{"no walls", "no walls", "no walls"} }

// P107, P108: a thread alone, told by hand: one line, and no walls are needed.
func TestLinesOfOneThreadAsTold(t *testing.T) {
	for text, want := range map[string]string{
		"": "/ 0 0 0", "wall": "/ 0 0 0", "in, out": "/ 0 0 0", "load y": "0 / 0 0 0", "store z 3": "/ 0 0 3", "store x 1, load x": "1 / 1 0 0", "load x, store x 1": "0 / 1 0 0", "store x 1, load y, load z": "0 0 / 1 0 0",
		"store x 2, store x 3, load x, copy z": "3 / 3 0 3", "in, load x, out, wait, give x 1": "0 / 1 0 0", "give y 2, take y, copy x, take x, copy z": "2 2 / 2 2 2",
	} {
		linesCase{text, want, "same", "same", needless()}.check(t)
	}
}

// P107, P108: two threads, told by hand.
func TestLinesOfTwoThreadsAsTold(t *testing.T) {
	const three, four = "0 1 / 1 1 0; 1 0 / 1 1 0; 1 1 / 1 1 0", "0 0 / 1 1 0; 0 1 / 1 1 0; 1 0 / 1 1 0; 1 1 / 1 1 0"
	const behind = "0 0 / 1 1 0; 0 1 / 1 1 0; 1 1 / 1 1 0"
	for _, c := range []linesCase{
		{"|", "/ 0 0 0", "same", "same", needless()},
		{"| load x", "0 / 0 0 0", "same", "same", needless()},
		{"store x 1 | load x", "0 / 1 0 0; 1 / 1 0 0", "same", "same", needless()},
		{"store x 1 | load x, load x", "0 0 / 1 0 0; 0 1 / 1 0 0; 1 1 / 1 0 0", "same", "same", needless()},
		{"store x 1 | store x 2", "/ 1 0 0; / 2 0 0", "same", "same", needless()},
		{crossProg, three, four, "same", [3]string{"walls", "walls 0 1", "walls 0 1"}},
		{"give x 1, take y | give y 1, take x", three, four, "same", [3]string{"walls", "walls 0 1", "walls 0 1"}},
		{"store x 1, wall, load y | store y 1, load x", three, four, "same", [3]string{"walls", "walls 2", "walls 2"}},
		{"store x 1, wall, load y | store y 1, wait, load x", three, "same", "same", needless()},
		{"store x 1, in, out, load y | store y 1, load x", three, four, "same", [3]string{"walls", "walls 3", "walls 0 3"}},
		{passProg, behind, "same", four, [3]string{"walls", "walls", "walls 0 1"}},
		{"store x 1, give y 1 | load y, load x", behind, "same", four, [3]string{"walls", "walls", "walls 1"}},
		{"store x 1, give y 1 | take y, load x", behind, "same", "same", needless()},
		{waitProg, behind, "same", "same", needless()},
		{"in, load y, out, load x | store x 1, wait, store y 1", behind, "same", four, [3]string{"walls", "walls", "walls 0"}},
		{"load x, store y 1 | load y, store x 1", "0 0 / 1 1 0; 0 1 / 1 1 0; 1 0 / 1 1 0", "same", four, [3]string{"walls", "walls", "walls 0 1"}},
		{"load x, copy y | load y, copy x", "0 0 / 0 0 0", "same", "same", needless()},
		{"store x 2, store y 1 | store y 2, store x 1", "/ 1 1 0; / 1 2 0; / 2 1 0", "same", "/ 1 1 0; / 1 2 0; / 2 1 0; / 2 2 0", [3]string{"walls", "walls", "walls 0 1"}},
		{"load x, load y, load x | store y 1, wall, store x 1", "0 0 0 / 1 1 0; 0 0 1 / 1 1 0; 0 1 0 / 1 1 0; 0 1 1 / 1 1 0; 1 1 1 / 1 1 0", "same", "0 0 0 / 1 1 0; 0 0 1 / 1 1 0; 0 1 0 / 1 1 0; 0 1 1 / 1 1 0; 1 0 1 / 1 1 0; 1 1 1 / 1 1 0", [3]string{"walls", "walls", "walls 0"}},
	} {
		c.check(t)
	}
}

// P107, P108: three threads, told by hand.
func TestLinesOfThreeThreadsAsTold(t *testing.T) {
	const seven = "0 0 0 / 1 1 0; 0 0 1 / 1 1 0; 0 1 0 / 1 1 0; 0 1 1 / 1 1 0; 1 0 0 / 1 1 0; 1 0 1 / 1 1 0; "
	const ring = "0 0 1 / 1 1 1; 0 1 0 / 1 1 1; 0 1 1 / 1 1 1; 1 0 0 / 1 1 1; 1 0 1 / 1 1 1; 1 1 0 / 1 1 1; 1 1 1 / 1 1 1"
	for _, c := range []linesCase{
		{"||", "/ 0 0 0", "same", "same", needless()},
		{"| load z |", "0 / 0 0 0", "same", "same", needless()},
		{"store x 1 | store x 2 | load x", "0 / 1 0 0; 0 / 2 0 0; 1 / 1 0 0; 1 / 2 0 0; 2 / 1 0 0; 2 / 2 0 0", "same", "same", needless()},
		{"store x 3 | store y 2 | store z 1", "/ 3 2 1", "same", "same", needless()},
		{"store x 1 | load x, store y 1 | load y, load x", seven + "1 1 1 / 1 1 0", "same", seven + "1 1 0 / 1 1 0; 1 1 1 / 1 1 0", [3]string{"walls", "walls", "walls 0 1"}},
		{"store x 1, load y | store y 1, load z | store z 1, load x", ring, "0 0 0 / 1 1 1; " + ring, "same", [3]string{"walls", "walls 0 1 2", "walls 0 1 2"}},
		{"in, load y, load x, out | store x 1, wait, store y 1 |", "0 0 / 1 1 0; 0 1 / 1 1 0; 1 1 / 1 1 0", "same", "same", needless()},
	} {
		c.check(t)
	}
}

// P108: programs of which walls are told to be none, for there are more than five gaps; what is seen of them is told all the same.
func TestLinesOfProgramsWithoutWalls(t *testing.T) {
	const three, four = "0 1 / 1 1 0; 1 0 / 1 1 0; 1 1 / 1 1 0", "0 0 / 1 1 0; 0 1 / 1 1 0; 1 0 / 1 1 0; 1 1 / 1 1 0"
	for _, c := range []linesCase{
		{"wall, wall, wall, wall, wall, wall, wall", "/ 0 0 0", "same", "same", tooMany()},
		{"wall, wall, wall, wall, wall, wall", "/ 0 0 0", "same", "same", needless()},
		{"load x, load x, load x, load x, load x, load x, wall", "0 0 0 0 0 0 / 0 0 0", "same", "same", tooMany()},
		{"wall, wall, wall, store x 1, load y | wall, store y 1, load x", three, four, "same", tooMany()},
		{"wall, wall, store x 1, load y | wall, store y 1, load x", three, four, "same", [3]string{"walls", "walls 2 4", "walls 2 4"}},
		{"store x 1, wall, load y, wall | store y 1, wall, load x, wall", three, "same", "same", tooMany()},
		{"in, load y, out, in, load x, out | store x 1, wait, store y 1", "0 0 / 1 1 0; 0 1 / 1 1 0; 1 1 / 1 1 0", "same", four, tooMany()},
		{"wait, wait, wait | wait, wait, wait | wait, wait, wait", "/ 0 0 0", "same", "same", tooMany()},
	} {
		c.check(t)
	}
}

// P107, P108: the last line alone: the program has no threads, so that noughts are seen and no walls are needed. Threads without steps are no more.
func TestLastLineAlone(t *testing.T) {
	for _, ahead := range []string{"", "thread\n", "thread\nthread\n", "thread\nthread\nthread\n"} {
		for _, word := range orderWords() {
			if got := impl.LinesRun(ahead + word + "\n"); got != "/ 0 0 0\n" {
				t.Errorf("%q, %s: %q", ahead, word, got)
			}
			if got := impl.LinesRun(ahead + "walls " + word + "\n"); got != "walls\n" {
				t.Errorf("%q, walls %s: %q", ahead, word, got)
			}
		}
	}
	if got := impl.LinesRun("thread\nthread\nthread\nthread\nstrict\n"); got != "bad text\n" {
		t.Errorf("four threads: %q", got)
	}
}

// noTexts is what is no text of a program, as all that may stand ahead of the last line.
func noTexts() []string {
	cross := "thread\nstore x 1\nload y\nthread\nstore y 1\nload x\n"
	return []string{
		"\n", "\n\n", " \n", "strict\n", "late\n", "loose\n", "walls strict\n", "walls\n", "no walls\n", "/ 0 0 0\n", "bad text\n", "what\n",
		cross + "\n", "\n" + cross, cross + "strict\n", cross + "walls loose\n", cross + "0 0 / 1 1 0\n", cross + "load w\n", cross + cross, cross + "thread\nthread\n", cross + "load\n", cross + "x\n",
		"thread\n\n", "thread \n", " thread\n", "Thread\n", "THREAD\n", "thread\r\n", "\tthread\n", "thread\x00\n", "\x00thread\n", "\xef\xbb\xbfthread\n", "threads\n", "thread 1\n", "thread\nthread\nthread\nthread\n",
		"store x 1\n", "wall\n", "load x\nthread\n", "thread\nstore x\n", "thread\nstore x 0\n", "thread\nstore x 4\n", "thread\nstore x 01\n", "thread\nstore w 1\n", "thread\nstore x  1\n", "thread\nstore x 1 \n", "thread\n store x 1\n", "thread\nStore x 1\n", "thread\nload x 1\n", "thread\nload X\n", "thread\nwall x\n",
		"thread\ncopy x\n", "thread\nload x\nthread\ncopy x\n", "thread\nin\n", "thread\nout\n", "thread\nin\nin\nout\n", "thread\nin\nwait\nout\n", "thread\nin\nload x\n",
		"thread\n" + strings.Repeat("wall\n", 8), "thread\n" + strings.Repeat("load x\n", 7), strings.Repeat("thread\nwall\nwall\nwall\nwall\nwall\n", 3), strings.Repeat("thread\nload x\nload x\nload x\n", 3),
	}
}

// noAsks is last lines that ask for nothing.
func noAsks() []string {
	return []string{
		"", " ", "  ", "\t", "\r", "\x00", "0", "1", "2", "3", "what", "s", "thread", "store x 1", "load x", "wall", "in", "out", "wait", "/ 0 0 0", "no walls", "no walls strict", "bad ask", "bad text",
		"Strict", "STRICT", "sTRICT", "Late", "LATE", "Loose", "LOOSE", "lOose", "Walls strict", "WALLS strict", "walls Strict", "walls LATE", "walls looSe", "\u017ftrict",
		" strict", "strict ", " late", "late ", " loose", "loose ", "\tstrict", "strict\t", "strict\r", "late\r", "loose\r", "strict\x00", "\x00strict", "strict\xff", "\xef\xbb\xbfstrict", "strict\v", "strict\u00a0", "strict\u2028",
		"stric", "trict", "strictt", "sstrict", "stric t", "lat", "later", "loos", "looser", "lose", "strict.", "strict;", "strictlate", "strict late", "late loose", "loose strict", "strict strict", "strict walls", "late walls", "strict 1",
		"walls", "walls ", "walls  ", " walls", "wallsstrict", "walls  strict", "walls  late", "walls\tstrict", "walls strict ", " walls strict", "walls strict\r", "walls late ", "walls  loose ", "walls what", "walls 1", "walls 0 1", "walls 3", "walls walls", "walls walls strict", "walls strict late", "walls strict strict", "walls late walls", "walls stric", "walls strictt", "walls wall", "walls no", "walls /", "wall strict", "wallss strict", "walls, strict", "walls strict,", "walls:strict", "walls\x00strict", "walls\u00a0strict",
	}
}

// P107, P108: of what is no text of a program it is told that the text is bad, whatever is asked, also if nothing is; of what is one, that the ask is.
func TestBadTextsAndAsks(t *testing.T) {
	good := []string{"", "thread\n", "thread\nthread\nthread\n", plainText(read(t, crossProg)), plainText(read(t, waitProg)), plainText(read(t, threeProg)), "thread\n" + strings.Repeat("wall\n", 7)}
	for _, ahead := range noTexts() {
		for _, ask := range slices.Concat(goodAsks(), noAsks()) {
			if got := impl.LinesRun(ahead + ask + "\n"); got != "bad text\n" {
				t.Errorf("%q: %q", ahead+ask+"\n", got)
			}
		}
	}
	for _, ahead := range good {
		for _, ask := range noAsks() {
			if got := impl.LinesRun(ahead + ask + "\n"); got != "bad ask\n" {
				t.Errorf("%q: %q", ahead+ask+"\n", got)
			}
		}
		for _, ask := range goodAsks() {
			if got := impl.LinesRun(ahead + ask + "\n"); strings.HasPrefix(got, "bad") || !strings.HasSuffix(got, "\n") {
				t.Errorf("%q: %q", ahead+ask+"\n", got)
			}
		}
	}
}

// P107, P109: edges of texts, told by hand: the last line is cut off first, then all ahead of it must be a text.
func TestEdgesOfTexts(t *testing.T) {
	for text, want := range map[string]string{
		"": "bad text", "\n": "bad ask", "\n\n": "bad text", " ": "bad text", " \n": "bad ask", "strict": "bad text", "walls strict": "bad text", "what": "bad text",
		"strict\n\n": "bad text", "strict\nstrict\n": "bad text", "\nstrict\n": "bad text", "strict\n ": "bad text", "strict\nx": "bad text",
		// a text of a program and no ask: its own last line is one that asks for nothing
		"thread\n": "bad ask", "thread\nthread\n": "bad ask", "thread\nstore x 1\n": "bad ask", "thread\nthread\nthread\nthread\n": "bad ask", "store x 1\n": "bad ask", "load x\nload x\n": "bad text", "thread\nin\nload x\nout\n": "bad text", "thread\nin\nout\n": "bad text", "thread\nin\n": "bad ask", "thread\nload x\ncopy y\n": "bad ask",
		"thread\nstore x 1\nload y\nthread\nstore y 1\nload x\n": "bad ask", "thread\nstore x 1\nload y\nthread\nstore y 1\nload x": "bad text", "thread": "bad text", "thread\nstore x 1": "bad text",
		"thread\nin\nout\nstrict\n": "/ 0 0 0", "thread\nin\nout\nstrict": "bad text", "thread\nstrict\nstrict\n": "bad text", "strict\nthread\n": "bad text", "late\nthread\nstrict\n": "bad text",
		"thread\r\nstrict\r\n": "bad text", "thread\nstrict\r\n": "bad ask", "strict\n\r": "bad text", "strict\r": "bad text", "thread\rstrict\n": "bad ask", "thread\rstrict\r": "bad text",
	} {
		if got := impl.LinesRun(text); got != want+"\n" {
			t.Errorf("%q: %q, not %q", text, got, want+"\n")
		}
	}
}

// P109: whatever the text is, without its last newline it is bad; with it a right one is not.
func TestWithoutTheLastNewline(t *testing.T) {
	ends := []string{"", " ", "\r", "\x00", "\t", "x", "\v", "\u0085", "\u2028", "\\n", "\xff", "\n ", "\n\x00", "\n\r"}
	for i, p := range somePrograms() {
		if i > 60 && i%20 != 0 {
			continue
		}
		for _, ask := range slices.Concat(goodAsks(), []string{"what", "walls", "thread"}) {
			for _, end := range ends {
				if got := impl.LinesRun(plainText(p) + ask + end); got != "bad text\n" {
					t.Fatalf("%q: %q", plainText(p)+ask+end, got)
				}
			}
		}
	}
	r := rand.New(rand.NewPCG(111, 112))
	for range 20000 {
		text := []byte(plainText(randomProg(r)) + goodAsks()[r.IntN(6)])
		for range r.IntN(4) {
			text[r.IntN(len(text))] = byte(r.Uint32())
		}
		if text[len(text)-1] == '\n' {
			continue
		}
		if got := impl.LinesRun(string(text)); got != "bad text\n" {
			t.Fatalf("%q: %q", text, got)
		}
	}
}

var progPattern = regexp.MustCompile(`\A(thread\n((store|give) [xyz] [123]\n|(load|take|copy) [xyz]\n|(wall|in|out|wait)\n)*)*\z`)

// patternProg reads the text of a program once more, by a pattern.
func patternProg(text string) (impl.Prog, bool) {
	var p impl.Prog
	if !progPattern.MatchString(text) {
		return p, false
	}
	for _, line := range strings.Split(strings.TrimSuffix(text, "\n"), "\n") {
		words := strings.Fields(line)
		switch {
		case len(words) == 0: // the text is empty
		case words[0] == "thread":
			p.Threads = append(p.Threads, nil)
		default:
			d := impl.Do{Kind: 1 + slices.Index(strings.Fields("store load copy wall take give in out wait"), words[0])}
			if len(words) > 1 {
				d.Place = strings.Index("xyz", words[1])
			}
			if len(words) > 2 {
				d.Val = strings.Index("0123", words[2])
			}
			last := len(p.Threads) - 1
			p.Threads[last] = append(p.Threads[last], d)
		}
	}
	return p, plainOk(p)
}

// plainLines tells what a text is told once more: from what is told of all that is seen by an order, in whatever way.
func plainLines(text string, all func(impl.Prog, int) []impl.Seen) string {
	lines := strings.SplitAfter(text, "\n")
	last := len(lines) - 2
	if last < 0 || lines[last+1] != "" {
		return "bad text\n"
	}
	p, ok := patternProg(strings.Join(lines[:last], ""))
	if !ok {
		return "bad text\n"
	}
	at := slices.Index(goodAsks(), strings.TrimSuffix(lines[last], "\n"))
	switch {
	case at < 0:
		return "bad ask\n"
	case at < 3:
		return asLines(seenTexts(all(p, at+1)))
	case plainGaps(p) > 5:
		return "no walls\n"
	}
	few, _ := plainFew(p, at-2, all)
	return strings.TrimSuffix("walls "+few, " ") + "\n"
}

// P107, P108: small programs, held against a telling that takes nothing of the program: all ways counted through, and all choices of gaps.
func TestLinesOfAllWays(t *testing.T) {
	r := rand.New(rand.NewPCG(113, 114))
	var list []impl.Prog
	for _, text := range []string{"", "||", crossProg, passProg, waitProg, threeProg, "load x, copy y | load y, store x 1", "store x 1, load z, load y | store y 1, load z, load x"} {
		list = append(list, read(t, text))
	}
	for len(list) < 70 {
		for _, p := range []impl.Prog{shortProg(r), crossingProg(r), smallProg(r, 6)} {
			if mostWays(p) <= 16 {
				list = append(list, p)
			}
		}
	}
	told := map[string]int{}
	for _, p := range list {
		for _, ask := range goodAsks() {
			text := plainText(p) + ask + "\n"
			got, want := impl.LinesRun(text), plainLines(text, plainOrderAll)
			if got != want {
				t.Fatalf("%q: %q, not %q", text, got, want)
			}
			if strings.HasPrefix(ask, "walls") {
				told[fmt.Sprint("walls ", len(strings.Fields(got))-1)]++
			} else {
				told[fmt.Sprint("lines ", min(strings.Count(got, "\n"), 5))]++
			}
		}
	}
	for _, name := range []string{"walls 0", "walls 1", "walls 2", "lines 1", "lines 2", "lines 3", "lines 4", "lines 5"} {
		if told[name] < 5 {
			t.Errorf("%s: %d only: %v", name, told[name], told)
		}
	}
}

// P107: of many programs: as many lines as OrderAll tells, each the text of what it tells there.
func TestALineForEachThatIsSeen(t *testing.T) {
	many := map[int]int{}
	for _, p := range orderPrograms() {
		for at, word := range orderWords() {
			list := impl.OrderAll(p, at+1)
			got := impl.LinesRun(plainText(p) + word + "\n")
			lines := strings.Split(got, "\n")
			if len(lines) != len(list)+1 || lines[len(list)] != "" {
				t.Fatalf("%v, %s: %q for %s", p, word, got, seenTexts(list))
			}
			for j, s := range list {
				if lines[j] != plainSeenText(s) {
					t.Fatalf("%v, %s: line %q, not %v", p, word, lines[j], s)
				}
			}
			many[min(len(list), 10)]++
		}
	}
	for n := 1; n <= 10; n++ {
		if many[n] < 5 {
			t.Error(many)
		}
	}
}

// P107: each line is the text of something that was seen of the program, in order and each once; machines come to just the same.
func TestLinesAreSeenInOrder(t *testing.T) {
	for i, p := range orderPrograms() {
		if i > 200 && i%3 != 0 { // the first are those at the edges
			continue
		}
		text := plainText(p)
		var told []string
		for _, word := range orderWords() {
			got := impl.LinesRun(text + word + "\n")
			lines := strings.Split(strings.TrimSuffix(got, "\n"), "\n")
			var list []impl.Seen
			for j, line := range lines {
				s := seenOf(t, line)
				if !impl.SeenOk(p, s) || plainSeenText(s) != line || j > 0 && !plainLess(list[j-1], s) {
					t.Fatalf("%v, %s, line %d: %q", p, word, j+1, got)
				}
				list = append(list, s)
			}
			told = append(told, seenTexts(list))
		}
		if strict, late := seenTexts(impl.MachStrict(p)), seenTexts(impl.MachLate(p)); told[0] != strict || told[1] != late {
			t.Fatalf("%v: %q, machines %q and %q", p, told, strict, late)
		}
	}
}

// P108: of many programs: as many numbers as WallFew tells, ascending, and just its own; no walls where it is false.
func TestAsManyWallsAsFew(t *testing.T) {
	list := slices.Concat(limitProgs(), shortPrograms())
	for i, p := range orderPrograms() {
		if i%20 == 0 {
			list = append(list, p)
		}
	}
	many := map[int]int{}
	for _, p := range list {
		for at, word := range orderWords() {
			gaps, ok := impl.WallFew(p, at+1)
			got := impl.LinesRun(plainText(p) + "walls " + word + "\n")
			if !ok {
				many[-1]++
				if got != "no walls\n" {
					t.Fatalf("%v, %s: %q", p, word, got)
				}
				continue
			}
			many[len(gaps)]++
			rest, _ := strings.CutPrefix(got, "walls")
			words := strings.Fields(rest)
			if len(words) != len(gaps) || got != strings.Join(append([]string{"walls"}, words...), " ")+"\n" {
				t.Fatalf("%v, %s: %q for %v", p, word, got, gaps)
			}
			for j, each := range words {
				if n, err := strconv.Atoi(each); err != nil || n != gaps[j] || strconv.Itoa(n) != each {
					t.Fatalf("%v, %s: %q for %v", p, word, got, gaps)
				}
			}
		}
	}
	for n, least := range map[int]int{-1: 30, 0: 300, 1: 50, 2: 30, 3: 5} {
		if many[n] < least {
			t.Error(many)
		}
	}
}

// P110: the text of what is odd of each shape, in each way, is a line by just the orders of which the promises say that it is seen.
func TestLinesOfWhatIsOdd(t *testing.T) {
	seenOdd := map[string]int{}
	eachShape(t, func(shape, how int, p impl.Prog) {
		first := oddOrders()[shape][how]
		text := tableShape(shape, how)
		if text != impl.ProgText(p) {
			t.Fatalf("shape %d, how %d: %q", shape, how, text)
		}
		for at, word := range orderWords() {
			want := first != 0 && at+1 >= first
			got := impl.LinesRun(text + word + "\n")
			lines := strings.Split(got, "\n")
			if slices.Contains(lines, oddTexts()[shape]) != want || slices.Contains(lines, impl.SeenText(oddOf(t, shape))) != want || impl.SeenIn(impl.OrderAll(p, at+1), oddOf(t, shape)) != want {
				t.Errorf("shape %d, how %d, %s: odd is a line: %v: %q", shape, how, word, !want, got)
			}
			if again := plainLines(text+word+"\n", plainOrderAll); got != again {
				t.Errorf("shape %d, how %d, %s: %q, not %q", shape, how, word, got, again)
			}
			if want {
				seenOdd[word]++
			}
		}
	})
	// ShapeCross in three ways; by the loose order ShapePass and ShapeFour in two ways and ShapeRound in one besides.
	if seenOdd["strict"] != 0 || seenOdd["late"] != 3 || seenOdd["loose"] != 8 {
		t.Error(seenOdd)
	}
}

// P108, P110: walls of each shape, in each way, told by hand: where nothing odd is seen none are needed.
func TestWallsOfShapesInLines(t *testing.T) {
	eachShape(t, func(shape, how int, p impl.Prog) {
		first := oddOrders()[shape][how]
		for at, word := range orderWords() {
			want := "walls\n"
			if first != 0 && at+1 >= first {
				want = "walls 0 1\n"
			}
			if got := impl.LinesRun(tableShape(shape, how) + "walls " + word + "\n"); got != want {
				t.Errorf("shape %d, how %d, %s: %q, not %q", shape, how, word, got, want)
			}
		}
	})
}

// askedOnce keeps what was told of a text, for many texts that are a byte away are the same.
func askedOnce() func(text string) string {
	told := map[string]string{}
	return func(text string) string {
		if _, ok := told[text]; !ok {
			told[text] = plainLines(text, impl.OrderAll)
		}
		return told[text]
	}
}

// P107 to P109: texts a byte away from a right one: a byte more, less, or another one, and all that a text begins with.
func TestTextsAByteAway(t *testing.T) {
	bytes := []byte("\x00\t\n\r /01234acdehiklnoprstuvwxyzLSW\x7f\x80\xff")
	want := askedOnce()
	kinds := map[string]int{}
	check := func(text string) {
		t.Helper()
		got := impl.LinesRun(text)
		if got != want(text) {
			t.Fatalf("%q: %q, not %q", text, got, want(text))
		}
		if strings.HasPrefix(got, "bad") {
			kinds[got]++
		} else {
			kinds["good"]++
		}
	}
	for _, prog := range []string{"", "wall", "store x 1 | load x", crossProg, "in, take y, out | store x 1, wait, give y 1"} {
		for _, ask := range goodAsks() {
			text := plainText(read(t, prog)) + ask + "\n"
			check(text)
			for at := range len(text) + 1 {
				check(text[:at])
				for _, b := range bytes {
					check(text[:at] + string([]byte{b}) + text[at:])
					if at < len(text) {
						check(text[:at] + text[at+1:])
						check(text[:at] + string([]byte{b}) + text[at+1:])
					}
				}
			}
		}
	}
	if kinds["good"] < 300 || kinds["bad text\n"] < 10000 || kinds["bad ask\n"] < 5000 {
		t.Error(kinds)
	}
}

// What is said once: a text may hold any bytes, and be of any size.
func TestAnyBytesAreAnswered(t *testing.T) {
	words := []string{"thread\n", "thread\n", "store x 1\n", "load y\n", "in\n", "out\n", "wait\n", "wall\n", "strict\n", "late\n", "loose\n", "walls strict\n", "walls loose\n", "walls\n", "\n", " ", "\x00", "\xff\n", "\u00e9\n", "copy z\n", "give y 2\n", "take y\n"}
	r := rand.New(rand.NewPCG(115, 116))
	want := askedOnce()
	for range 30000 {
		text := ""
		for range r.IntN(7) {
			text += words[r.IntN(len(words))]
		}
		if got := impl.LinesRun(text); got != want(text) {
			t.Fatalf("%q: %q, not %q", text, got, want(text))
		}
	}
	for b := range 256 {
		one := string([]byte{byte(b)})
		for _, text := range []string{one, one + "\n", "\n" + one, one + "strict\n", "strict" + one, "strict" + one + "\n", "walls" + one + "late\n", "strict\n" + one, one + "\nstrict\n"} {
			if got := impl.LinesRun(text); got != want(text) {
				t.Errorf("%q: %q, not %q", text, got, want(text))
			}
		}
	}
	const size = 1 << 20
	for text, want := range map[string]string{
		strings.Repeat("strict\n", size): "bad text\n", strings.Repeat("thread\n", size) + "strict\n": "bad text\n", "thread\n" + strings.Repeat("wall\n", size) + "late\n": "bad text\n", strings.Repeat("\n", size): "bad text\n", strings.Repeat(" ", size) + "\n": "bad ask\n", strings.Repeat("walls ", size) + "strict\n": "bad ask\n", strings.Repeat("x", size): "bad text\n", "strict" + strings.Repeat(" ", size) + "\n": "bad ask\n", strings.Repeat("\x00", size) + "\nstrict\n": "bad text\n",
	} {
		if got := impl.LinesRun(text); got != want {
			t.Errorf("%.20q .. of %d bytes: %q, not %q", text, len(text), got, want)
		}
	}
}

// P107: programs at the limits are told, too.
func TestTextsAtTheLimits(t *testing.T) {
	for _, p := range limitProgs() {
		for at, word := range orderWords() {
			if got, want := impl.LinesRun(plainText(p)+word+"\n"), asLines(seenTexts(impl.OrderAll(p, at+1))); got != want || want == "\n" {
				t.Errorf("%v, %s: %q, not %q", p, word, got, want)
			}
		}
	}
}

// What is said once: the answers are the same however often the call is made, whatever was asked ahead of it, on one processor or on many, and by many at once.
func TestLinesAreTheSameEachTime(t *testing.T) {
	var texts, want []string
	for _, prog := range []string{"", crossProg, passProg, waitProg, "store x 1, load z, load y | store y 1, load z, load x", "wall, wall, wall, wall, wall, wall, wall"} {
		for _, ask := range append(goodAsks(), "what", "load w\nlate") {
			texts = append(texts, plainText(read(t, prog))+ask+"\n")
		}
	}
	texts = append(texts, "", "\n", "strict", "strict\n", "walls late\n")
	for _, text := range texts {
		want = append(want, plainLines(text, impl.OrderAll))
	}
	check := func(at int) {
		if got := impl.LinesRun(texts[at]); got != want[at] {
			t.Errorf("%q: %q, not %q", texts[at], got, want[at])
		}
	}
	defer runtime.GOMAXPROCS(runtime.GOMAXPROCS(0))
	for _, n := range nums(1, 2, 8) {
		runtime.GOMAXPROCS(n)
		for step := 1; step < 8; step++ {
			for i := range texts {
				check(i * step % len(texts))
				check(i * step % len(texts))
			}
		}
	}
	var all sync.WaitGroup
	for each := range 8 {
		all.Go(func() {
			for i := range 3 * len(texts) {
				check((i*(each+1) + each) % len(texts))
			}
		})
	}
	all.Wait()
}
