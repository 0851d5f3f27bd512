package tests

import (
	"fmt"
	"math"
	"math/rand/v2"
	"regexp"
	"slices"
	"strings"
	"testing"

	"loop.example/fathomline/impl"
)

// The letters of kinds 1 to 9 (A waits): what a thread may do is told once more, by patterns over them.
const letters = "SLCWTGIOA"

var (
	goodTurns = regexp.MustCompile(`^([^IO]|I[^IOA]*O)*$`)
	badCopy   = regexp.MustCompile(`^[^LT]*C`)
	useLetter = regexp.MustCompile(`[SLCTG]`)
)

func plainStep(d impl.Do) bool {
	switch d.Kind {
	case impl.DoStore, impl.DoGive:
		return slices.Contains([]int{0, 1, 2}, d.Place) && slices.Contains([]int{1, 2, 3}, d.Val)
	case impl.DoLoad, impl.DoTake, impl.DoCopy:
		return slices.Contains([]int{0, 1, 2}, d.Place) && d.Val == 0
	case impl.DoWall, impl.DoIn, impl.DoOut, impl.DoWait:
		return d == impl.Do{Kind: d.Kind}
	}
	return false
}

// plainOk says whether a program is ok, by the words of the document and in another way than the program.
func plainOk(p impl.Prog) bool {
	all := ""
	for _, steps := range p.Threads {
		line := ""
		for _, d := range steps {
			if !plainStep(d) {
				return false
			}
			line += letters[d.Kind-1 : d.Kind]
		}
		if len(line) > 7 || !goodTurns.MatchString(line) || badCopy.MatchString(line) {
			return false
		}
		all += line
	}
	return len(p.Threads) <= 3 && len(all) <= 14 && len(useLetter.FindAllString(all, -1)) <= 6
}

// plainText writes a program in another way than the program does; it has a letter for the first place that is none.
func plainText(p impl.Prog) string {
	words := strings.Fields("store load copy wall take give in out wait")
	text := ""
	for _, steps := range p.Threads {
		text += "thread\n"
		for _, d := range steps {
			text += words[d.Kind-1]
			if usesOf([]impl.Do{d}) == 1 {
				text += fmt.Sprintf(" %c", "xyz{"[d.Place])
			}
			if d.Val > 0 {
				text += fmt.Sprintf(" %d", d.Val)
			}
			text += "\n"
		}
	}
	return text
}

// P1.
func TestProgramIsReadBack(t *testing.T) {
	list := somePrograms()
	if len(list) < 3000 {
		t.Fatal("only", len(list), "programs")
	}
	for _, p := range list {
		text := impl.ProgText(p)
		if text != plainText(p) {
			t.Fatalf("text of %v: %q", p, text)
		}
		if q, ok := impl.ProgRead(text); !ok || !sameProg(p, q) {
			t.Fatalf("%q is read as %v, %v", text, q, ok)
		}
	}
}

// P1, P2: each kind as the document writes it.
func TestEachKindAsWritten(t *testing.T) {
	for text, d := range map[string]impl.Do{
		"store x 1": {Kind: 1, Place: 0, Val: 1}, "load x": {Kind: 2}, "wall": {Kind: 4}, "take x": {Kind: 5},
		"give x 1": {Kind: 6, Val: 1}, "wait": {Kind: 9},
		"store y 2": {Kind: 1, Place: 1, Val: 2}, "give z 3": {Kind: 6, Place: 2, Val: 3}, "load z": {Kind: 2, Place: 2}, "take y": {Kind: 5, Place: 1},
	} {
		whole := "thread\n" + text + "\n"
		p, ok := impl.ProgRead(whole)
		if !ok || !sameProg(p, prog(thread(d))) || impl.ProgText(prog(thread(d))) != whole {
			t.Errorf("%q: %v %v", text, p, ok)
		}
	}
	p, ok := impl.ProgRead("thread\nin\nload y\ncopy z\nout\n")
	if !ok || !sameProg(p, prog([]impl.Do{{Kind: 7}, {Kind: 2, Place: 1}, {Kind: 3, Place: 2}, {Kind: 8}})) {
		t.Error(p, ok)
	}
}

// checkText: what is read must be a program with just that text; else nothing is answered.
func checkText(t *testing.T, text string) bool {
	t.Helper()
	p, ok := impl.ProgRead(text)
	if ok && (!plainOk(p) || plainText(p) != text || impl.ProgText(p) != text) {
		t.Fatalf("%q is read as %v", text, p)
	}
	if !ok && len(p.Threads) != 0 {
		t.Fatalf("%q is refused, but %v told", text, p)
	}
	return ok
}

// P2: texts a byte away from that of a program.
func TestProgramHasOneText(t *testing.T) {
	bytes := []byte("\x00\t\n\r -+0123459adehilnoprtuvwxyzX\x7f\x80\xbf\xc3\xff")
	taken := 0
	for i, p := range somePrograms() {
		if i%40 != 0 {
			continue
		}
		text := plainText(p)
		if !checkText(t, text) {
			t.Fatalf("%q is refused", text)
		}
		for at := range len(text) + 1 {
			for _, b := range bytes {
				checkText(t, text[:at]+string([]byte{b})+text[at:])
				if at < len(text) && checkText(t, text[:at]+string([]byte{b})+text[at+1:]) {
					taken++
				}
			}
			if at < len(text) {
				checkText(t, text[:at]+text[at+1:])
				checkText(t, text[:at])
				checkText(t, text[at:])
			}
		}
	}
	if taken == 0 {
		t.Error("no neighbour is a program")
	}
}

// P2: texts that are not just the text of a program.
func TestTextsOfNoProgram(t *testing.T) {
	for _, text := range []string{
		"\n", " ", "thread", "thread\n\n", "\nthread\n", " thread\n", "thread \n", "Thread\n", "threads\n", "thread\r\n", "thread\x00\n", "thread 1\n",
		"wall\n", "wall\nthread\n", "store x 1\n",
		"thread\nwall", "thread\nwall ", "thread\nwall \n", "thread\nwall x\n", "thread\nwall 0\n", "thread\nwall x 1\n", "thread\nwait x\n", "thread\nin x\nout\n", "thread\nin\nout x\n",
		"thread\nstore\n", "thread\nstore x\n", "thread\nstore 1\n", "thread\nstore 1 x\n", "thread\nstore x 0\n", "thread\nstore x 4\n", "thread\nstore x -1\n", "thread\nstore x +1\n",
		"thread\nstore x 01\n", "thread\nstore x 1 \n", "thread\nstore  x 1\n", "thread\nstore x  1\n", "thread\nstore x 11\n", "thread\nstore x1\n", "thread\nstorex 1\n", "thread\nstore x 1 1\n",
		"thread\nstore x one\n", "thread\nstore w 1\n", "thread\nstore { 1\n", "thread\nstore X 1\n", "thread\nstore x 1.0\n", "thread\nstore x 257\n", "thread\nstore x \u0661\n", "thread\nstore x \uff11\n",
		"thread\ngive x\n", "thread\ngive x 0\n", "thread\ngive x 4\n", "thread\ngive a 1\n",
		"thread\nload\n", "thread\nload \n", "thread\nload w\n", "thread\nload {\n", "thread\nload xy\n", "thread\nload x 1\n", "thread\nload x \n", "thread\nload 0\n", "thread\nload \u0445\n", "thread\nload \ufffd\n", "thread\nload \x80\n",
		"thread\ntake\n", "thread\ntake w\n", "thread\ntake x 1\n",
		"thread\ncopy x\n", "thread\nload x\ncopy\n", "thread\nload x\ncopy x 1\n", "thread\nload x\ncopy w\n", "thread\ncopy x\nload x\n", "thread\nload x\nthread\ncopy x\n",
		"thread\nin\n", "thread\nout\n", "thread\nin\nwait\nout\n", "thread\nin\nin\nout\n", "thread\nin\nout\nout\n", "thread\nin\nthread\nout\n",
		"thread\nSTORE x 1\n", "thread\nstor x 1\n", "thread\nnone\n", "thread\n\xff\n", "\xff\xfe", "\ufeffthread\n", "thread\nwall\n\x00", "thread\nwall\n ", "thread\n wall\n", "thread\twall\n", "thread\nwall;wall\n",
	} {
		if checkText(t, text) {
			t.Errorf("%q is read", text)
		}
	}
}

// P2: any bytes.
func TestAnyBytesAreNoProgram(t *testing.T) {
	r := rand.New(rand.NewPCG(3, 4))
	for range 20000 {
		text := make([]byte, r.IntN(40))
		for i := range text {
			text[i] = byte(r.IntN(256))
		}
		if checkText(t, string(text)) && len(text) > 0 {
			t.Fatalf("%q is read", text)
		}
	}
	words := strings.Split("thread|thread\n|store|load|copy|wall|take|give|in|out|wait| x| y| z| 1| 2| 3|\n|\n|\n", "|")
	for range 50000 {
		text := ""
		for range r.IntN(12) {
			text += words[r.IntN(len(words))]
		}
		checkText(t, text)
	}
}

// P2, the edge: no program is longer than 400 bytes, and none so long, so that both are refused.
func TestTextOf400Bytes(t *testing.T) {
	good := "thread\nstore x 1\n"
	for _, size := range []int{400, 401, 100000} {
		for _, fill := range []string{"\n", " ", "wall\n", "x", "\x00"} {
			text := good + strings.Repeat(fill, size)
			if checkText(t, text[:size]) {
				t.Errorf("%d bytes of %q are read", size, fill)
			}
		}
	}
	longest := prog(times(7, wall()), append(times(6, store(0, 1)), wall()), nil)
	if text := impl.ProgText(longest); len(text) != 121 || !checkText(t, text) {
		t.Errorf("the longest text: %q", text)
	}
}

// P3.
func TestReadsAreThoseOfThreads(t *testing.T) {
	most := 0
	for _, p := range somePrograms() {
		each, told := 0, 0
		for _, steps := range p.Threads {
			each += impl.ProgReads(prog(steps))
			for _, d := range steps {
				if d.Kind == impl.DoLoad || d.Kind == impl.DoTake {
					told++
				}
			}
		}
		if n := impl.ProgReads(p); n != each || n != told {
			t.Fatalf("%v: %d reads, its threads %d, counted %d", p, n, each, told)
		}
		most = max(most, told)
	}
	if most != impl.ProgUses {
		t.Error("no program of reads only:", most)
	}
	for n, p := range []impl.Prog{{}, prog(thread(load(0), store(0, 1), give(0, 1), copyTo(0), wall(), wait())), prog(thread(take(0)), thread(in(), load(2), out()))} {
		if impl.ProgReads(p) != n {
			t.Errorf("%v: %d reads", p, impl.ProgReads(p))
		}
	}
}

// P4.
func TestShorterProgramIsOk(t *testing.T) {
	outs := 0
	for _, p := range somePrograms() {
		last := len(p.Threads) - 1
		if last < 0 {
			continue
		}
		if !impl.ProgOk(impl.Prog{Threads: p.Threads[:last]}) {
			t.Fatalf("%v without its last thread is none", p)
		}
		n := len(p.Threads[last])
		if n == 0 {
			continue
		}
		q := copyProg(p)
		q.Threads[last] = q.Threads[last][:n-1]
		isOut := p.Threads[last][n-1].Kind == impl.DoOut
		if impl.ProgOk(q) == isOut {
			t.Fatalf("%v without its last step: %v", p, !isOut)
		}
		if isOut {
			outs++
		}
	}
	if outs == 0 {
		t.Error("no program ends with a reader that goes out")
	}
}

// P5.
func TestSameJustIfTextsAre(t *testing.T) {
	byText := map[string]impl.Prog{}
	byProg := map[string]string{}
	for _, p := range somePrograms() {
		text := impl.ProgText(p)
		if q, ok := byText[text]; ok && !sameProg(p, q) {
			t.Fatalf("%v and %v have the text %q", p, q, text)
		}
		name := fmt.Sprint(p.Threads)
		if other, ok := byProg[name]; ok && other != text {
			t.Fatalf("%v has the texts %q and %q", p, text, other)
		}
		byText[text], byProg[name] = p, text
	}
	if len(byText) != len(byProg) {
		t.Error(len(byText), "texts of", len(byProg), "programs")
	}
	if impl.ProgText(impl.Prog{Threads: [][]impl.Do{nil}}) != impl.ProgText(impl.Prog{Threads: [][]impl.Do{{}}}) {
		t.Error("the empty and the nil thread are not the same")
	}
}

// P6.
func TestMoreThreadsAreNone(t *testing.T) {
	wantNone(t, "four empty threads", prog(nil, nil, nil, nil))
	wantNone(t, "four threads", prog(times(1, wall()), times(1, wall()), times(1, wall()), times(1, wall())))
	wantNone(t, "very many threads", impl.Prog{Threads: make([][]impl.Do, 100000)})
	for _, p := range somePrograms() {
		for len(p.Threads) <= impl.ProgThreads {
			p.Threads = append(slices.Clip(p.Threads), nil)
		}
		wantNone(t, "one thread more", p)
	}
	if checkText(t, "thread\nthread\nthread\nthread\n") || !checkText(t, "thread\nthread\nthread\n") {
		t.Error("four threads are read, or three are not")
	}
}

// The limits and kinds as the document's tables have them.
func TestLimitsAndKindsAsTold(t *testing.T) {
	limits := []int{impl.ProgThreads, impl.ProgSteps, impl.ProgAll, impl.ProgUses, impl.ProgPlaces, impl.ProgVals}
	if !slices.Equal(limits, []int{3, 7, 14, 6, 3, 3}) {
		t.Error("limits", limits)
	}
	kinds := []int{impl.DoStore, impl.DoLoad, impl.DoCopy, impl.DoWall, impl.DoTake, impl.DoGive, impl.DoIn, impl.DoOut, impl.DoWait}
	if !slices.Equal(kinds, []int{1, 2, 3, 4, 5, 6, 7, 8, 9}) {
		t.Error("kinds", kinds)
	}
}

// P1, P3, P6: each limit met exactly, and one more.
func TestLimits(t *testing.T) {
	seven, six := times(7, wall()), times(6, load(0))
	for name, p := range map[string]impl.Prog{
		"no threads": {}, "threads without steps": prog(nil, nil, nil),
		"ProgThreads": prog(thread(wall()), thread(wall()), thread(wall())),
		"ProgSteps":   prog(seven), "ProgAll": prog(seven, seven), "ProgAll of three": prog(times(5, wall()), times(5, wall()), times(4, wall())),
		"ProgUses": prog(six), "ProgUses of each": prog(thread(store(0, 1), load(0), copyTo(1)), thread(take(1), give(2, 2), load(2))),
		"ProgUses and ProgAll": prog(append(times(3, load(0)), times(4, wall())...), append(times(3, store(1, 1)), times(4, wait())...)),
		"ProgPlaces":           prog(thread(load(2), store(2, 1), take(2), give(2, 1), copyTo(2))), "ProgVals": prog(thread(store(0, 3), give(0, 3))),
	} {
		if q, ok := impl.ProgRead(plainText(p)); !impl.ProgOk(p) || !ok || !sameProg(p, q) {
			t.Errorf("%s: %v refused", name, p)
		}
	}
	for name, p := range map[string]impl.Prog{
		"ProgThreads": prog(nil, nil, nil, nil),
		"ProgSteps":   prog(times(8, wall())), "ProgSteps of the last": prog(nil, nil, times(8, wait())),
		"ProgAll": prog(seven, seven, thread(wall())), "ProgAll of three": prog(times(5, wall()), times(5, wall()), times(5, wall())),
		"ProgUses of loads": prog(times(7, load(0))), "ProgUses of stores": prog(times(7, store(0, 1))), "ProgUses of takes": prog(times(7, take(0))), "ProgUses of gives": prog(times(7, give(0, 1))),
		"ProgUses of copies": prog(append(times(1, load(0)), times(6, copyTo(0))...)), "ProgUses of three": prog(times(3, load(0)), times(2, store(0, 1)), times(2, take(0))),
		"ProgPlaces": prog(thread(load(3))), "ProgVals": prog(thread(store(0, 4))), "ProgVals given": prog(thread(give(0, 4))),
	} {
		wantNone(t, name, p)
		if q, ok := impl.ProgRead(plainText(p)); ok || len(q.Threads) != 0 {
			t.Errorf("%s: read", name)
		}
	}
	wantNone(t, "very many steps", prog(times(100000, wall())))
}

// P1, P3, P5: kinds, places and values that are none, numbers where a step has none.
func TestStepsInForm(t *testing.T) {
	numbers := []int{math.MinInt, math.MinInt32, -256, -2, -1, 0, 1, 2, 3, 4, 5, 6, 7, 8, 9, 10, 11, 256, 257, 1 << 32, 1<<32 + 1, math.MaxInt32, math.MaxInt}
	taken := 0
	for _, kind := range numbers {
		for _, place := range numbers {
			for _, val := range numbers {
				d := impl.Do{Kind: kind, Place: place, Val: val}
				p := prog(thread(load(0), d))
				switch kind {
				case impl.DoIn:
					p = prog(thread(d, out()))
				case impl.DoOut:
					p = prog(thread(in(), d))
				}
				if !plainStep(d) {
					wantNone(t, "a step not in form", p)
					wantNone(t, "in the last thread", prog(nil, nil, p.Threads[0]))
				} else if !impl.ProgOk(p) {
					t.Errorf("%v refused", d)
				} else {
					taken++
				}
			}
		}
	}
	if taken != len(allSteps()) {
		t.Error(taken, "steps in form")
	}
}

// P1, P3, P4: readers that stay in, wait while in, go in or out twice, a copy ahead of any read: all threads of up to five kinds.
func TestThreadsOfAllKinds(t *testing.T) {
	steps := []impl.Do{store(0, 1), load(0), copyTo(0), wall(), take(0), give(0, 1), in(), out(), wait()}
	taken, refused := 0, 0
	var more func(list []impl.Do)
	more = func(list []impl.Do) {
		p := prog(nil, list)
		if !plainOk(p) {
			refused++
			wantNone(t, "thread", p)
		} else if taken++; !impl.ProgOk(p) || impl.ProgText(p) != plainText(p) {
			t.Fatalf("%v refused", list)
		}
		if len(list) == 5 {
			return
		}
		for _, d := range steps {
			more(append(slices.Clip(list), d))
		}
	}
	more(nil)
	if taken == 0 || refused == 0 {
		t.Error(taken, refused)
	}
	for _, list := range [][]impl.Do{
		{in()}, {out()}, {in(), in(), out()}, {in(), out(), out()}, {out(), in()}, {in(), wait(), out()}, {in(), out(), in()}, {in(), load(0), wait(), load(0), out()},
		{copyTo(0)}, {store(0, 1), copyTo(0)}, {copyTo(0), load(0)}, {give(0, 1), wall(), copyTo(1), take(0)},
	} {
		wantNone(t, "thread", prog(list))
		wantNone(t, "thread behind one that reads", prog(thread(load(0)), list))
	}
	wantNone(t, "a reader that goes out in another thread", prog(thread(in()), thread(out())))
	wantNone(t, "a copy of what another thread read", prog(thread(load(0)), thread(copyTo(0))))
}

// What is said once: nothing is written into an argument or behind its end, and what is read is new memory.
func TestProgramsShareNothing(t *testing.T) {
	for i, p := range somePrograms() {
		if i%10 != 0 {
			continue
		}
		room := copyProg(p)
		for j, steps := range room.Threads {
			wide := append(slices.Clone(steps), times(4, store(1, 2))...)
			room.Threads[j] = wide[:len(steps)]
		}
		room.Threads = append(room.Threads, times(2, wall()))[:len(room.Threads)]
		impl.ProgOk(room)
		impl.ProgReads(room)
		text := impl.ProgText(room)
		for _, steps := range room.Threads {
			if !slices.Equal(steps[len(steps):len(steps)+4], times(4, store(1, 2))) {
				t.Fatalf("%v: written behind a thread", p)
			}
		}
		if !sameProg(p, room) || !slices.Equal(room.Threads[:len(p.Threads)+1][len(p.Threads)], times(2, wall())) {
			t.Fatalf("%v became %v", p, room)
		}
		a, _ := impl.ProgRead(text)
		b, _ := impl.ProgRead(text)
		for j := range a.Threads {
			full := a.Threads[j][:cap(a.Threads[j])]
			for k := range full {
				full[k] = impl.Do{Kind: -j - 1}
			}
		}
		for j, steps := range a.Threads {
			for _, d := range steps {
				if d.Kind != -j-1 {
					t.Fatalf("%q: threads share memory", text)
				}
			}
		}
		if !sameProg(b, p) {
			t.Fatalf("%q: two answers share memory", text)
		}
	}
}
