package tests

import (
	"fmt"
	"math"
	"math/rand/v2"
	"slices"
	"strings"
	"testing"

	"loop.example/fathomline/impl"
)

// The two machines, so that what holds early and late is asked of both.
type machineOf struct {
	name string
	late bool
	all  func(impl.Prog) []impl.Seen
	some func(impl.Prog, []int) (impl.Seen, bool)
}

func machines() []machineOf {
	return []machineOf{{"strict", false, impl.MachStrict, impl.MachSome}, {"late", true, impl.MachLate, impl.MachTurns}}
}

// read is the program of a text whose lines are parted by commas, and whose threads by bars.
func read(t *testing.T, text string) impl.Prog {
	t.Helper()
	whole := ""
	for _, part := range strings.Split(text, "|") {
		whole += "thread\n"
		for _, line := range strings.Split(part, ",") {
			if line = strings.TrimSpace(line); line != "" {
				whole += line + "\n"
			}
		}
	}
	p, ok := impl.ProgRead(whole)
	if !ok {
		t.Fatalf("%q is no program", text)
	}
	return p
}

func seenTexts(list []impl.Seen) string {
	var texts []string
	for _, s := range list {
		texts = append(texts, plainSeenText(s))
	}
	return strings.Join(texts, "; ")
}

// happened is a turn that was taken. What a machine may do next is told from all that happened, and not from a state.
type happened struct {
	thread int
	comes  bool // a value comes to its place
	begins bool // the first turn of waiting
	do     impl.Do
	val    int
}

type history struct {
	p    impl.Prog
	late bool
	past []happened
}

func isRead(d impl.Do) bool { return d.Kind == impl.DoLoad || d.Kind == impl.DoTake }

func isWrite(d impl.Do) bool { return usesOf([]impl.Do{d}) == 1 && !isRead(d) }

// ofThread is what a thread did itself.
func (h history) ofThread(t int) []happened {
	var list []happened
	for _, e := range h.past {
		if e.thread == t && !e.comes {
			list = append(list, e)
		}
	}
	return list
}

// left is what a thread has still to do, and whether it has begun to wait.
func (h history) left(t int) ([]impl.Do, bool) {
	mine := h.ofThread(t)
	begun := len(mine) > 0 && mine[len(mine)-1].begins
	n := 0
	for _, e := range mine {
		if !e.begins {
			n++
		}
	}
	return h.p.Threads[t][n:], begun
}

// toCome is what a thread wrote and what has not come to its place yet.
func (h history) toCome(t int) []happened {
	if !h.late {
		return nil
	}
	var wrote []happened
	came := 0
	for _, e := range h.past {
		if e.thread == t && e.comes {
			came++
		} else if e.thread == t && isWrite(e.do) {
			wrote = append(wrote, e)
		}
	}
	return wrote[came:]
}

// isInAfter says whether a thread is a reader that is in, when that much has happened.
func (h history) isInAfter(t, n int) bool {
	is := false
	for _, e := range h.past[:n] {
		if e.thread == t && (e.do.Kind == impl.DoIn || e.do.Kind == impl.DoOut) {
			is = e.do.Kind == impl.DoIn
		}
	}
	return is
}

// waitsFor: another one was in when the last waiting of a thread began, and did not go out since.
func (h history) waitsFor(t, other int) bool {
	start := len(h.past) - 1
	for !(h.past[start].thread == t && h.past[start].begins) {
		start--
	}
	wentOut := slices.ContainsFunc(h.past[start:], func(e happened) bool { return e.thread == other && e.do.Kind == impl.DoOut })
	return h.isInAfter(other, start) && !wentOut
}

func (h history) mayEndWait(t int) bool {
	for other := range h.p.Threads {
		if h.waitsFor(t, other) {
			return false
		}
	}
	return true
}

// valueOf is what a thread would read at a place.
func (h history) valueOf(t, place int) int {
	val := 0
	for _, e := range h.past {
		if (e.comes || !h.late) && isWrite(e.do) && e.do.Place == place {
			val = e.val
		}
	}
	for _, e := range h.toCome(t) {
		if e.do.Place == place {
			val = e.val
		}
	}
	return val
}

func (h history) lastRead(t int) int {
	val := 0
	for _, e := range h.ofThread(t) {
		if isRead(e.do) {
			val = e.val
		}
	}
	return val
}

// take is the turn as it happens, and whether it can.
func (h history) take(turn int) (happened, bool) {
	if h.late && turn >= 3 && turn < 3+len(h.p.Threads) {
		list := h.toCome(turn - 3)
		if len(list) == 0 {
			return happened{}, false
		}
		return happened{thread: turn - 3, comes: true, do: list[0].do, val: list[0].val}, true
	}
	if turn < 0 || turn >= len(h.p.Threads) {
		return happened{}, false
	}
	left, begun := h.left(turn)
	if len(left) == 0 {
		return happened{}, false
	}
	e := happened{thread: turn, do: left[0], val: left[0].Val}
	switch {
	case isRead(e.do):
		e.val = h.valueOf(turn, e.do.Place)
	case e.do.Kind == impl.DoCopy:
		e.val = h.lastRead(turn)
	case isWrite(e.do):
	case len(h.toCome(turn)) > 0:
		return happened{}, false
	case e.do.Kind == impl.DoWait && !begun:
		e.begins = true
	case e.do.Kind == impl.DoWait:
		return e, h.mayEndWait(turn)
	}
	return e, true
}

func (h history) with(e happened) history {
	return history{h.p, h.late, append(slices.Clip(h.past), e)}
}

// seen is what is seen when nothing is left.
func (h history) seen() (impl.Seen, bool) {
	s := impl.Seen{Last: make([]int, impl.ProgPlaces)}
	for t := range h.p.Threads {
		if left, _ := h.left(t); len(left) > 0 || len(h.toCome(t)) > 0 {
			return impl.Seen{}, false
		}
		for _, e := range h.ofThread(t) {
			if isRead(e.do) {
				s.Reads = append(s.Reads, e.val)
			}
		}
	}
	for place := range s.Last {
		s.Last[place] = h.valueOf(-1, place)
	}
	return s, true
}

// plainRun takes turns.
func plainRun(p impl.Prog, turns []int, late bool) (impl.Seen, bool) {
	h := history{p: p, late: late}
	for _, turn := range turns {
		e, ok := h.take(turn)
		if !ok {
			return impl.Seen{}, false
		}
		h = h.with(e)
	}
	return h.seen()
}

// mark tells all of what happened on which it hangs what may happen yet.
func (h history) mark() string {
	text := ""
	for t := range h.p.Threads {
		left, begun := h.left(t)
		text += fmt.Sprint(len(left), begun, h.toCome(t))
		for other := range h.p.Threads {
			text += fmt.Sprint(h.isInAfter(other, len(h.past)), begun && h.waitsFor(t, other))
		}
		for _, e := range h.ofThread(t) {
			if isRead(e.do) {
				text += fmt.Sprint(" ", e.val)
			}
		}
	}
	for place := range impl.ProgPlaces {
		text += fmt.Sprint(" ", h.valueOf(-1, place))
	}
	return text
}

// plainAll takes all turns that there are: however often they come to the same, if the program is small; else with what was marked once left out.
func plainAll(p impl.Prog, late, marks bool) []impl.Seen {
	byText := map[string]impl.Seen{}
	marked := map[string]bool{}
	var more func(h history)
	more = func(h history) {
		if marks {
			mark := h.mark()
			if marked[mark] {
				return
			}
			marked[mark] = true
		}
		if s, ok := h.seen(); ok {
			byText[plainSeenText(s)] = s
		}
		for turn := range 6 {
			if e, ok := h.take(turn); ok {
				more(h.with(e))
			}
		}
	}
	more(history{p: p, late: late})
	var list []impl.Seen
	for _, s := range byText {
		list = append(list, s)
	}
	return plainSort(list)
}

// randomTurns is turns that can be taken, until nothing is left; the lazier, the later values come.
func randomTurns(r *rand.Rand, p impl.Prog, late bool, lazy int) []int {
	var turns []int
	h := history{p: p, late: late}
	for {
		var can []int
		for turn := range 6 {
			if _, ok := h.take(turn); ok {
				can = append(can, turn)
				for range lazy {
					if turn < 3 {
						can = append(can, turn)
					}
				}
			}
		}
		if len(can) == 0 {
			return turns
		}
		turn := can[r.IntN(len(can))]
		e, _ := h.take(turn)
		h, turns = h.with(e), append(turns, turn)
	}
}

// smallProg is a program that is ok, of at most that many steps, with few places, so that threads meet.
func smallProg(r *rand.Rand, most int) impl.Prog {
	var p impl.Prog
	left := most
	for i := range r.IntN(3) + 1 {
		n := r.IntN(min(left, 4) + 1)
		if i == 0 {
			n = min(2, left)
		}
		steps := randomThread(r, n, 3)
		left -= n
		for j := range steps {
			if steps[j].Place == 2 {
				steps[j].Place = 0
			}
			if steps[j].Val > 0 {
				steps[j].Val = 1 + r.IntN(3)
			}
		}
		p.Threads = append(p.Threads, steps)
	}
	return p
}

// piecesProg is a program that is ok, put together of what threads do to each other: they read behind a write, go in and out, and wait.
func piecesProg(r *rand.Rand) impl.Prog {
	for {
		var p impl.Prog
		for range 2 + r.IntN(2) {
			var steps []impl.Do
			for range 1 + r.IntN(3) {
				a, b, v := r.IntN(2), r.IntN(2), 1+r.IntN(3)
				steps = append(steps, [][]impl.Do{
					{store(a, v), load(1 - a)}, {store(a, v), load(1 - a)}, {give(a, v), take(1 - a)}, {store(a, v), store(b, v)}, {give(a, v)}, {take(a)}, {load(a), copyTo(b)}, {store(a, v), load(a), load(1 - a)},
					{in(), load(a), load(b), out()}, {in(), store(a, v), out()}, {in(), out()}, {wait()}, {store(a, v), wait(), store(b, v)}, {wall()},
				}[r.IntN(14)]...)
			}
			p.Threads = append(p.Threads, steps)
		}
		if plainOk(p) {
			return p
		}
	}
}

// machPrograms is programs that are ok: well-known ones, all of one or two steps, and others, small and large.
func machPrograms() []impl.Prog {
	list := somePrograms()[:1000]
	r := rand.New(rand.NewPCG(11, 12))
	for range 400 {
		list = append(list, smallProg(r, 7), piecesProg(r))
	}
	list = append(list, limitProgs()...)
	return slices.DeleteFunc(list, func(p impl.Prog) bool { return !plainOk(p) })
}

// limitProgs is programs at each limit of the table.
func limitProgs() []impl.Prog {
	return []impl.Prog{
		prog(thread(store(0, 1)), thread(store(0, 2)), thread(load(0))),
		prog(times(7, wall())), prog(nil, times(7, wait())),
		prog(times(7, wait()), times(7, wait())), prog(times(5, wall()), times(5, wait()), times(4, wall())),
		prog(thread(in(), out(), in(), out(), in(), out(), wall()), times(7, wait())),
		prog(times(6, load(0))), prog(times(6, store(2, 3))), prog(times(3, store(0, 3)), times(3, take(0))), prog(times(2, store(0, 1)), times(2, store(0, 2)), times(2, load(0))),
		prog(append(times(3, load(0)), times(4, wall())...), append(times(3, store(0, 3)), times(4, wait())...)),
		prog(thread(load(2), store(2, 3), take(2), give(2, 1), copyTo(2))), prog(thread(store(0, 3), give(1, 3)), thread(load(1), copyTo(2), load(0), copyTo(2))),
	}
}

// P13 to P16: what is seen of programs that are told by hand, strictly and late; no late one, where it is the same.
func TestMachinesAsTold(t *testing.T) {
	for _, c := range []struct{ text, strict, late string }{
		{"store x 1, load y | store y 1, load x", "0 1 / 1 1 0; 1 0 / 1 1 0; 1 1 / 1 1 0", "0 0 / 1 1 0; 0 1 / 1 1 0; 1 0 / 1 1 0; 1 1 / 1 1 0"},
		{"give x 1, take y | give y 1, take x", "0 1 / 1 1 0; 1 0 / 1 1 0; 1 1 / 1 1 0", "0 0 / 1 1 0; 0 1 / 1 1 0; 1 0 / 1 1 0; 1 1 / 1 1 0"},
		{"store x 1, wall, load y | store y 1, wall, load x", "0 1 / 1 1 0; 1 0 / 1 1 0; 1 1 / 1 1 0", ""},
		{"store x 1, wait, load y | store y 1, in, load x, out", "0 1 / 1 1 0; 1 0 / 1 1 0; 1 1 / 1 1 0", ""},
		{"store x 1, wall, load y | store y 1, load x", "0 1 / 1 1 0; 1 0 / 1 1 0; 1 1 / 1 1 0", "0 0 / 1 1 0; 0 1 / 1 1 0; 1 0 / 1 1 0; 1 1 / 1 1 0"},
		{"store x 1, store y 1 | load y, load x", "0 0 / 1 1 0; 0 1 / 1 1 0; 1 1 / 1 1 0", ""},
		{"load x, store y 1 | load y, store x 1", "0 0 / 1 1 0; 0 1 / 1 1 0; 1 0 / 1 1 0", ""},
		{"load x, copy y | load y, copy x", "0 0 / 0 0 0", ""},
		{"store x 1 | load x, load x", "0 0 / 1 0 0; 0 1 / 1 0 0; 1 1 / 1 0 0", ""},
		{"store x 2, store y 1 | store y 2, store x 1", "/ 1 1 0; / 1 2 0; / 2 1 0", ""},
		{"in, load y, load x, out | store x 1, wait, store y 1", "0 0 / 1 1 0; 0 1 / 1 1 0; 1 1 / 1 1 0", ""},
		{"in, load y, load x, out | store x 1, wall, store y 1", "0 0 / 1 1 0; 0 1 / 1 1 0; 1 1 / 1 1 0", ""},
		{"in, load x, load y, out | store x 1, wait, store y 1", "0 0 / 1 1 0; 1 0 / 1 1 0; 1 1 / 1 1 0", ""},
		{"load x, load y | store x 1, wait, store y 1", "0 0 / 1 1 0; 0 1 / 1 1 0; 1 0 / 1 1 0; 1 1 / 1 1 0", ""},
		{"store x 2, load x, copy y", "2 / 2 2 0", ""},
		{"store x 1, load x, load y | store y 1, load y, load x", "1 0 1 1 / 1 1 0; 1 1 1 0 / 1 1 0; 1 1 1 1 / 1 1 0", "1 0 1 0 / 1 1 0; 1 0 1 1 / 1 1 0; 1 1 1 0 / 1 1 0; 1 1 1 1 / 1 1 0"},
		{"store x 1, load y, load x | store x 2, store y 1", "0 1 / 1 1 0; 0 1 / 2 1 0; 0 2 / 2 1 0; 1 1 / 1 1 0; 1 2 / 2 1 0", ""},
		{"store x 1 | load x, store y 1 | load y, load x", "0 0 0 / 1 1 0; 0 0 1 / 1 1 0; 0 1 0 / 1 1 0; 0 1 1 / 1 1 0; 1 0 0 / 1 1 0; 1 0 1 / 1 1 0; 1 1 1 / 1 1 0", ""},
		{"store z 3 | load z, copy x | take x, copy y", "0 0 / 0 0 3; 3 0 / 3 0 3; 3 3 / 3 3 3", ""},
	} {
		p := read(t, c.text)
		if c.late == "" {
			c.late = c.strict
		}
		if got := seenTexts(impl.MachStrict(p)); got != c.strict {
			t.Errorf("%s, strictly: %s", c.text, got)
		}
		if got := seenTexts(impl.MachLate(p)); got != c.late {
			t.Errorf("%s, late: %s", c.text, got)
		}
	}
}

// sameAsPlain holds both machines against all turns that there are, and says whether late more is seen.
func sameAsPlain(t *testing.T, p impl.Prog, marks bool) bool {
	t.Helper()
	for _, m := range machines() {
		if got, want := m.all(p), plainAll(p, m.late, marks); !sameSeens(got, want) {
			t.Fatalf("%v, %s: %s, not %s", p, m.name, seenTexts(got), seenTexts(want))
		}
	}
	return len(impl.MachLate(p)) > len(impl.MachStrict(p))
}

// P13 to P16: small programs, held against all turns that there are.
func TestMachinesOfSmallPrograms(t *testing.T) {
	r := rand.New(rand.NewPCG(13, 14))
	more := 0
	for range 500 {
		if sameAsPlain(t, smallProg(r, 5), false) {
			more++
		}
	}
	for _, text := range []string{"store x 1, load y | store y 1, load x", "store x 1, load x, load y | store y 1, load x", "in, load y, load x, out | store x 1, wait, store y 1", "store x 1 | load x, copy y | load y, load x", "in, out, in, out | wait, wait"} {
		p := read(t, text)
		if sameAsPlain(t, p, false) {
			more++
		}
		sameAsPlain(t, p, true)
	}
	if more < 5 {
		t.Error("late, more is seen of", more, "programs only")
	}
}

// P13 to P16: large programs, up to the limits.
func TestMachinesOfLargePrograms(t *testing.T) {
	r := rand.New(rand.NewPCG(25, 26))
	for _, p := range limitProgs() {
		sameAsPlain(t, p, true)
	}
	more := 0
	for range 300 {
		for _, p := range []impl.Prog{smallProg(r, 9), randomProg(r), piecesProg(r)} {
			if plainOk(p) && sameAsPlain(t, p, true) {
				more++
			}
		}
	}
	if more < 10 {
		t.Error("late, more is seen of", more, "programs only")
	}
}

// P13.
func TestMachinesSeeOfTheProgram(t *testing.T) {
	for _, p := range machPrograms() {
		for _, m := range machines() {
			list := m.all(p)
			for i, s := range list {
				if !impl.SeenOk(p, s) {
					t.Fatalf("%v, %s: %v is not of it", p, m.name, s)
				}
				if i > 0 && !plainLess(list[i-1], s) {
					t.Fatalf("%v, %s: not in order, each once: %s", p, m.name, seenTexts(list))
				}
			}
		}
	}
}

// P14, P15.
func TestTurnsLeadThere(t *testing.T) {
	r := rand.New(rand.NewPCG(15, 16))
	for _, p := range machPrograms() {
		for _, m := range machines() {
			list := m.all(p)
			for lazy := range 6 {
				turns := randomTurns(r, p, m.late, lazy)
				want, ok := plainRun(p, turns, m.late)
				if !ok {
					t.Fatalf("%v, %s: stuck at %v", p, m.name, turns)
				}
				got, ok := m.some(p, turns)
				if !ok || !sameSeen(got, want) || !impl.SeenIn(list, got) {
					t.Fatalf("%v, %s, turns %v: %v, %v, not %v; of %s", p, m.name, turns, got, ok, want, seenTexts(list))
				}
			}
		}
	}
}

// P14, P15: one turn of those that lead somewhere is another one, too much or too little.
func TestTurnsThatAreNone(t *testing.T) {
	r := rand.New(rand.NewPCG(17, 18))
	taken, refused := 0, 0
	for _, p := range machPrograms() {
		for _, m := range machines() {
			for range 10 {
				turns := randomTurns(r, p, m.late, r.IntN(4))
				at := r.IntN(len(turns) + 1)
				turn := r.IntN(9) - 1
				switch r.IntN(4) {
				case 0:
					turns = slices.Insert(turns, at, turn)
				case 1:
					turns = slices.Delete(turns, at, min(at+1, len(turns)))
				case 2:
					if at < len(turns) {
						turns[at] = turn
					}
				case 3:
					r.Shuffle(len(turns), func(i, j int) { turns[i], turns[j] = turns[j], turns[i] })
				}
				want, wantOk := plainRun(p, turns, m.late)
				got, ok := m.some(p, turns)
				if ok != wantOk || !sameSeen(got, want) {
					t.Fatalf("%v, %s, turns %v: %v, %v, not %v, %v", p, m.name, turns, got, ok, want, wantOk)
				}
				if ok {
					taken++
				} else {
					refused++
				}
			}
		}
	}
	if taken < 100 || refused < 100 {
		t.Error(taken, refused)
	}
}

// P14, P15: all rows of turns of a few programs.
func TestAllRowsOfTurns(t *testing.T) {
	for _, text := range []string{"", "|", "wall", "wait", "in, out | wait", "store x 1 | load x", "store x 1, load x", "store x 1, store x 2", "load y, copy z", "||load x"} {
		p := read(t, text)
		for _, m := range machines() {
			var led []impl.Seen
			for _, turns := range rows(4, -1, 0, 1, 2, 3, 4, 5, 6) {
				want, wantOk := plainRun(p, turns, m.late)
				got, ok := m.some(p, turns)
				if ok != wantOk || !sameSeen(got, want) {
					t.Fatalf("%q, %s, turns %v: %v, %v", text, m.name, turns, got, ok)
				}
				if ok {
					led = append(led, got)
				}
			}
			if len(led) == 0 || !sameSeens(plainSort(led), m.all(p)) {
				t.Errorf("%q, %s: turns lead to %s", text, m.name, seenTexts(plainSort(led)))
			}
		}
	}
}

// P16.
func TestStrictIsAmongLate(t *testing.T) {
	more := 0
	for _, p := range machPrograms() {
		strict, late := impl.MachStrict(p), impl.MachLate(p)
		if len(strict) == 0 || len(late) == 0 {
			t.Fatalf("%v: nothing is seen: %v, %v", p, strict, late)
		}
		for _, s := range strict {
			if !impl.SeenIn(late, s) {
				t.Fatalf("%v: %v is seen strictly, but not late", p, s)
			}
		}
		if len(late) > len(strict) {
			more++
		}
	}
	if more == 0 {
		t.Error("late, no more is ever seen")
	}
}

// alone is what a thread sees that nobody comes near.
func alone(steps []impl.Do) impl.Seen {
	s := impl.Seen{Last: make([]int, impl.ProgPlaces)}
	for _, d := range steps {
		switch {
		case isRead(d):
			s.Reads = append(s.Reads, s.Last[d.Place])
		case d.Kind == impl.DoCopy:
			s.Last[d.Place] = s.Reads[len(s.Reads)-1]
		case isWrite(d):
			s.Last[d.Place] = d.Val
		}
	}
	return s
}

// P17.
func TestThreadAloneSeesOneThing(t *testing.T) {
	r := rand.New(rand.NewPCG(19, 20))
	list := [][]impl.Do{
		nil, times(7, wait()), times(6, store(0, 1)), times(6, load(2)),
		{store(0, 1), load(0), store(0, 2), load(0), copyTo(1), load(1)}, {store(0, 2), store(0, 3), load(0), wall(), load(0)},
		{load(0), copyTo(1), store(0, 2), load(0), copyTo(2), in(), out()}, {in(), give(1, 3), take(1), out(), wait(), copyTo(0)},
	}
	for range 600 {
		list = append(list, randomThread(r, r.IntN(impl.ProgSteps+1), impl.ProgUses))
	}
	for _, steps := range list {
		want := []impl.Seen{alone(steps)}
		for _, p := range []impl.Prog{prog(steps), prog(nil, steps), prog(steps, nil, nil), prog(nil, nil, steps)} {
			for _, m := range machines() {
				if got := m.all(p); !sameSeens(got, want) {
					t.Fatalf("%v, %s: %s, not %s", p, m.name, seenTexts(got), seenTexts(want))
				}
			}
		}
	}
}

// P18.
func TestNoughtsAreSeen(t *testing.T) {
	for _, p := range []impl.Prog{{}, {Threads: [][]impl.Do{}}, prog(nil), prog(thread()), prog(nil, nil), prog(thread(), nil, thread())} {
		for _, m := range machines() {
			if got := seenTexts(m.all(p)); got != "/ 0 0 0" {
				t.Errorf("%#v, %s: %s", p, m.name, got)
			}
			for _, turns := range [][]int{nil, {}} {
				if s, ok := m.some(p, turns); !ok || plainSeenText(s) != "/ 0 0 0" {
					t.Errorf("%#v, %s: %v, %v", p, m.name, s, ok)
				}
			}
			for turn := -1; turn < 8; turn++ {
				if s, ok := m.some(p, nums(turn)); ok || !sameSeen(s, impl.Seen{}) {
					t.Errorf("%#v, %s, turn %d: %v, %v", p, m.name, turn, s, ok)
				}
			}
		}
	}
}

// mayBe is, of each place, all that may ever be there: 0, what is stored there, and what may be where something is read that is copied there.
func mayBe(p impl.Prog) []map[int]bool {
	may := []map[int]bool{{0: true}, {0: true}, {0: true}}
	for range impl.ProgUses {
		for _, steps := range p.Threads {
			from := 0
			for _, d := range steps {
				switch {
				case isRead(d):
					from = d.Place
				case d.Kind == impl.DoCopy:
					for v := range may[from] {
						may[d.Place][v] = true
					}
				case isWrite(d):
					may[d.Place][d.Val] = true
				}
			}
		}
	}
	return may
}

// P19, P20.
func TestValuesComeFromSomewhere(t *testing.T) {
	copied := 0
	for _, p := range machPrograms() {
		may := mayBe(p)
		var places []int
		for _, steps := range p.Threads {
			for _, d := range steps {
				if isRead(d) {
					places = append(places, d.Place)
				}
			}
		}
		for _, m := range machines() {
			for _, s := range m.all(p) {
				for i, v := range s.Reads {
					if !may[places[i]][v] {
						t.Fatalf("%v, %s: %v: who wrote what read %d has?", p, m.name, s, i)
					}
				}
				for place, v := range s.Last {
					if !may[place][v] {
						t.Fatalf("%v, %s: %v: who wrote what is at %d?", p, m.name, s, place)
					}
				}
			}
		}
		if len(may[0])+len(may[1])+len(may[2]) > 3 && strings.Contains(plainText(p), "copy") {
			copied++
		}
	}
	if copied == 0 {
		t.Error("nothing is copied")
	}
}

// P19, P20: all that is told of a copy is seen, and nothing else.
func TestWhatIsCopied(t *testing.T) {
	for text, want := range map[string]string{
		"load x, copy y": "0 / 0 0 0",
		"store x 3, load x, copy y, store x 1, load x, copy z":          "3 1 / 1 3 1",
		"store x 3, load x, store x 1, copy y":                          "3 / 1 3 0",
		"store x 3, load x, load y, copy x":                             "3 0 / 0 0 0",
		"store x 2, take x, copy y, copy z":                             "2 / 2 2 2",
		"store x 2, load x, copy x":                                     "2 / 2 0 0",
		"store x 2, load x, copy y, load y, copy z, load z":             "2 2 2 / 2 2 2",
		"load x, copy x | store x 1":                                    "0 / 0 0 0; 0 / 1 0 0; 1 / 1 0 0",
		"load x, wall, copy y | store x 1, wall, store x 2":             "0 / 2 0 0; 1 / 2 1 0; 2 / 2 2 0",
		"load x, copy y | store x 1 | load y":                           "0 0 / 1 0 0; 1 0 / 1 1 0; 1 1 / 1 1 0",
		"store y 1, load x, copy y | store y 2, store x 3":              "0 / 3 0 0; 0 / 3 2 0; 3 / 3 3 0",
		"in, load x, copy y, out | store x 1, wait, load y, copy z":     "0 0 / 1 0 0; 1 1 / 1 1 1; 1 0 / 1 1 0",
		"in, load x, copy y, out | store x 1, wall, wait, take y, wall": "0 0 / 1 0 0; 1 0 / 1 1 0; 1 1 / 1 1 0",
	} {
		p := read(t, text)
		for _, m := range machines() {
			got := strings.Split(seenTexts(m.all(p)), "; ")
			parts := strings.Split(want, "; ")
			slices.Sort(parts)
			if !slices.Equal(got, parts) {
				t.Errorf("%s, %s: %q", text, m.name, got)
			}
		}
	}
}

// P21.
func TestThreadWithoutStepsChangesNothing(t *testing.T) {
	for _, p := range machPrograms() {
		if len(p.Threads) == impl.ProgThreads {
			continue
		}
		for _, m := range machines() {
			want := m.all(p)
			for at := range len(p.Threads) + 1 {
				q := impl.Prog{Threads: slices.Insert(slices.Clone(p.Threads), at, []impl.Do(nil))}
				if got := m.all(q); !sameSeens(got, want) {
					t.Fatalf("%v, %s: %s, not %s", q, m.name, seenTexts(got), seenTexts(want))
				}
			}
		}
	}
}

// P22: wherever the thread stands, and whatever it reads.
func TestOneLoadMoreChangesNothing(t *testing.T) {
	for _, p := range machPrograms() {
		for at := range len(p.Threads) + 1 {
			before := impl.ProgReads(impl.Prog{Threads: p.Threads[:at]})
			for place := range impl.ProgPlaces {
				q := impl.Prog{Threads: slices.Insert(slices.Clone(p.Threads), at, thread(load(place)))}
				if !plainOk(q) {
					continue
				}
				for _, m := range machines() {
					rest := copySeens(m.all(q))
					for i, s := range rest {
						rest[i].Reads = slices.Delete(s.Reads, before, before+1)
					}
					if got, want := plainSort(rest), m.all(p); !sameSeens(got, want) {
						t.Fatalf("%v, %s: of the rest %s, not %s", q, m.name, seenTexts(got), seenTexts(want))
					}
				}
			}
		}
	}
}

// turnCase is turns, and what they lead to; nothing, if they cannot be taken or something is left.
type turnCase struct {
	text  string
	turns []int
	want  string
}

func checkTurns(t *testing.T, name string, some func(impl.Prog, []int) (impl.Seen, bool), list []turnCase) {
	t.Helper()
	for _, c := range list {
		s, ok := some(read(t, c.text), c.turns)
		if ok != (c.want != "") || ok && plainSeenText(s) != c.want || !ok && !sameSeen(s, impl.Seen{}) {
			t.Errorf("%s, %s, turns %v: %v, %v, not %q", name, c.text, c.turns, s, ok, c.want)
		}
	}
}

// P15, P17: what a thread reads of its own, ahead of when it comes to its place and behind that, and what others read then.
func TestWhatAThreadReadsOfItsOwn(t *testing.T) {
	twice := "store x 1, store x 2, load x | load x"
	mixed := "store x 1, store y 2, load x, load y, load z"
	checkTurns(t, "late", impl.MachTurns, []turnCase{
		{"store x 1, load x", nums(0, 0, 3), "1 / 1 0 0"},
		{"store x 1, load x", nums(0, 3, 0), "1 / 1 0 0"},
		{"store x 1, load x | store x 2", nums(0, 1, 4, 0, 3), "1 / 1 0 0"},
		{"store x 1, load x | store x 2", nums(0, 1, 3, 4, 0), "2 / 2 0 0"},
		{"store x 1, load x | store x 2", nums(0, 3, 0, 1, 4), "1 / 2 0 0"},
		{"store x 1, load x | store x 2", nums(0, 3, 1, 0, 4), "1 / 2 0 0"},
		{"give x 1, take x | store x 2", nums(0, 1, 4, 0, 3), "1 / 1 0 0"},
		{twice, nums(0, 0, 0, 1, 3, 3), "2 0 / 2 0 0"},
		{twice, nums(0, 0, 3, 0, 1, 3), "2 1 / 2 0 0"},
		{twice, nums(0, 0, 3, 1, 0, 3), "2 1 / 2 0 0"},
		{twice, nums(0, 0, 3, 3, 0, 1), "2 2 / 2 0 0"},
		{twice, nums(0, 3, 1, 0, 0, 3), "2 1 / 2 0 0"},
		{mixed, nums(0, 0, 0, 0, 0, 3, 3), "1 2 0 / 1 2 0"},
		{mixed, nums(0, 0, 3, 0, 0, 0, 3), "1 2 0 / 1 2 0"},
		{"store x 1, load x, copy y | load y", nums(0, 0, 0, 1, 3, 3), "1 0 / 1 1 0"},
		{"store x 1, load x, copy x, load x | store x 3", nums(0, 0, 1, 0, 3, 4, 0, 3), "1 1 / 1 0 0"},
		{"store x 1, store x 2, store x 3, load x, load x, load x", nums(0, 0, 0, 0, 3, 0, 3, 0, 3), "3 3 3 / 3 0 0"},
		{"store x 1, store x 2, store x 1, store x 2, store x 1, store x 3", nums(0, 0, 0, 0, 0, 0, 3, 3, 3, 3, 3, 3), "/ 3 0 0"},
	})
	checkTurns(t, "strict", impl.MachSome, []turnCase{
		{"store x 1, load x | store x 2", nums(0, 1, 0), "2 / 2 0 0"},
		{"store x 1, load x | store x 2", nums(0, 0, 1), "1 / 2 0 0"},
		{twice, nums(0, 1, 0, 0), "2 1 / 2 0 0"}, {twice, nums(0, 0, 1, 0), "2 2 / 2 0 0"},
		{mixed, nums(0, 0, 0, 0, 0), "1 2 0 / 1 2 0"},
	})
}

// P15: what a thread wrote comes in the order in which it wrote it, each in a turn of its own.
func TestWritesComeInOrder(t *testing.T) {
	both := "store x 1, store y 1 | load y, load x"
	checkTurns(t, "late", impl.MachTurns, []turnCase{
		{both, nums(0, 0, 3, 1, 1, 3), "0 1 / 1 1 0"}, {both, nums(0, 0, 3, 3, 1, 1), "1 1 / 1 1 0"}, {both, nums(0, 0, 1, 1, 3, 3), "0 0 / 1 1 0"},
		{both, nums(0, 0, 3, 3, 3, 1, 1), ""}, {both, nums(3, 0, 0, 3, 1, 1), ""}, {both, nums(0, 3, 3, 0, 1, 1), ""},
		{both, nums(0, 0, 1, 1, 3), ""}, {both, nums(0, 0, 1, 1), ""}, {both, nums(0, 0, 1, 1, 3, 4), ""}, {both, nums(0, 0, 1, 1, 3, 3, 3), ""},
		{"store x 1 | store x 2", nums(0, 1, 4, 3), "/ 1 0 0"}, {"store x 1 | store x 2", nums(0, 1, 3, 4), "/ 2 0 0"},
		{"store x 1 | store x 2", nums(0, 1, 3, 3), ""}, {"store x 1 | store x 2", nums(0, 4, 1, 3), ""},
		{"load x, copy x", nums(0, 0, 3), "0 / 0 0 0"}, {"load x, copy x", nums(0, 0), ""},
	})
}

// P15: all steps but reads and writes wait for what is still to come of their thread, and for that alone.
func TestStepsWhileSomethingIsToCome(t *testing.T) {
	checkTurns(t, "late", impl.MachTurns, []turnCase{
		{"store x 1, wall", nums(0, 0, 3), ""}, {"store x 1, wall", nums(0, 3, 0), "/ 1 0 0"},
		{"store x 1, store y 1, wall", nums(0, 0, 3, 0, 3), ""}, {"store x 1, store y 1, wall", nums(0, 0, 3, 3, 0), "/ 1 1 0"},
		{"store x 1, in, out", nums(0, 0, 3, 0), ""}, {"store x 1, in, out", nums(0, 0, 0, 3), ""}, {"store x 1, in, out", nums(0, 3, 0, 0), "/ 1 0 0"},
		{"in, store x 1, out", nums(0, 0, 0, 3), ""}, {"in, store x 1, out", nums(0, 0, 3, 0), "/ 1 0 0"},
		{"store x 1, wait", nums(0, 0, 0, 3), ""}, {"store x 1, wait", nums(0, 0, 3, 0), ""}, {"store x 1, wait", nums(0, 3, 0, 0), "/ 1 0 0"},
		{"give x 1, wait", nums(0, 0, 3, 0), ""}, {"give x 1, wait", nums(0, 3, 0, 0), "/ 1 0 0"},
		{"load x, copy y, wall", nums(0, 0, 0, 3), ""}, {"load x, copy y, wall", nums(0, 0, 3, 0), "0 / 0 0 0"},
		{"wall, store x 1", nums(0, 0, 3), "/ 1 0 0"}, {"in, out, store x 1", nums(0, 0, 0, 3), "/ 1 0 0"}, {"wait, store x 1", nums(0, 0, 0, 3), "/ 1 0 0"}, {"wall, wall", nums(0, 0), "/ 0 0 0"},
		{"store x 1 | wall", nums(0, 1, 3), "/ 1 0 0"}, {"store x 1 | in, out", nums(0, 1, 1, 3), "/ 1 0 0"}, {"store x 1 | wait", nums(0, 1, 1, 3), "/ 1 0 0"}, {"store x 1 | wait", nums(1, 0, 1, 3), "/ 1 0 0"},
		{"store x 1, load x", nums(0, 0, 3), "1 / 1 0 0"}, {"store x 1, take y", nums(0, 0, 3), "0 / 1 0 0"}, {"store x 1, give y 1", nums(0, 0, 3, 3), "/ 1 1 0"},
	})
	for _, d := range []string{"wall", "in, out", "wait"} {
		p := read(t, "store x 1, "+d+", load y | store y 1, "+d+", load x")
		if strict, late := impl.MachStrict(p), impl.MachLate(p); !sameSeens(strict, late) || len(strict) != 3 {
			t.Errorf("%s: %s, late %s", d, seenTexts(strict), seenTexts(late))
		}
	}
}

// P14, P15: who waits does so in two turns, and goes on when all who were in at the first have been out since. Nothing is written here: both machines say the same.
func TestTwoTurnsOfWaiting(t *testing.T) {
	const none = "/ 0 0 0"
	one, twice, two, both := "in, out | wait", "in, out, in, out | wait", "in, out | in, out | wait", "in, out | wait | wait"
	again := "in, out | wait, wait"
	for _, m := range machines() {
		checkTurns(t, m.name, m.some, []turnCase{
			{"wait", nums(0, 0), none}, {"wait", nums(0), ""}, {"wait", nil, ""}, {"wait", nums(0, 0, 0), ""},
			{"wait, wait", nums(0, 0, 0, 0), none}, {"wait, wait", nums(0, 0, 0), ""},
			{one, nums(1, 1, 0, 0), none}, {one, nums(0, 0, 1, 1), none},
			{one, nums(0, 1, 0, 1), none}, {one, nums(0, 1, 1, 0), ""},
			{one, nums(1, 0, 1, 0), none}, {one, nums(1, 0, 0, 1), none},
			{twice, nums(0, 1, 1, 0, 0, 0), ""}, {twice, nums(0, 1, 0, 1, 0, 0), none},
			{twice, nums(0, 1, 0, 0, 1, 0), none}, {twice, nums(0, 1, 0, 0, 0, 1), none},
			{twice, nums(0, 0, 1, 0, 1, 0), none}, {twice, nums(0, 0, 0, 1, 1, 0), ""}, {twice, nums(0, 0, 0, 1, 0, 1), none},
			{two, nums(0, 1, 2, 0, 2, 1), ""}, {two, nums(0, 1, 2, 1, 2, 0), ""}, {two, nums(0, 1, 2, 0, 1, 2), none}, {two, nums(0, 1, 2, 1, 0, 2), none},
			{two, nums(0, 2, 1, 0, 2, 1), none}, {two, nums(0, 2, 1, 2, 0, 1), ""},
			{both, nums(0, 1, 2, 0, 1, 2), none}, {both, nums(0, 1, 2, 0, 2, 1), none}, {both, nums(1, 0, 2, 1, 0, 2), none}, {both, nums(1, 0, 2, 2, 0, 1), ""}, {both, nums(0, 1, 2, 1, 0, 2), ""}, {both, nums(1, 2, 2, 1, 0, 0), none},
			{again, nums(0, 1, 0, 1, 1, 1), none}, {again, nums(1, 0, 1, 1, 1, 0), ""}, {again, nums(1, 0, 1, 1, 0, 1), none}, {again, nums(1, 1, 0, 1, 1, 0), ""},
			{"wait | wait", nums(0, 1, 0, 1), none}, {"wait | wait", nums(0, 1, 1, 0), none}, {"wait, in, out | wait, in, out", nums(0, 1, 0, 1, 0, 1, 0, 1), none},
			{"wait, in, out | wait", nums(0, 1, 0, 0, 1, 0), none}, {"wait, in, out | wait", nums(0, 0, 0, 1, 1, 0), ""},
		})
	}
}

// P15: a reader whose writes are still to come is in.
func TestReaderThatCannotGoOut(t *testing.T) {
	text := "in, store x 1, out | wait, load x"
	checkTurns(t, "late", impl.MachTurns, []turnCase{
		{text, nums(0, 0, 1, 1, 3, 0, 1), ""}, {text, nums(0, 0, 1, 3, 1, 0, 1), ""}, {text, nums(0, 0, 1, 3, 0, 1, 1), "1 / 1 0 0"},
		{text, nums(1, 0, 0, 1, 1, 3, 0), "0 / 1 0 0"}, {text, nums(1, 0, 0, 1, 3, 1, 0), "1 / 1 0 0"},
	})
	checkTurns(t, "strict", impl.MachSome, []turnCase{
		{text, nums(0, 0, 1, 1, 0, 1), ""}, {text, nums(0, 0, 1, 0, 1, 1), "1 / 1 0 0"}, {text, nums(1, 0, 1, 1, 0, 0), "0 / 1 0 0"},
	})
}

// P14, P15: who waits never goes on while a reader is in that was there before, so that what it frees behind waiting is seen by nobody.
func TestNobodyGoesOnWhileAReaderIsIn(t *testing.T) {
	for _, text := range []string{"in, load y, load x, out | store x 1, wait, store y 1", "wall, in, wall, load y, load x, out | give x 1, wait, give y 1", "in, load y, out, in, load y, load x, out | store x 1, wait, store y 1"} {
		for _, m := range machines() {
			for _, s := range m.all(read(t, text)) {
				if n := len(s.Reads); s.Reads[n-2] == 1 && s.Reads[n-1] == 0 {
					t.Errorf("%s, %s: %v", text, m.name, s)
				}
			}
		}
	}
}

// badPrograms is what is no program.
func badPrograms() map[string]impl.Prog {
	return map[string]impl.Prog{
		"four threads": prog(nil, nil, nil, nil), "very many threads": {Threads: make([][]impl.Do, 1000)}, "eight steps": prog(times(8, wall())), "15 steps": prog(times(7, wall()), times(7, wall()), times(1, wall())),
		"seven reads": prog(times(7, load(0))), "seven writes": prog(times(7, store(0, 1))), "seven of three": prog(times(3, load(0)), times(2, store(0, 1)), times(2, take(0))), "very many steps": prog(times(1000, store(0, 1))),
		"no kind": prog(thread(impl.Do{})), "kind 10": prog(thread(impl.Do{Kind: 10})), "kind below 0": prog(thread(impl.Do{Kind: -1})),
		"no place": prog(thread(load(3))), "place below 0": prog(thread(store(-1, 1))), "value 4": prog(thread(store(0, 4))), "value 0": prog(thread(give(0, 0))), "a value too much": prog(thread(impl.Do{Kind: impl.DoLoad, Val: 1})), "a wall with a place": prog(thread(impl.Do{Kind: impl.DoWall, Place: 1})),
		"a copy first": prog(thread(copyTo(0))), "a copy of another thread": prog(thread(load(0)), thread(copyTo(0))),
		"stays in": prog(thread(in())), "goes out": prog(thread(out())), "goes in twice": prog(thread(in(), in(), out())), "waits in": prog(thread(in(), wait(), out())),
	}
}

// P13 to P15: of what is no program nothing is seen.
func TestMachinesOfNoProgram(t *testing.T) {
	for name, p := range badPrograms() {
		for _, m := range machines() {
			if got := m.all(p); len(got) != 0 {
				t.Errorf("%s, %s: %s", name, m.name, seenTexts(got))
			}
			for n := range 10 {
				for turn := range 4 {
					turns := slices.Repeat(nums(turn), n)
					if s, ok := m.some(p, turns); ok || !sameSeen(s, impl.Seen{}) {
						t.Errorf("%s, %s, turns %v: %v, %v", name, m.name, turns, s, ok)
					}
				}
			}
		}
	}
}

// P14, P15: turns of no thread.
func TestTurnsOfNoThread(t *testing.T) {
	far := nums(math.MinInt, math.MinInt+2, math.MinInt+3, math.MinInt32, -256, -4, -3, -2, -1, 6, 7, 8, 9, 255, 256, 259, 1<<32, 1<<32+3, math.MaxInt-2, math.MaxInt)
	steps := thread(store(0, 1), load(0))
	for _, c := range []struct {
		p            impl.Prog
		strict, late []int
		nobody       []int
	}{
		{prog(steps), nums(0, 0), nums(0, 0, 3), nums(1, 2, 4, 5)},
		{prog(steps, steps), nums(0, 1, 0, 1), nums(0, 1, 0, 1, 3, 4), nums(2, 5)},
		{prog(steps, steps, steps), nums(0, 1, 2, 0, 1, 2), nums(0, 1, 2, 0, 1, 2, 5, 4, 3), nil},
	} {
		for _, m := range machines() {
			good, none := c.strict, slices.Concat(far, c.nobody, nums(3, 4, 5))
			if m.late {
				good, none = c.late, slices.Concat(far, c.nobody)
			}
			if s, ok := m.some(c.p, good); !ok || !impl.SeenIn(m.all(c.p), s) {
				t.Fatalf("%v, %s, turns %v: %v, %v", c.p, m.name, good, s, ok)
			}
			for at := range len(good) + 1 {
				for _, turn := range none {
					if s, ok := m.some(c.p, slices.Insert(slices.Clone(good), at, turn)); ok || !sameSeen(s, impl.Seen{}) {
						t.Errorf("%v, %s, turn %d at %d: %v, %v", c.p, m.name, turn, at, s, ok)
					}
				}
			}
		}
	}
}

// P14, P15: too few turns, too many, and those that cannot be taken.
func TestTurnsTooFewAndTooMany(t *testing.T) {
	cross := "store x 1, load y | store y 1, load x"
	checkTurns(t, "strict", impl.MachSome, []turnCase{
		{cross, nums(0, 0, 1, 1), "0 1 / 1 1 0"}, {cross, nums(1, 1, 0, 0), "1 0 / 1 1 0"}, {cross, nums(0, 1, 1, 0), "1 1 / 1 1 0"},
		{cross, nil, ""}, {cross, nums(0), ""}, {cross, nums(0, 0), ""}, {cross, nums(0, 0, 1), ""}, {cross, nums(0, 0, 0), ""}, {cross, nums(0, 0, 0, 1, 1), ""}, {cross, nums(0, 0, 1, 1, 1), ""}, {cross, nums(0, 0, 1, 1, 0), ""}, {cross, nums(0, 0, 1, 1, 2), ""},
	})
	checkTurns(t, "late", impl.MachTurns, []turnCase{
		{cross, nums(0, 1, 0, 1, 3, 4), "0 0 / 1 1 0"}, {cross, nums(0, 3, 0, 1, 4, 1), "0 1 / 1 1 0"}, {cross, nums(0, 1, 0, 1, 4, 3), "0 0 / 1 1 0"},
		{cross, nil, ""}, {cross, nums(0, 0, 1, 1), ""}, {cross, nums(0, 1, 0, 1, 3), ""}, {cross, nums(0, 1, 0, 1, 4), ""}, {cross, nums(0, 1, 0, 3, 4), ""}, {cross, nums(0, 1, 0, 1, 3, 4, 3), ""}, {cross, nums(0, 1, 0, 1, 3, 4, 0), ""}, {cross, nums(0, 1, 0, 1, 3, 3), ""}, {cross, nums(3, 0, 1, 0, 1, 4), ""}, {cross, nums(0, 1, 0, 1, 3, 5), ""},
	})
}

// P14, P15: just 2 times, and 3 times, ProgAll turns, and one more.
func TestMostTurns(t *testing.T) {
	p := prog(times(7, wait()), times(7, wait()))
	turns := append(slices.Repeat(nums(0), 14), slices.Repeat(nums(1), 14)...)
	mixed := slices.Repeat(nums(1, 0), 14)
	q := prog(append(times(3, store(0, 1)), times(4, wait())...), append(times(3, store(1, 2)), times(4, wait())...))
	late := nums(0, 0, 0, 3, 3, 3, 0, 0, 0, 0, 0, 0, 0, 0, 1, 1, 1, 4, 4, 4, 1, 1, 1, 1, 1, 1, 1, 1)
	if len(turns) != 2*impl.ProgAll || len(mixed) != 2*impl.ProgAll || len(late) != 2*impl.ProgAll {
		t.Fatal("turns", len(turns), len(mixed), len(late))
	}
	for _, m := range machines() {
		for _, row := range [][]int{turns, mixed} {
			if s, ok := m.some(p, row); !ok || plainSeenText(s) != "/ 0 0 0" {
				t.Errorf("%s: %d turns: %v, %v", m.name, len(row), s, ok)
			}
		}
		for _, n := range []int{27, 29, 41, 42, 43, 100, 100000} {
			for _, from := range []int{-1, 0, 1, 3} {
				row := append(slices.Clone(turns[:27]), slices.Repeat(nums(from), n)...)[:n]
				for _, p := range []impl.Prog{p, {}, prog(nil, nil, nil)} {
					if s, ok := m.some(p, row); ok || !sameSeen(s, impl.Seen{}) {
						t.Errorf("%s: %d turns of %v: %v, %v", m.name, n, p, s, ok)
					}
				}
			}
		}
	}
	if s, ok := impl.MachTurns(q, late); !ok || plainSeenText(s) != "/ 1 2 0" {
		t.Errorf("late: %v, %v", s, ok)
	}
}

// P13, P16: each limit met exactly; one more is refused (TestMachinesOfNoProgram).
func TestMachinesAtTheLimits(t *testing.T) {
	for i, want := range []string{
		"0 / 1 0 0; 0 / 2 0 0; 1 / 1 0 0; 1 / 2 0 0; 2 / 1 0 0; 2 / 2 0 0",
		"/ 0 0 0", "/ 0 0 0", "/ 0 0 0", "/ 0 0 0", "/ 0 0 0",
		"0 0 0 0 0 0 / 0 0 0", "/ 0 0 3", "0 0 0 / 3 0 0; 0 0 3 / 3 0 0; 0 3 3 / 3 0 0; 3 3 3 / 3 0 0",
		"0 0 / 1 0 0; 0 0 / 2 0 0; 0 1 / 1 0 0; 0 1 / 2 0 0; 0 2 / 1 0 0; 0 2 / 2 0 0; 1 1 / 1 0 0; 1 1 / 2 0 0; 1 2 / 1 0 0; 1 2 / 2 0 0; 2 1 / 1 0 0; 2 1 / 2 0 0; 2 2 / 1 0 0; 2 2 / 2 0 0",
		"0 0 0 / 3 0 0; 0 0 3 / 3 0 0; 0 3 3 / 3 0 0; 3 3 3 / 3 0 0",
		"0 3 / 0 0 3", "0 0 / 3 3 0; 0 3 / 3 3 3; 3 3 / 3 3 3",
	} {
		p := limitProgs()[i]
		for _, m := range machines() {
			if got := seenTexts(m.all(p)); got != want {
				t.Errorf("%v, %s: %s", p, m.name, got)
			}
		}
	}
}

// What is said once: the empty list and the nil list are the same.
func TestMachinesTakeEmptyForNil(t *testing.T) {
	for _, m := range machines() {
		for _, p := range [][2]impl.Prog{
			{{}, {Threads: [][]impl.Do{}}}, {prog(nil), prog(thread())}, {prog(nil, thread(store(0, 1)), nil), prog(thread(), thread(store(0, 1)), make([]impl.Do, 0, 3))},
		} {
			if a, b := m.all(p[0]), m.all(p[1]); !sameSeens(a, b) || len(a) != 1 {
				t.Errorf("%#v, %s: %v, %v", p, m.name, a, b)
			}
			turns := nums(1, 4)
			if !m.late {
				turns = nums(1)
			}
			for _, row := range [][]int{nil, {}, make([]int, 0, 5), turns} {
				a, aOk := m.some(p[0], row)
				b, bOk := m.some(p[1], row)
				if wantOk := (len(row) > 0) == (len(p[0].Threads) == 3); aOk != bOk || aOk != wantOk || !sameSeen(a, b) {
					t.Errorf("%#v, %s, %v: %v %v, %v %v", p, m.name, row, a, aOk, b, bOk)
				}
			}
		}
	}
}

// wideProg is the same program with spare room behind each list, in which other steps stand.
func wideProg(p impl.Prog) impl.Prog {
	mark := impl.Do{Kind: 77, Place: 78, Val: 79}
	var q impl.Prog
	for _, steps := range p.Threads {
		q.Threads = append(q.Threads, append(slices.Clone(steps), mark, mark)[:len(steps)])
	}
	q.Threads = append(q.Threads, thread(mark), thread(mark))[:len(p.Threads)]
	return q
}

func wideProgOk(p impl.Prog) bool {
	text := ""
	for _, steps := range p.Threads {
		text += fmt.Sprint(steps[len(steps) : len(steps)+2])
	}
	n := len(p.Threads)
	text += fmt.Sprint(p.Threads[n : n+2])
	return text == strings.Repeat("[{77 78 79} {77 78 79}]", n)+"[[{77 78 79}] [{77 78 79}]]"
}

// What is said once: nothing is written into an argument or behind its end.
func TestMachineArgumentsStay(t *testing.T) {
	r := rand.New(rand.NewPCG(21, 22))
	for i, p := range machPrograms() {
		if i%4 != 0 {
			continue
		}
		for _, m := range machines() {
			q := wideProg(p)
			m.all(q)
			good := randomTurns(r, p, m.late, 1)
			for _, turns := range [][]int{good, append(slices.Clone(good), 0), good[:len(good)/2], nil} {
				row := wide(turns)
				m.some(q, row)
				if !slices.Equal(row, turns) || !wideOk(row) {
					t.Fatalf("%v, %s: turns %v became %v", p, m.name, turns, row)
				}
			}
			if !sameProg(p, q) || !wideProgOk(q) {
				t.Fatalf("%v became %v", p, q)
			}
		}
	}
	for name, p := range badPrograms() {
		q := wideProg(p)
		for _, m := range machines() {
			m.all(q)
			m.some(q, nums(0))
		}
		if !sameProg(p, q) || !wideProgOk(q) {
			t.Errorf("%s: %v became %v", name, p, q)
		}
	}
}

// scribble writes over all lists of an answer, spare room included, each with numbers of its own, and says whether each kept its own.
func scribble(list []impl.Seen) bool {
	for i, s := range list {
		fillSeen(s.Reads, 1000+2*i)
		fillSeen(s.Last, 1001+2*i)
	}
	own := true
	for i, s := range list {
		own = own && slices.Equal(s.Reads, slices.Repeat(nums(1000+2*i), len(s.Reads))) && slices.Equal(s.Last, slices.Repeat(nums(1001+2*i), len(s.Last)))
	}
	return own
}

// What is said once: an answer shares no memory with an argument or with another answer, and no two lists of one answer share any; nothing is kept.
func TestMachineAnswersShareNothing(t *testing.T) {
	r := rand.New(rand.NewPCG(23, 24))
	for i, p := range machPrograms() {
		if i%4 != 0 {
			continue
		}
		for _, m := range machines() {
			arg, turns := copyProg(p), randomTurns(r, p, m.late, 1)
			row := slices.Clone(turns)
			got, again := m.all(arg), m.all(arg)
			want := copySeens(again)
			if !sameSeens(got, want) {
				t.Fatalf("%v, %s: %s, then %s", p, m.name, seenTexts(got), seenTexts(again))
			}
			one, _ := m.some(arg, row)
			two, _ := m.some(arg, row)
			wantOne := copySeens([]impl.Seen{two})
			if !scribble(got) || !scribble([]impl.Seen{one}) {
				t.Fatalf("%v, %s: lists of an answer share memory", p, m.name)
			}
			clear(got[:cap(got)])
			if !sameProg(arg, p) || !slices.Equal(row, turns) || !sameSeens(again, want) || !sameSeen(two, wantOne[0]) {
				t.Fatalf("%v, %s: an answer shares memory", p, m.name)
			}
			if after, _ := m.some(arg, row); !sameSeens(m.all(arg), want) || !sameSeen(after, wantOne[0]) {
				t.Fatalf("%v, %s: something is kept", p, m.name)
			}
		}
	}
}
