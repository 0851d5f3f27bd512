package tests

import (
	"fmt"
	"maps"
	"math"
	"math/rand/v2"
	"slices"
	"strings"
	"sync"
	"testing"

	"loop.example/fathomline/impl"
)

// whyWay is what WhyExec tells; beside a false there must be nothing.
func whyWay(p impl.Prog, s impl.Seen, kind int) string {
	x, ok := impl.WhyExec(p, s, kind)
	switch {
	case ok:
		return wayText(x)
	case len(x.From) > 0 || len(x.Order) > 0:
		return "false, but " + wayText(x)
	}
	return "no"
}

func whyTurns(p impl.Prog, s impl.Seen) string { return rowText(impl.WhyTurns(p, s)) }

func whyLate(p impl.Prog, s impl.Seen) string { return rowText(impl.WhyLate(p, s)) }

// why is the turns that are told of a machine.
func (m machineOf) why(p impl.Prog, s impl.Seen) ([]int, bool) {
	if m.late {
		return impl.WhyLate(p, s)
	}
	return impl.WhyTurns(p, s)
}

// seenOf reads what was seen: "0 1 / 1 1 0".
func seenOf(t *testing.T, text string) impl.Seen {
	t.Helper()
	var s impl.Seen
	into := &s.Reads
	for _, word := range strings.Fields(text) {
		if word == "/" {
			into = &s.Last
			continue
		}
		v := 0
		if _, err := fmt.Sscan(word, &v); err != nil {
			t.Fatalf("%q was not seen: %v", text, err)
		}
		*into = append(*into, v)
	}
	return s
}

// plainWhys is, of each that is seen in a way that holds, the first such way, of all ways counted through.
func plainWhys(p impl.Prog, kind int) map[string]string {
	list := map[string]string{}
	for _, x := range plainWays(p) {
		text := plainSeenText(plainSeenOf(p, x))
		if _, ok := list[text]; !ok && lineHolds(p, x, kind) {
			list[text] = wayText(x)
		}
	}
	return list
}

// plainFirsts is, of each that a machine comes to, the first turns: all that there are are taken, the least first; of a large program, what was marked once is left out.
func plainFirsts(p impl.Prog, late, marks bool) map[string]string {
	firsts := map[string]string{}
	marked := map[string]bool{}
	var more func(h history, turns []int)
	more = func(h history, turns []int) {
		if marks {
			mark := h.mark()
			if marked[mark] {
				return
			}
			marked[mark] = true
		}
		if s, ok := h.seen(); ok && firsts[plainSeenText(s)] == "" {
			firsts[plainSeenText(s)] = rowText(turns, true)
		}
		for turn := range 6 {
			if e, ok := h.take(turn); ok {
				more(h.with(e), append(slices.Clip(turns), turn))
			}
		}
	}
	more(history{p: p, late: late}, nil)
	return firsts
}

// told is what a list tells of something, or that it tells nothing.
func told(list map[string]string, s impl.Seen) string {
	if text, ok := list[plainSeenText(s)]; ok {
		return text
	}
	return "no"
}

// everSeen is all that is seen in some way, whether it holds or not, and some besides that is seen in none.
func everSeen(p impl.Prog) []impl.Seen {
	var list []impl.Seen
	for _, x := range impl.ExecAll(p) {
		list = append(list, plainSeenOf(p, x))
	}
	list = plainSort(list)
	other := copySeens(list[len(list)/2:][:1])[0]
	for _, row := range [][]int{other.Reads, other.Last} {
		for i := range row {
			row[i] = (row[i] + 1) % 4
			list = append(list, copySeens([]impl.Seen{other})...)
		}
	}
	return list
}

// whyCase is what is told of something that was seen: a way of each order, "same" where it is that of the order ahead; strict turns, and late ones.
type whyCase struct {
	text, seen          string
	strict, late, loose string
	turns, lateTurns    string
}

func (c whyCase) check(t *testing.T, p impl.Prog) {
	t.Helper()
	s := seenOf(t, c.seen)
	want, order := c.strict, 0
	for i, way := range []string{c.strict, c.late, c.loose} {
		if way != "same" {
			want = way
		}
		if want != "no" && order == 0 {
			order = i + 1
		}
		if got := whyWay(p, s, i+1); got != want {
			t.Errorf("%s, %s, order %d: %s, not %s", c.text, c.seen, i+1, got, want)
		}
	}
	if got := impl.WhyOrder(p, s); got != order {
		t.Errorf("%s, %s: order %d, not %d", c.text, c.seen, got, order)
	}
	if got := whyTurns(p, s); got != c.turns {
		t.Errorf("%s, %s: turns %s, not %s", c.text, c.seen, got, c.turns)
	}
	if got := whyLate(p, s); got != c.lateTurns {
		t.Errorf("%s, %s: late turns %s, not %s", c.text, c.seen, got, c.lateTurns)
	}
}

// P57, P61, P62, P64: no threads, threads of no steps, and one step alone.
func TestWhyOfLittle(t *testing.T) {
	const none = "[] [[] [] []]"
	for _, p := range []impl.Prog{{}, prog(nil), prog(nil, nil), prog(nil, nil, nil)} {
		whyCase{fmt.Sprint(p), "/ 0 0 0", none, "same", "same", "", ""}.check(t, p)
		whyCase{fmt.Sprint(p), "/ 0 0 1", "no", "same", "same", "no", "no"}.check(t, p)
	}
	for _, c := range []whyCase{
		{"wall", "/ 0 0 0", "[-2] [[] [] []]", "same", "same", "0", "0"}, {"| wall |", "/ 0 0 0", "[-2] [[] [] []]", "same", "same", "1", "1"}, {"wait", "/ 0 0 0", "[-2 -2] [[] [] []]", "same", "same", "0 0", "0 0"}, {"|| wait", "/ 0 0 0", "[-2 -2] [[] [] []]", "same", "same", "2 2", "2 2"}, {"in, out", "/ 0 0 0", "[-2 -2] [[] [] []]", "same", "same", "0 0", "0 0"},
		{"load z", "0 / 0 0 0", "[-1] [[] [] []]", "same", "same", "0", "0"}, {"take z", "0 / 0 0 0", "[-1] [[] [] []]", "same", "same", "0", "0"}, {"load z", "1 / 0 0 0", "no", "same", "same", "no", "no"}, {"load z", "0 / 0 0 1", "no", "same", "same", "no", "no"},
		{"store z 3", "/ 0 0 3", "[-2] [[] [] [0]]", "same", "same", "0", "0 3"}, {"| store z 3", "/ 0 0 3", "[-2] [[] [] [0]]", "same", "same", "1", "1 4"}, {"|| give y 2", "/ 0 2 0", "[-2] [[] [0] []]", "same", "same", "2", "2 5"}, {"store z 3", "/ 0 0 0", "no", "same", "same", "no", "no"}, {"store z 3", "/ 0 0 2", "no", "same", "same", "no", "no"},
		{"wall | wall | wall", "/ 0 0 0", "[-2 -2 -2] [[] [] []]", "same", "same", "0 1 2", "0 1 2"}, {"store x 1 | store x 1 | store x 1", "/ 1 0 0", "[-2 -2 -2] [[0 1 2] [] []]", "same", "same", "0 1 2", "0 1 2 3 4 5"}, {"store x 1 | store x 2 | store x 3", "/ 1 0 0", "[-2 -2 -2] [[1 2 0] [] []]", "same", "same", "1 2 0", "0 1 2 4 5 3"},
	} {
		c.check(t, read(t, c.text))
	}
}

const (
	crossProg = "store x 1, load y | store y 1, load x"
	passProg  = "store x 1, store y 1 | load y, load x"
	waitProg  = "in, load y, load x, out | store x 1, wait, store y 1"
)

// P57 to P59, P61, P62, P64: what is told by hand: of several the first; by the loose order alone, by the late one and the loose one, by all three, and by none.
func TestWhyAsTold(t *testing.T) {
	for _, c := range []whyCase{
		{crossProg, "0 0 / 1 1 0", "no", "[-2 -1 -2 -1] [[0] [2] []]", "same", "no", "0 0 1 1 3 4"}, {crossProg, "0 1 / 1 1 0", "[-2 -1 -2 0] [[0] [2] []]", "same", "same", "0 0 1 1", "0 0 1 3 1 4"}, {crossProg, "1 0 / 1 1 0", "[-2 2 -2 -1] [[0] [2] []]", "same", "same", "1 1 0 0", "0 1 1 3 4 0"}, {crossProg, "1 1 / 1 1 0", "[-2 2 -2 0] [[0] [2] []]", "same", "same", "0 1 0 1", "0 1 3 1 4 0"},
		{crossProg, "2 1 / 1 1 0", "no", "same", "same", "no", "no"}, {crossProg, "1 1 / 1 0 0", "no", "same", "same", "no", "no"}, {crossProg, "1 1 / 1 1 1", "no", "same", "same", "no", "no"},
		{passProg, "1 0 / 1 1 0", "no", "same", "[-2 -2 1 -1] [[0] [1] []]", "no", "no"}, {passProg, "0 0 / 1 1 0", "[-2 -2 -1 -1] [[0] [1] []]", "same", "same", "1 1 0 0", "0 0 1 1 3 3"}, {passProg, "0 1 / 1 1 0", "[-2 -2 -1 0] [[0] [1] []]", "same", "same", "0 1 0 1", "0 0 1 3 1 3"}, {passProg, "1 1 / 1 1 0", "[-2 -2 1 0] [[0] [1] []]", "same", "same", "0 0 1 1", "0 0 3 3 1 1"},
		{"store x 1, give y 1 | take y, load x", "1 0 / 1 1 0", "no", "same", "same", "no", "no"}, {"store x 1, give y 1 | load y, load x", "1 0 / 1 1 0", "no", "same", "[-2 -2 1 -1] [[0] [1] []]", "no", "no"}, {"load x, store y 1 | load y, store x 1", "1 1 / 1 1 0", "no", "same", "[3 -2 1 -2] [[3] [1] []]", "no", "no"},
		{"load x, copy y | load y, copy x", "0 0 / 0 0 0", "[-1 -2 -1 -2] [[3] [1] []]", "same", "same", "0 0 1 1", "0 0 1 1 3 4"}, {"load x, copy y | load y, copy x", "1 1 / 1 1 0", "no", "same", "same", "no", "no"}, {"load x, copy y | load y, store x 1", "1 1 / 1 1 0", "no", "same", "[3 -2 1 -2] [[3] [1] []]", "no", "no"},
		// several ways are seen the same, and the first holds; or the first is seen so, but does not hold, by any order or by some
		{"store x 1 | store x 1 | load x", "1 / 1 0 0", "[-2 -2 0] [[0 1] [] []]", "same", "same", "0 1 2", "0 1 3 2 4"}, {"store x 1 | store x 1 | load x", "0 / 1 0 0", "[-2 -2 -1] [[0 1] [] []]", "same", "same", "2 0 1", "0 1 2 3 4"},
		{"load x, store x 1 | store x 1", "1 / 1 0 0", "[2 -2 -2] [[2 1] [] []]", "same", "same", "1 0 0", "1 4 0 0 3"}, {"load x, store x 1 | store x 1", "0 / 1 0 0", "[-1 -2 -2] [[1 2] [] []]", "same", "same", "0 0 1", "0 0 1 3 4"},
		{passProg + " | store y 1", "1 0 / 1 1 0", "[-2 -2 4 -1 -2] [[0] [4 1] []]", "same", "[-2 -2 1 -1 -2] [[0] [1 4] []]", "2 1 1 0 0", "0 0 2 5 1 1 3 3"},
		{"store x 1, store x 2 | load x", "1 / 2 0 0", "[-2 -2 0] [[0 1] [] []]", "same", "same", "0 1 0", "0 0 3 1 3"}, {"store x 1, store x 2 | load x", "2 / 1 0 0", "no", "same", "same", "no", "no"}, {"store x 1, store x 2 | load x", "2 / 2 0 0", "[-2 -2 1] [[0 1] [] []]", "same", "same", "0 0 1", "0 0 3 3 1"},
		// what is written comes as late, and as early, as may be
		{"store x 1, load x, load y | store y 1, load y, load x", "1 0 1 0 / 1 1 0", "no", "[-2 0 -1 -2 3 -1] [[0] [3] []]", "same", "no", "0 0 0 1 1 1 3 4"}, {"store x 1, wall, load y", "0 / 1 0 0", "[-2 -2 -1] [[0] [] []]", "same", "same", "0 0 0", "0 3 0 0"}, {"store x 1, load x, in, out", "1 / 1 0 0", "[-2 0 -2 -2] [[0] [] []]", "same", "same", "0 0 0 0", "0 0 3 0 0"}, {"store x 1, store y 2, wait", "/ 1 2 0", "[-2 -2 -2 -2] [[0] [1] []]", "same", "same", "0 0 0 0", "0 0 3 3 0 0"}, {"store x 2, store y 1 | store y 2, store x 1", "/ 1 1 0", "[-2 -2 -2 -2] [[0 3] [2 1] []]", "same", "same", "0 1 0 1", "0 0 1 1 3 4 3 4"}, {"store x 2, store y 1 | store y 2, store x 1", "/ 2 2 0", "no", "same", "[-2 -2 -2 -2] [[3 0] [1 2] []]", "no", "no"},
	} {
		c.check(t, read(t, c.text))
	}
}

// P57 to P59, P61, P62, P64: who waits and readers, where some turns cannot be taken that would be told first.
func TestWhyOfWhoWaits(t *testing.T) {
	behind, ahead := "in, load x, out | wait, store x 1", "in, load x, out | store x 1, wait"
	for _, c := range []whyCase{
		{behind, "1 / 1 0 0", "[-2 5 -2 -2 -2 -2] [[5] [] []]", "same", "same", "1 0 1 1 0 0", "1 0 1 1 4 0 0"}, {behind, "0 / 1 0 0", "[-2 -1 -2 -2 -2 -2] [[5] [] []]", "same", "same", "0 0 0 1 1 1", "0 0 0 1 1 1 4"},
		{ahead, "1 / 1 0 0", "[-2 3 -2 -2 -2 -2] [[3] [] []]", "same", "same", "0 1 0 0 1 1", "0 1 4 0 0 1 1"}, {ahead, "0 / 1 0 0", "[-2 -1 -2 -2 -2 -2] [[3] [] []]", "same", "same", "0 0 0 1 1 1", "0 0 0 1 4 1 1"},
		{waitProg, "1 1 / 1 1 0", "[-2 7 4 -2 -2 -2 -2 -2] [[4] [7] []]", "same", "same", "1 1 0 1 1 0 0 0", "1 4 1 0 1 1 4 0 0 0"}, {waitProg, "0 1 / 1 1 0", "[-2 -1 4 -2 -2 -2 -2 -2] [[4] [7] []]", "same", "same", "0 0 1 0 0 1 1 1", "0 0 1 4 0 0 1 1 1 4"}, {waitProg, "1 0 / 1 1 0", "no", "same", "same", "no", "no"},
		{"in, load y, out, load x | store x 1, wait, store y 1", "1 0 / 1 1 0", "no", "same", "[-2 7 -2 -1 -2 -2 -2 -2] [[4] [7] []]", "no", "no"}, {barredProg, "1 1 / 1 1 0", "no", "same", "same", "no", "no"}, {barredProg, "0 1 / 1 1 0", "[-2 -2 -1 -2 1 -2 -2 -2] [[1] [7] []]", "same", "same", "0 0 0 0 1 1 1 1", "0 0 0 3 0 1 1 1 1 4"}, {barredProg, "1 0 / 1 1 0", "[-2 -2 7 -2 -1 -2 -2 -2] [[1] [7] []]", "same", "same", "1 1 0 0 1 1 0 0", "1 1 0 0 1 1 3 4 0 0"},
		{"in, out | wait", "/ 0 0 0", "[-2 -2 -2 -2] [[] [] []]", "same", "same", "0 0 1 1", "0 0 1 1"}, {"wait | in, out", "/ 0 0 0", "[-2 -2 -2 -2] [[] [] []]", "same", "same", "0 0 1 1", "0 0 1 1"}, {bothWaitProg, "/ 0 0 0", "[-2 -2 -2 -2 -2 -2 -2 -2] [[] [] []]", "same", "same", "0 0 0 0 1 1 1 1", "0 0 0 0 1 1 1 1"},
	} {
		c.check(t, read(t, c.text))
	}
}

// P59, P61, P63, P65: small programs, all that is ok to be seen of them, held against the second telling: all ways, and all turns.
func TestWhyOfAllThatIsSeen(t *testing.T) {
	r := rand.New(rand.NewPCG(61, 62))
	list := []impl.Prog{{}, prog(nil)}
	for _, text := range []string{
		crossProg, passProg, waitProg, passProg + " | store y 1", "load x, store x 1 | store x 1", "in, load x, out | wait, store x 1", "in, load y, out, load x | store x 1, wait, store y 1",
		"store x 1, load y | store y 2, load x", "give x 1, take y | give y 1, take x", "store x 1, load y | store y 1, wall, load x", "store x 1, load y | store x 2, store y 1", "load x, store y 1 | load y, store x 1", "load x, copy y | load y, store x 1", "store x 2, store y 1 | store y 2, store x 1", "store x 1, store y 1 | take y, load x", "store x 1, load y | store y 1, load x | store x 1",
	} {
		list = append(list, read(t, text))
	}
	for len(list) < 80 {
		for _, p := range []impl.Prog{smallProg(r, 5), crossingProg(r), withOneValue(crossingProg(r))} {
			if len(zeros(p).Reads) <= 2 && turnCount(p, true) <= 8 {
				list = append(list, p)
			}
		}
	}
	orderCounts := map[int]int{}
	for _, p := range list {
		var ways []map[string]string
		for _, kind := range orders() {
			ways = append(ways, plainWhys(p, kind))
		}
		turns, late := plainFirsts(p, false, false), plainFirsts(p, true, false)
		n := len(zeros(p).Reads)
		for _, row := range valueRows(n + 3) {
			s := impl.Seen{Reads: row[:n], Last: row[n:]}
			order := 1 + slices.IndexFunc(ways, func(list map[string]string) bool { return told(list, s) != "no" })
			if got := impl.WhyOrder(p, s); got != order {
				t.Fatalf("%v, %v: order %d, not %d", p, s, got, order)
			}
			orderCounts[order]++
			for i, want := range ways {
				if got := whyWay(p, s, i+1); got != told(want, s) {
					t.Fatalf("%v, %v, order %d: %s, not %s", p, s, i+1, got, told(want, s))
				}
			}
			if got := whyTurns(p, s); got != told(turns, s) {
				t.Fatalf("%v, %v: turns %s, not %s", p, s, got, told(turns, s))
			}
			if got := whyLate(p, s); got != told(late, s) {
				t.Fatalf("%v, %v: late turns %s, not %s", p, s, got, told(late, s))
			}
		}
	}
	if orderCounts[0] < 1000 || orderCounts[1] < 150 || orderCounts[2] < 5 || orderCounts[3] < 5 {
		t.Error(orderCounts)
	}
}

// valueRows is all rows of that many values.
func valueRows(n int) [][]int {
	list := rows(n, 0, 1, 2, 3)
	return list[len(list)-1<<(2*n):]
}

// withOneValue is a program that stores nothing but 1, so that many ways are seen the same.
func withOneValue(p impl.Prog) impl.Prog {
	q := copyProg(p)
	for _, steps := range q.Threads {
		for i := range steps {
			steps[i].Val = min(steps[i].Val, 1)
		}
	}
	return q
}

// whyPrograms is programs that are ok, of which there are not too many ways: those at the edges, some of each kind, and those of which many ways are seen the same.
var whyPrograms = sync.OnceValue(func() []impl.Prog {
	var list []impl.Prog
	for i, p := range orderPrograms() {
		if i < 200 || i%3 == 0 { // the first are those at the edges
			list = append(list, p)
		}
	}
	r := rand.New(rand.NewPCG(67, 68))
	for range 150 {
		list = append(list, withOneValue(crossingProg(r)), withOneValue(piecesProg(r)))
	}
	return slices.DeleteFunc(list, func(p impl.Prog) bool { return mostWays(p) > 200 })
})

// P57 to P59: of many programs, held against the second telling.
func TestWaysThatAreTold(t *testing.T) {
	counts := map[string]int{}
	for _, p := range whyPrograms() {
		seens := everSeen(p)
		var strict map[string]string
		for _, kind := range orders() {
			want := plainWhys(p, kind)
			for _, s := range seens {
				got := whyWay(p, s, kind)
				if got != told(want, s) {
					t.Fatalf("%v, %v, order %d: %s, not %s", p, s, kind, got, told(want, s))
				}
				counts[fmt.Sprint(kind, got != "no")]++
				if kind == impl.OrderLoose && got != "no" && told(strict, s) != "no" && told(strict, s) != got {
					counts["another one"]++
				}
			}
			if kind == impl.OrderStrict {
				strict = want
			}
		}
	}
	for _, name := range []string{"1 true", "1 false", "2 true", "2 false", "3 true", "3 false"} {
		if counts[name] < 500 {
			t.Error(counts)
		}
	}
	if counts["another one"] < 10 {
		t.Error(counts)
	}
}

// P57 to P60: the way that is told is one, holds, is seen so and has a line; none ahead of it holds and is seen so; and there is one just of what is among OrderAll.
func TestTheWayThatIsToldHolds(t *testing.T) {
	first, later := 0, 0
	for _, p := range whyPrograms() {
		ways := impl.ExecAll(p)
		texts := wayTexts(ways)
		seens := everSeen(p)
		for _, kind := range orders() {
			all := impl.OrderAll(p, kind)
			for _, s := range seens {
				x, ok := impl.WhyExec(p, s, kind)
				if ok != impl.SeenIn(all, s) {
					t.Fatalf("%v, %v, order %d: %v", p, s, kind, ok)
				}
				if !ok {
					continue
				}
				if got, ok := impl.ExecSeen(p, x); !ok || !sameSeen(got, s) || !impl.OrderHolds(p, x, kind) {
					t.Fatalf("%v, %v, order %d: %s is seen as %v, %v", p, s, kind, wayText(x), got, ok)
				}
				if line, ok := impl.OrderLine(p, x, kind); !ok || len(line) != len(x.From) {
					t.Fatalf("%v, %v, order %d: %s has no line", p, s, kind, wayText(x))
				}
				at, same := slices.Index(texts, wayText(x)), 0
				for _, y := range ways[:at] {
					if got, _ := impl.ExecSeen(p, y); sameSeen(got, s) {
						same++
						if impl.OrderHolds(p, y, kind) {
							t.Fatalf("%v, %v, order %d: %s is ahead of %s", p, s, kind, wayText(y), wayText(x))
						}
					}
				}
				if same > 0 {
					later++
				} else {
					first++
				}
			}
		}
	}
	if first < 1000 || later < 200 {
		t.Error(first, later)
	}
}

// P61: from the order that is told on all allow it, and ahead of it none.
func TestOrderThatIsTold(t *testing.T) {
	counts := map[int]int{}
	for _, p := range whyPrograms() {
		var all [][]impl.Seen
		for _, kind := range orders() {
			all = append(all, impl.OrderAll(p, kind))
		}
		for _, s := range everSeen(p) {
			got := impl.WhyOrder(p, s)
			if got < 0 || got > 3 {
				t.Fatalf("%v, %v: order %d", p, s, got)
			}
			for i, list := range all {
				if want := got != 0 && i+1 >= got; impl.SeenIn(list, s) != want {
					t.Fatalf("%v, %v: order %d, but by %d: %v", p, s, got, i+1, !want)
				}
			}
			counts[got]++
		}
	}
	for got := range 4 {
		if counts[got] < 30 {
			t.Error(counts)
		}
	}
}

// turnCount is how many turns a machine takes, whatever the turns: of each event one, late of each write one more.
func turnCount(p impl.Prog, late bool) int {
	n := 0
	for _, e := range plainEvents(p) {
		n++
		if late && isWrite(e.do) {
			n++
		}
	}
	return n
}

// P62 to P66: the turns that are told lead there, just as many as the program takes; there are some just to what the machine comes to; where there are strict ones there are late ones, just if the strict order is told.
func TestTurnsThatAreTold(t *testing.T) {
	kinds, ends := map[int]int{}, map[string]int{}
	for _, p := range whyPrograms() {
		list := everSeen(p)
		for _, m := range machines() {
			all := m.all(p)
			for _, s := range append(list, all...) {
				turns, ok := m.why(p, s)
				if ok != impl.SeenIn(all, s) || !ok && len(turns) != 0 {
					t.Fatalf("%v, %v, %s: %v, %v", p, s, m.name, turns, ok)
				}
				order := impl.WhyOrder(p, s)
				if want := order == impl.OrderStrict || m.late && order == impl.OrderLate; ok != want {
					t.Fatalf("%v, %v, %s: %v, and order %d", p, s, m.name, turns, order)
				}
				ends[fmt.Sprint(m.name, ok)]++
				if !ok {
					continue
				}
				if got, ok := m.some(p, turns); !ok || !sameSeen(got, s) || len(turns) != turnCount(p, m.late) {
					t.Fatalf("%v, %v, %s: %v lead to %v, %v", p, s, m.name, turns, got, ok)
				}
				if got, ok := plainRun(p, turns, m.late); !ok || !sameSeen(got, s) {
					t.Fatalf("%v, %v, %s: %v lead to %v, %v by the second telling", p, s, m.name, turns, got, ok)
				}
				for _, e := range plainEvents(p) {
					kinds[e.do.Kind]++
				}
			}
		}
	}
	for kind := impl.DoStore; kind <= impl.DoWait; kind++ {
		if kinds[kind] < 300 {
			t.Error(kinds)
		}
	}
	for _, name := range []string{"stricttrue", "strictfalse", "latetrue", "latefalse"} {
		if ends[name] < 500 {
			t.Error(ends)
		}
	}
}

// P62, P64: larger programs: the turns are the first, held against the second telling.
func TestTurnsAreTheFirst(t *testing.T) {
	r := rand.New(rand.NewPCG(63, 64))
	var list []impl.Prog
	for range 40 {
		list = append(list, smallProg(r, 8), piecesProg(r), waitingProg(r), crossingProg(r))
	}
	for _, p := range append(list, limitProgs()...) {
		for _, m := range machines() {
			want := plainFirsts(p, m.late, true)
			for _, s := range append(m.all(p), zeros(p)) {
				if got := rowText(m.why(p, s)); got != told(want, s) {
					t.Fatalf("%v, %v, %s: %s, not %s", p, s, m.name, got, told(want, s))
				}
			}
		}
	}
}

// P62, P64: no turns that lead to the same, lazy or not, stand ahead of those that are told, and all are as many.
func TestNoTurnsStandAhead(t *testing.T) {
	r := rand.New(rand.NewPCG(65, 66))
	same := 0
	for i, p := range machPrograms() {
		if i%4 != 0 && i < 900 {
			continue
		}
		for _, m := range machines() {
			for lazy := range 4 {
				turns := randomTurns(r, p, m.late, lazy)
				s, ok := m.some(p, turns)
				if !ok {
					t.Fatalf("%v, %s: %v lead nowhere", p, m.name, turns)
				}
				got, ok := m.why(p, s)
				if !ok || slices.Compare(got, turns) > 0 || len(got) != len(turns) {
					t.Fatalf("%v, %v, %s: %v, %v, but %v lead there too", p, s, m.name, got, ok, turns)
				}
				if !slices.Equal(got, turns) {
					same++
				}
			}
		}
	}
	if same < 1000 {
		t.Error(same)
	}
}

// P62 to P65: all rows of turns of a few programs, of any number, one behind the other, with those that cannot be taken.
func TestFirstOfAllRowsOfTurns(t *testing.T) {
	list := rows(5, 0, 1, 2, 3, 4, 5)
	slices.SortFunc(list, slices.Compare[[]int])
	for _, text := range []string{"", "|", "wall", "wait", "in, out | wait", "wait, wait", "store x 1 | load x", "store x 1, load x", "store x 1, store x 2", "load y, copy z", "||load x", "store x 1 | store x 2", "load x | store x 1 | load x", "store x 2 | load x, load x", "store y 1, load y | load y"} {
		p := read(t, text)
		for _, m := range machines() {
			want := map[string]string{}
			for _, turns := range list {
				if s, ok := m.some(p, turns); ok && told(want, s) == "no" {
					want[plainSeenText(s)] = rowText(turns, true)
				}
			}
			if len(want) == 0 {
				t.Errorf("%s, %s: nothing is seen", text, m.name)
			}
			for _, s := range everSeen(p) {
				if got := rowText(m.why(p, s)); got != told(want, s) {
					t.Errorf("%s, %v, %s: %s, not %s", text, s, m.name, got, told(want, s))
				}
			}
		}
	}
}

// P67: a strict line of the way that is told has turns that lead there, as many.
func TestTurnsOfALineOfTheWay(t *testing.T) {
	lines := 0
	for _, p := range whyPrograms() {
		for _, s := range impl.OrderAll(p, impl.OrderStrict) {
			x, _ := impl.WhyExec(p, s, impl.OrderStrict)
			line, ok := impl.OrderLine(p, x, impl.OrderStrict)
			if !ok {
				t.Fatalf("%v, %v: %s has no line", p, s, wayText(x))
			}
			turns := turnsOf(p, line)
			if got, ok := impl.MachSome(p, turns); !ok || !sameSeen(got, s) {
				t.Fatalf("%v, %v: %v lead to %v, %v", p, s, turns, got, ok)
			}
			if got, ok := impl.WhyTurns(p, s); !ok || len(got) != len(turns) || slices.Compare(got, turns) > 0 {
				t.Fatalf("%v, %v: %v, %v, but a line has %v", p, s, got, ok, turns)
			}
			lines++
		}
	}
	if lines < 1000 {
		t.Error(lines)
	}
}

// P57 to P67: each limit of the table met exactly; one more is refused (TestWhyOfNoProgram).
func TestWhyAtTheLimits(t *testing.T) {
	for _, p := range limitProgs() {
		for _, kind := range orders() {
			want := plainWhys(p, kind)
			for _, s := range everSeen(p) {
				if got := whyWay(p, s, kind); got != told(want, s) {
					t.Errorf("%v, %v, order %d: %s, not %s", p, s, kind, got, told(want, s))
				}
			}
		}
	}
	none := seen(nil, 0, 0, 0)
	waits := prog(times(7, wait()), times(7, wait()))
	first := strings.TrimSpace(strings.Repeat("0 ", 14) + strings.Repeat("1 ", 14))
	if a, b := whyTurns(waits, none), whyLate(waits, none); a != first || b != first || impl.WhyOrder(waits, none) != 1 {
		t.Errorf("28 turns: %s, late %s", a, b)
	}
	whyCase{"28 late turns", "/ 1 2 0", "[" + strings.TrimSpace(strings.Repeat("-2 ", 22)) + "] [[0 1 2] [11 12 13] []]", "same", "same",
		"0 0 0 0 0 0 0 0 0 0 0 1 1 1 1 1 1 1 1 1 1 1", "0 0 0 1 1 1 3 3 3 0 0 0 0 0 0 0 0 4 4 4 1 1 1 1 1 1 1 1"}.check(t, prog(append(times(3, store(0, 1)), times(4, wait())...), append(times(3, store(1, 2)), times(4, wait())...)))
	greatest := prog(times(3, store(2, 3)), times(3, take(2)))
	whyCase{"the greatest value at the last place", "3 3 3 / 0 0 3", "[-2 -2 -2 0 0 0] [[] [] [0 1 2]]", "same", "same", "0 0 0 1 1 1", "0 0 0 3 1 1 1 3 3"}.check(t, greatest)
}

// wantNoWhy says that nothing is told of what was seen.
func wantNoWhy(t *testing.T, name string, p impl.Prog, s impl.Seen) {
	t.Helper()
	for _, kind := range append(orders(), 0, -1, 4) {
		if got := whyWay(p, s, kind); got != "no" {
			t.Errorf("%s: %v, %v, order %d: %s", name, p, s, kind, got)
		}
	}
	if order, turns, late := impl.WhyOrder(p, s), whyTurns(p, s), whyLate(p, s); order != 0 || turns != "no" || late != "no" {
		t.Errorf("%s: %v, %v: order %d, turns %s, late %s", name, p, s, order, turns, late)
	}
}

// P58, P63, P65: programs that are not ok, with what would be seen of them.
func TestWhyOfNoProgram(t *testing.T) {
	for name, p := range badPrograms() {
		for n := range 9 {
			for _, last := range [][]int{nil, nums(0, 0, 0), nums(1, 0, 0)} {
				wantNoWhy(t, name, p, impl.Seen{Reads: make([]int, n), Last: last})
			}
		}
		wantNoWhy(t, name, p, impl.Seen{})
		if len(p.Threads) == 1 && len(p.Threads[0]) < 100 && !has(p.Threads[0], impl.DoCopy, -1, 10) && name != "no place" && name != "place below 0" {
			wantNoWhy(t, name, p, alone(p.Threads[0]))
		}
	}
}

// P58, P61, P63, P65: what was seen that is not of the program: too few and too many, and values that are none.
func TestWhyOfWhatIsNotOk(t *testing.T) {
	texts := []string{"", "||", "wall", "load x", "store x 1", crossProg, passProg, waitProg, "load x, copy y", "take z | give z 3 | load z, copy z", "load x, load x, load x, load x, load x, load x"}
	for _, text := range texts {
		p := read(t, text)
		for _, good := range impl.OrderAll(p, impl.OrderLoose) {
			if impl.WhyOrder(p, good) == 0 {
				t.Fatalf("%s: nothing is told of %v", text, good)
			}
			reads, last := good.Reads, good.Last
			for n := range 8 {
				if n != len(reads) {
					wantNoWhy(t, text, p, seen(append(slices.Clone(reads), make([]int, 8)...)[:n], last...))
				}
				if n != len(last) {
					wantNoWhy(t, text, p, seen(reads, append(slices.Clone(last), make([]int, 8)...)[:n]...))
				}
			}
			wantNoWhy(t, text, p, seen(slices.Concat(reads, last)))
			wantNoWhy(t, text, p, impl.Seen{Last: slices.Concat(reads, last, nums(0, 0, 0, 0))})
			wantNoWhy(t, text, p, impl.Seen{})
			for _, v := range nums(-1, -2, 4, 5, 256, 257, 1<<32, 1<<32+1, math.MinInt, math.MaxInt) {
				for at := range len(reads) + len(last) {
					row := slices.Concat(reads, last)
					row[at] = v
					wantNoWhy(t, text, p, impl.Seen{Reads: row[:len(reads)], Last: row[len(reads):]})
				}
			}
		}
	}
}

// P58: by what is no order there is no way, even of what is seen by all.
func TestWhyByNoOrder(t *testing.T) {
	for _, text := range []string{"", "||", "wall", "wait", "load x", "store x 1, load x", crossProg, passProg, waitProg, "load x, copy y | take y, give x 1"} {
		p := read(t, text)
		for _, s := range append(impl.OrderAll(p, impl.OrderLoose), impl.Seen{}) {
			for _, kind := range noOrders() {
				if got := whyWay(p, s, kind); got != "no" {
					t.Errorf("%s, %v, order %d: %s", text, s, kind, got)
				}
			}
		}
	}
	for _, p := range badPrograms() {
		for _, kind := range noOrders() {
			if got := whyWay(p, zeros(p), kind); got != "no" {
				t.Errorf("%v, order %d: %s", p, kind, got)
			}
		}
	}
}

// What is said once: the empty list and the nil list are the same.
func TestWhyTakesEmptyForNil(t *testing.T) {
	empty := make([]int, 0, 4)
	for _, p := range []impl.Prog{{}, {Threads: [][]impl.Do{}}, prog(nil), prog(thread(), nil), prog(nil, make([]impl.Do, 0, 3), thread())} {
		for _, reads := range [][]int{nil, {}, empty} {
			whyCase{fmt.Sprintf("%#v", p), "/ 0 0 0", "[] [[] [] []]", "same", "same", "", ""}.check(t, p)
			s := impl.Seen{Reads: reads, Last: nums(0, 0, 0)}
			if order, turns, late := impl.WhyOrder(p, s), whyTurns(p, s), whyLate(p, s); order != 1 || turns != "" || late != "" || whyWay(p, s, 3) != "[] [[] [] []]" {
				t.Errorf("%#v, %#v: order %d, turns %s, late %s", p, s, order, turns, late)
			}
			for _, last := range [][]int{nil, {}, empty} {
				wantNoWhy(t, "no places", p, impl.Seen{Reads: reads, Last: last})
			}
		}
	}
	a, b := prog(nil, thread(store(1, 1), store(1, 2)), nil), prog(thread(), thread(store(1, 1), store(1, 2)), make([]impl.Do, 0, 3))
	for _, p := range []impl.Prog{a, b} {
		for _, reads := range [][]int{nil, {}, empty} {
			s := impl.Seen{Reads: reads, Last: nums(0, 2, 0)}
			if order, turns, late := impl.WhyOrder(p, s), whyTurns(p, s), whyLate(p, s); order != 1 || turns != "1 1" || late != "1 1 4 4" || whyWay(p, s, 1) != "[-2 -2] [[] [0 1] []]" {
				t.Errorf("%#v, %#v: order %d, turns %s, late %s", p, s, order, turns, late)
			}
		}
	}
}

// What is said once: nothing is written into an argument or behind its end.
func TestWhyArgumentsStay(t *testing.T) {
	check := func(p impl.Prog, list []impl.Seen) {
		q := wideProg(p)
		for _, s := range list {
			o := impl.Seen{Reads: wide(s.Reads), Last: wide(s.Last)}
			for _, kind := range append(orders(), 0) {
				impl.WhyExec(q, o, kind)
			}
			impl.WhyOrder(q, o)
			impl.WhyTurns(q, o)
			impl.WhyLate(q, o)
			if !sameSeen(s, o) || !wideOk(o.Reads) || !wideOk(o.Last) {
				t.Fatalf("%v: %v became %v", p, s, o)
			}
		}
		if !sameProg(p, q) || !wideProgOk(q) {
			t.Fatalf("%v became %v", p, q)
		}
	}
	for i, p := range whyPrograms() {
		if i%3 == 0 {
			list := impl.MachLate(p)
			check(p, append(list[:min(3, len(list))], zeros(p), impl.Seen{}, seen(nums(4), 4)))
		}
	}
	for _, p := range badPrograms() {
		check(p, []impl.Seen{{}, zeros(p)})
	}
}

// What is said once: an answer shares no memory with an argument or with another answer, and no two lists of one answer share any; nothing is kept.
func TestWhyAnswersShareNothing(t *testing.T) {
	for i, p := range whyPrograms() {
		if i%3 != 0 {
			continue
		}
		arg := copyProg(p)
		list := impl.MachLate(p)
		for _, s := range list[:min(2, len(list))] {
			o := copySeens([]impl.Seen{s})[0]
			shareNoWay(t, arg, o)
			shareNoTurns(t, arg, o)
			if !sameProg(arg, p) || !sameSeen(o, s) {
				t.Fatalf("%v, %v: an answer shares memory with an argument", p, s)
			}
		}
	}
}

func shareNoWay(t *testing.T, p impl.Prog, s impl.Seen) {
	t.Helper()
	for _, kind := range orders() {
		want := whyWay(p, s, kind)
		got, ok := impl.WhyExec(p, s, kind)
		again, _ := impl.WhyExec(p, s, kind)
		if !ok {
			continue
		}
		if !scribbleLists(wayLists([]impl.Exec{got})) || !scribbleOrders([]impl.Exec{got}) {
			t.Fatalf("%v, %v, order %d: lists of an answer share memory", p, s, kind)
		}
		if wayText(again) != want || whyWay(p, s, kind) != want {
			t.Fatalf("%v, %v, order %d: answers share memory, or something is kept", p, s, kind)
		}
	}
}

func shareNoTurns(t *testing.T, p impl.Prog, s impl.Seen) {
	t.Helper()
	for _, m := range machines() {
		want := rowText(m.why(p, s))
		got, ok := m.why(p, s)
		again, _ := m.why(p, s)
		fillSeen(again[len(again):], 5)
		fillSeen(got, -9)
		spare := again[len(again):cap(again)]
		if slices.Contains(spare, -9) || rowText(again, ok) != want || rowText(m.why(p, s)) != want {
			t.Fatalf("%v, %v, %s: answers share memory, or something is kept", p, s, m.name)
		}
	}
}

// P58, P61, P63, P65: what is seen of one program is told of it alone, and of several in any order.
func TestWhyKeepsNothing(t *testing.T) {
	cases := map[string][]impl.Prog{"0 0 / 1 1 0": {read(t, crossProg), read(t, passProg), read(t, waitProg)}, "1 1 / 1 1 0": {read(t, crossProg), read(t, passProg), read(t, "load x, store y 1 | load y, store x 1")}}
	var first map[string]string
	for range 3 {
		texts := map[string]string{}
		for text, list := range cases { // in no order
			for _, p := range list {
				s := seenOf(t, text)
				texts[text+plainText(p)] = fmt.Sprint(impl.WhyOrder(p, s), whyWay(p, s, 3), whyTurns(p, s), whyLate(p, s))
			}
		}
		if first == nil {
			first = texts
		}
		if !maps.Equal(first, texts) {
			t.Fatalf("%v, then %v", first, texts)
		}
	}
}
