package tests

import (
	"fmt"
	"math"
	"math/rand/v2"
	"slices"
	"strings"
	"testing"

	"loop.example/fathomline/impl"
)

// below is all numbers below that, in order.
func below(n int) []int {
	list := make([]int, n)
	for i := range list {
		list[i] = i
	}
	return list
}

func rowsOf(n int) [][]int { return allRows(below(n)) }

// valRows is all rows of values that leave 0 where it is.
func valRows() [][]int {
	var list [][]int
	for _, row := range rowsOf(impl.ProgVals) {
		vals := nums(0)
		for _, n := range row {
			vals = append(vals, n+1)
		}
		list = append(list, vals)
	}
	return list
}

// backRow is the row that turns back.
func backRow(row []int) []int {
	back := make([]int, len(row))
	for i, n := range row {
		back[n] = i
	}
	return back
}

// progText is the text of what is told, in another way than the program's; beside a true there must be what is ok, beside a false nothing.
func progText(p impl.Prog, ok bool) string {
	switch {
	case ok && !plainOk(p):
		return fmt.Sprint("true, but ", p)
	case ok:
		return plainText(p)
	case len(p.Threads) > 0:
		return fmt.Sprint("false, but ", p)
	}
	return "no"
}

func seenText(s impl.Seen, ok bool) string {
	switch {
	case ok:
		return plainSeenText(s)
	case len(s.Reads) > 0 || len(s.Last) > 0:
		return fmt.Sprint("false, but ", s)
	}
	return "no"
}

// The four tellings below turn the text of a program, and not its steps.
func textOfThreads(p impl.Prog, row []int) string {
	parts := strings.Split(plainText(p), "thread\n")[1:]
	text := ""
	for _, n := range row {
		text += "thread\n" + parts[n]
	}
	return text
}

func textOfPlaces(p impl.Prog, row []int) string {
	var pairs []string
	for i, n := range row {
		pairs = append(pairs, " "+"xyz"[i:i+1], " "+"xyz"[n:n+1])
	}
	return strings.NewReplacer(pairs...).Replace(plainText(p))
}

func textOfVals(p impl.Prog, row []int) string {
	var pairs []string
	for i, n := range row {
		pairs = append(pairs, fmt.Sprint(" ", i, "\n"), fmt.Sprint(" ", n, "\n"))
	}
	return strings.NewReplacer(pairs...).Replace(plainText(p))
}

func textOfPlain(p impl.Prog) string {
	return strings.NewReplacer("take", "load", "give", "store").Replace(plainText(p))
}

// plainTurnSeen asks each read which thread it is of.
func plainTurnSeen(p impl.Prog, s impl.Seen, row []int) impl.Seen {
	var reads []plainEvent
	for _, e := range plainEvents(p) {
		if isRead(e.do) {
			reads = append(reads, e)
		}
	}
	turned := impl.Seen{Last: slices.Clone(s.Last)}
	for _, n := range row {
		for i, e := range reads {
			if e.Thread == n {
				turned.Reads = append(turned.Reads, s.Reads[i])
			}
		}
	}
	return turned
}

// turnPrograms is programs that are ok: those at the edges, and one in so many of all kinds.
func turnPrograms(oneIn int) []impl.Prog {
	var list []impl.Prog
	for i, p := range orderPrograms() {
		if i < 200 || i%oneIn == 0 { // the first are those at the edges
			list = append(list, p)
		}
	}
	return append(list, limitProgs()...)
}

// seenBy is all that is seen, by an order or by a machine.
type seenBy struct {
	name string
	all  func(impl.Prog) []impl.Seen
}

func allSeenBy() []seenBy {
	list := []seenBy{{"strict machine", impl.MachStrict}, {"late machine", impl.MachLate}}
	for _, kind := range orders() {
		list = append(list, seenBy{fmt.Sprint("order ", kind), func(p impl.Prog) []impl.Seen { return impl.OrderAll(p, kind) }})
	}
	return list
}

// someSeenOf is some that may have been seen of a program, of whatever order, with a different number at each read as far as there are as many.
func someSeenOf(p impl.Prog) []impl.Seen {
	s := zeros(p)
	list := copySeens([]impl.Seen{s})
	for from := range 4 {
		for i := range s.Reads {
			s.Reads[i] = (i + from) % 4
		}
		for i := range s.Last {
			s.Last[i] = (i*from + 1) % 4
		}
		list = append(list, copySeens([]impl.Seen{s})...)
	}
	return list
}

const threeProg = "store x 1, take y | load x, load z, wall | give y 2"

// P80, P84, P87: threads, told by hand, in each of their six rows.
func TestThreadsTurnedAsTold(t *testing.T) {
	for _, c := range []struct {
		text string
		row  []int
		want string
	}{
		{"", nums(0), ""}, {"wall", nums(0), "wall"}, {"load x, copy y", nums(0), "load x, copy y"}, {"|", nums(1, 0), "|"},
		{"store x 1 | load x", nums(0, 1), "store x 1 | load x"}, {"store x 1 | load x", nums(1, 0), "load x | store x 1"}, {"| load x", nums(1, 0), "load x |"}, {"| wait |", nums(1, 2, 0), "wait ||"}, {"| wait |", nums(2, 0, 1), "|| wait"},
		{threeProg, nums(0, 1, 2), threeProg},
		{threeProg, nums(0, 2, 1), "store x 1, take y | give y 2 | load x, load z, wall"},
		{threeProg, nums(1, 0, 2), "load x, load z, wall | store x 1, take y | give y 2"},
		{threeProg, nums(1, 2, 0), "load x, load z, wall | give y 2 | store x 1, take y"},
		{threeProg, nums(2, 0, 1), "give y 2 | store x 1, take y | load x, load z, wall"},
		{threeProg, nums(2, 1, 0), "give y 2 | load x, load z, wall | store x 1, take y"},
		{"in, load y, load x, out | store x 1, wait, store y 1", nums(1, 0), "store x 1, wait, store y 1 | in, load y, load x, out"},
	} {
		if got, want := progText(impl.TurnThreads(read(t, c.text), c.row)), plainText(read(t, c.want)); got != want {
			t.Errorf("%s, %v: %q", c.text, c.row, got)
		}
	}
	for _, row := range [][]int{nil, {}} {
		if q, ok := impl.TurnThreads(impl.Prog{}, row); !ok || len(q.Threads) != 0 {
			t.Errorf("no threads, %#v: %v, %v", row, q, ok)
		}
	}
}

// P81, P84, P87: what was seen, told by hand: of no reads, of reads in some threads alone, and of all.
func TestSeenTurnedAsTold(t *testing.T) {
	for _, c := range []struct {
		text, seen string
		row        []int
		want       string
	}{
		{"", "/ 0 0 0", nums(0), "/ 0 0 0"}, {"store x 1 | wall | wait", "/ 1 2 3", nums(2, 0, 1), "/ 1 2 3"}, {"load x, take y", "1 2 / 3 0 1", nums(0), "1 2 / 3 0 1"},
		{"load x | load y", "1 2 / 0 0 0", nums(0, 1), "1 2 / 0 0 0"}, {"load x | load y", "1 2 / 0 3 1", nums(1, 0), "2 1 / 0 3 1"}, {"load x, load y | load y", "1 2 3 / 0 3 1", nums(1, 0), "3 1 2 / 0 3 1"},
		{threeProg, "2 1 0 / 1 2 0", nums(0, 1, 2), "2 1 0 / 1 2 0"}, {threeProg, "2 1 0 / 1 2 0", nums(0, 2, 1), "2 1 0 / 1 2 0"}, {threeProg, "2 1 0 / 1 2 0", nums(1, 0, 2), "1 0 2 / 1 2 0"},
		{threeProg, "2 1 0 / 1 2 0", nums(1, 2, 0), "1 0 2 / 1 2 0"}, {threeProg, "2 1 0 / 1 2 0", nums(2, 0, 1), "2 1 0 / 1 2 0"}, {threeProg, "2 1 0 / 1 2 0", nums(2, 1, 0), "1 0 2 / 1 2 0"},
		{"load x | take y, load y | load z, load z, load z", "0 1 2 3 1 0 / 3 2 1", nums(0, 1, 2), "0 1 2 3 1 0 / 3 2 1"}, {"load x, copy y, load y | store x 3, in, take x, out", "1 2 3 / 3 2 1", nums(1, 0), "3 1 2 / 3 2 1"},
		{"load x | take y, load y | load z, load z, load z", "0 1 2 3 1 0 / 3 2 1", nums(0, 2, 1), "0 3 1 0 1 2 / 3 2 1"}, {"load x | take y, load y | load z, load z, load z", "0 1 2 3 1 0 / 3 2 1", nums(1, 0, 2), "1 2 0 3 1 0 / 3 2 1"},
		{"load x | take y, load y | load z, load z, load z", "0 1 2 3 1 0 / 3 2 1", nums(1, 2, 0), "1 2 3 1 0 0 / 3 2 1"}, {"load x | take y, load y | load z, load z, load z", "0 1 2 3 1 0 / 3 2 1", nums(2, 0, 1), "3 1 0 0 1 2 / 3 2 1"},
		{"load x | take y, load y | load z, load z, load z", "0 1 2 3 1 0 / 3 2 1", nums(2, 1, 0), "3 1 0 1 2 0 / 3 2 1"},
		{"| load x, load y |", "3 1 / 0 0 0", nums(2, 1, 0), "3 1 / 0 0 0"}, {"load x, load y | wall | take z", "3 1 2 / 0 0 0", nums(1, 2, 0), "2 3 1 / 0 0 0"},
	} {
		p := read(t, c.text)
		if got := seenText(impl.TurnSeen(p, seenOf(t, c.seen), c.row)); got != c.want {
			t.Errorf("%s, %s, %v: %s", c.text, c.seen, c.row, got)
		}
	}
	for _, row := range [][]int{nil, {}} {
		if got := seenText(impl.TurnSeen(impl.Prog{}, seen(nil, 3, 1, 2), row)); got != "/ 3 1 2" {
			t.Errorf("no threads: %s", got)
		}
	}
}

// P82, P84, P87: places in each of their six rows, told by hand; of steps that neither read nor write nothing is turned.
func TestPlacesTurnedAsTold(t *testing.T) {
	const all = "store x 1, load y, copy z, wall | in, take x, out, wait | give y 2"
	for _, c := range []struct {
		text string
		row  []int
		want string
	}{
		{"", nums(2, 1, 0), ""}, {"wall, wait, in, out", nums(1, 2, 0), "wall, wait, in, out"}, {"load x", nums(1, 2, 0), "load y"}, {"load x", nums(2, 0, 1), "load z"}, {"load z", nums(1, 2, 0), "load x"},
		{all, nums(0, 1, 2), all},
		{all, nums(0, 2, 1), "store x 1, load z, copy y, wall | in, take x, out, wait | give z 2"},
		{all, nums(1, 0, 2), "store y 1, load x, copy z, wall | in, take y, out, wait | give x 2"},
		{all, nums(1, 2, 0), "store y 1, load z, copy x, wall | in, take y, out, wait | give z 2"},
		{all, nums(2, 0, 1), "store z 1, load x, copy y, wall | in, take z, out, wait | give x 2"},
		{all, nums(2, 1, 0), "store z 1, load y, copy x, wall | in, take z, out, wait | give y 2"},
	} {
		if got, want := progText(impl.TurnPlaces(read(t, c.text), c.row)), plainText(read(t, c.want)); got != want {
			t.Errorf("%s, %v: %q", c.text, c.row, got)
		}
	}
	for _, row := range rowsOf(3) {
		if q, ok := impl.TurnPlaces(impl.Prog{}, row); !ok || len(q.Threads) != 0 {
			t.Errorf("no threads, %v: %v, %v", row, q, ok)
		}
	}
}

// P84, P85, P87: values in each of their rows with 0 at 0, told by hand; what is read and copied has none of its own.
func TestValuesTurnedAsTold(t *testing.T) {
	const all = "store x 1, load y, copy z, wall | in, give x 2, out, wait | take y, store z 3"
	for _, c := range []struct {
		text string
		row  []int
		want string
	}{
		{"", nums(0, 3, 2, 1), ""}, {"wall, wait, in, out", nums(0, 2, 3, 1), "wall, wait, in, out"}, {"load x, copy y, take z", nums(0, 3, 1, 2), "load x, copy y, take z"}, {"store x 1", nums(0, 3, 1, 2), "store x 3"}, {"give x 3", nums(0, 3, 1, 2), "give x 2"},
		{all, nums(0, 1, 2, 3), all},
		{all, nums(0, 1, 3, 2), "store x 1, load y, copy z, wall | in, give x 3, out, wait | take y, store z 2"},
		{all, nums(0, 2, 1, 3), "store x 2, load y, copy z, wall | in, give x 1, out, wait | take y, store z 3"},
		{all, nums(0, 2, 3, 1), "store x 2, load y, copy z, wall | in, give x 3, out, wait | take y, store z 1"},
		{all, nums(0, 3, 1, 2), "store x 3, load y, copy z, wall | in, give x 1, out, wait | take y, store z 2"},
		{all, nums(0, 3, 2, 1), "store x 3, load y, copy z, wall | in, give x 2, out, wait | take y, store z 1"},
	} {
		if got, want := progText(impl.TurnVals(read(t, c.text), c.row)), plainText(read(t, c.want)); got != want {
			t.Errorf("%s, %v: %q", c.text, c.row, got)
		}
	}
	for _, row := range valRows() {
		if q, ok := impl.TurnVals(impl.Prog{}, row); !ok || len(q.Threads) != 0 {
			t.Errorf("no threads, %v: %v, %v", row, q, ok)
		}
	}
}

// P83, P84: plain programs, told by hand.
func TestPlainAsTold(t *testing.T) {
	for text, want := range map[string]string{
		"": "", "||": "||", "wall, wait, in, out": "wall, wait, in, out", "take x": "load x", "give y 3": "store y 3", "load x, copy y, store z 2": "load x, copy y, store z 2",
		threeProg: "store x 1, load y | load x, load z, wall | store y 2", "in, take z, out, copy y, give x 1 | wait, give z 2": "in, load z, out, copy y, store x 1 | wait, store z 2",
	} {
		if got := progText(impl.TurnPlain(read(t, text)), true); got != plainText(read(t, want)) {
			t.Errorf("%s: %q", text, got)
		}
	}
	if q := impl.TurnPlain(impl.Prog{}); len(q.Threads) != 0 {
		t.Error("no threads:", q)
	}
}

// P84, P86: side by side, told by hand: one of no threads, threads of no steps, readers that are in and one who waits.
func TestBesideAsTold(t *testing.T) {
	for _, c := range []struct{ first, second, want string }{
		{"load x", "load x", "load x | load x"}, {"store x 1", "load x, copy y", "store x 1 | load x, copy y"}, {"load x, copy y", "store x 1", "load x, copy y | store x 1"}, {"", "", "|"}, {"|", "", "||"}, {"", "wall", "| wall"}, {"wall", "", "wall |"},
		{"in, take x, out", "wait, give y 2", "in, take x, out | wait, give y 2"}, {"wait", "in, out | in, load z, out", "wait | in, out | in, load z, out"}, {"store x 1 | store x 2", "store x 3", "store x 1 | store x 2 | store x 3"}, {"store x 1", "store x 2 | store x 3", "store x 1 | store x 2 | store x 3"},
		{"wall | wall", "wall | wall", "no"}, {"||", "", "no"}, {"", "||", "no"}, {"||", "||", "no"},
	} {
		want := c.want
		if want != "no" {
			want = plainText(read(t, want))
		}
		if got := progText(impl.TurnBeside(read(t, c.first), read(t, c.second))); got != want {
			t.Errorf("%s, beside %s: %q", c.first, c.second, got)
		}
	}
	for _, p := range somePrograms() {
		for _, none := range []impl.Prog{{}, {Threads: [][]impl.Do{}}} {
			if a, b := progText(impl.TurnBeside(p, none)), progText(impl.TurnBeside(none, p)); a != plainText(p) || b != plainText(p) {
				t.Fatalf("%v beside no threads: %q, %q", p, a, b)
			}
		}
	}
	if q, ok := impl.TurnBeside(impl.Prog{}, impl.Prog{}); !ok || len(q.Threads) != 0 {
		t.Error("no threads beside no threads:", q, ok)
	}
}

// P80 to P85, P87: of many programs all rows, held against the texts that are turned; all is ok, turns back, and stays with rows that turn nothing.
func TestTurnedAndTurnedBack(t *testing.T) {
	asked, other := 0, map[string]int{}
	same := func(name string, p, q impl.Prog, ok bool, text string, back impl.Prog, backOk bool, row []int) {
		t.Helper()
		if !ok || plainText(q) != text || !impl.ProgOk(q) || !plainOk(q) {
			t.Fatalf("%s of %v, %v: %v, %v, not %q", name, p, row, q, ok, text)
		}
		if !backOk || !sameProg(back, p) {
			t.Fatalf("%s of %v, %v, turned back: %v, %v", name, p, row, back, backOk)
		}
		if slices.IsSorted(row) && !sameProg(q, p) {
			t.Fatalf("%s of %v does not stay: %v", name, p, q)
		}
		asked++
		if !sameProg(q, p) {
			other[name]++
		}
	}
	for _, p := range append(somePrograms(), limitProgs()...) {
		for _, row := range rowsOf(len(p.Threads)) {
			q, ok := impl.TurnThreads(p, row)
			back, backOk := impl.TurnThreads(q, backRow(row))
			same("threads", p, q, ok, textOfThreads(p, row), back, backOk, row)
			for _, s := range someSeenOf(p) {
				turned, ok := impl.TurnSeen(p, s, row)
				if !ok || !sameSeen(turned, plainTurnSeen(p, s, row)) || !impl.SeenOk(q, turned) {
					t.Fatalf("%v of %v, %v: %v, %v", s, p, row, turned, ok)
				}
				if back, ok := impl.TurnSeen(q, turned, backRow(row)); !ok || !sameSeen(back, s) {
					t.Fatalf("%v of %v, %v, turned back: %v, %v", s, p, row, back, ok)
				}
				if slices.IsSorted(row) && !sameSeen(turned, s) {
					t.Fatalf("%v of %v does not stay: %v", s, p, turned)
				}
				if !sameSeen(turned, s) {
					other["seen"]++
				}
			}
		}
		for _, row := range rowsOf(impl.ProgPlaces) {
			q, ok := impl.TurnPlaces(p, row)
			back, backOk := impl.TurnPlaces(q, backRow(row))
			same("places", p, q, ok, textOfPlaces(p, row), back, backOk, row)
		}
		for _, row := range valRows() {
			q, ok := impl.TurnVals(p, row)
			back, backOk := impl.TurnVals(q, backRow(row))
			same("values", p, q, ok, textOfVals(p, row), back, backOk, row)
		}
	}
	if asked < 30000 || other["threads"] < 1000 || other["places"] < 1000 || other["values"] < 1000 || other["seen"] < 1000 {
		t.Error(asked, other)
	}
}

// P83, P84: of many programs, held against the texts that are made plain.
func TestPlainStays(t *testing.T) {
	other := 0
	for _, p := range append(somePrograms(), limitProgs()...) {
		q := impl.TurnPlain(p)
		if plainText(q) != textOfPlain(p) || !impl.ProgOk(q) || !plainOk(q) || impl.ProgReads(q) != impl.ProgReads(p) {
			t.Fatalf("%v: %v", p, q)
		}
		if again := impl.TurnPlain(q); !sameProg(again, q) {
			t.Fatalf("%v: %v, then %v", p, q, again)
		}
		if !sameProg(p, q) {
			other++
		}
	}
	if other < 1000 {
		t.Error(other)
	}
}

// P84, P86: of many pairs of programs; what is too much together is refused.
func TestBesideAreTheThreadsOfBoth(t *testing.T) {
	r := rand.New(rand.NewPCG(81, 82))
	list := somePrograms()
	counts := map[string]int{}
	for range 20000 {
		p, q := list[r.IntN(len(list))], list[r.IntN(len(list))]
		both := prog(slices.Concat(p.Threads, q.Threads)...)
		got, ok := impl.TurnBeside(p, q)
		if ok != plainOk(both) || ok && !sameProg(got, both) || !ok && len(got.Threads) > 0 {
			t.Fatalf("%v, beside %v: %v, %v", p, q, got, ok)
		}
		if ok && (!impl.ProgOk(got) || impl.ProgReads(got) != impl.ProgReads(p)+impl.ProgReads(q)) {
			t.Fatalf("%v, beside %v: %d reads", p, q, impl.ProgReads(got))
		}
		counts[fmt.Sprint(ok, len(both.Threads) > 3)]++
	}
	if counts["true false"] < 1000 || counts["false true"] < 1000 || counts["false false"] < 1000 {
		t.Error(counts)
	}
}

// P86: together just as many threads, steps, and reads and writes as there may be, and one more.
func TestBesideUpToTheLimits(t *testing.T) {
	for _, c := range []struct {
		name   string
		p, q   impl.Prog
		wantOk bool
	}{
		{"three threads", prog(nil), prog(nil, nil), true}, {"three threads, the first has two", prog(nil, nil), prog(nil), true}, {"three and none", prog(nil, nil, nil), impl.Prog{}, true}, {"none and three", impl.Prog{}, prog(nil, nil, nil), true},
		{"four threads", prog(nil, nil), prog(nil, nil), false}, {"three and one", prog(nil, nil, nil), prog(nil), false}, {"one and three", prog(nil), prog(nil, nil, nil), false}, {"six", prog(nil, nil, nil), prog(nil, nil, nil), false},
		{"14 steps", prog(times(7, wall())), prog(times(7, wait())), true}, {"14 of three", prog(times(7, wall())), prog(times(6, wait()), times(1, wall())), true}, {"14 of 5, 5 and 4", prog(times(5, wall()), times(5, wait())), prog(times(4, wall())), true}, {"14 and none", prog(times(7, wall()), times(7, wait())), prog(nil), true},
		{"15 steps", prog(times(7, wall())), prog(times(7, wall()), times(1, wall())), false}, {"15 of 14 and 1", prog(times(7, wall()), times(7, wall())), prog(times(1, wall())), false}, {"15 of 1 and 14", prog(times(1, wall())), prog(times(7, wall()), times(7, wall())), false}, {"15 of 5, 5 and 5", prog(times(5, wait())), prog(times(5, wall()), times(5, wall())), false},
		{"six uses", prog(times(3, load(0))), prog(times(3, store(0, 1))), true}, {"six of 2, 2 and 2", prog(times(2, take(2))), prog(times(2, give(2, 3)), thread(load(1), copyTo(1))), true}, {"six and none", prog(times(6, load(0))), prog(times(7, wall())), true}, {"none and six", prog(times(7, wait())), prog(times(6, store(0, 1))), true}, {"six, and 14 steps", prog(append(times(3, load(0)), times(4, wall())...)), prog(append(times(3, give(0, 1)), times(4, wall())...)), true},
		{"seven uses", prog(times(4, load(0))), prog(times(3, store(0, 1))), false}, {"seven of 6 and 1", prog(times(6, load(0))), prog(times(1, take(0))), false}, {"seven of 1 and 6", prog(times(1, give(0, 1))), prog(times(6, load(0))), false}, {"seven of 2, 3 and 2", prog(times(2, load(0)), times(3, store(1, 1))), prog(thread(load(2), copyTo(2))), false}, {"twelve", prog(times(6, load(0))), prog(times(6, load(0))), false},
	} {
		want := "no"
		if c.wantOk {
			want = plainText(c.p) + plainText(c.q)
		}
		if got := progText(impl.TurnBeside(c.p, c.q)); got != want {
			t.Errorf("%s: %q", c.name, got)
		}
	}
}

// isRow tells in the document's words which lists are rows: all numbers below that, each once.
func isRow(row []int, n int) bool {
	return slices.Equal(slices.Sorted(slices.Values(row)), below(n))
}

// wantRow asks all four functions that take a row, of programs of each number of threads, and says how many took it.
func wantRow(t *testing.T, row []int) int {
	t.Helper()
	taken := 0
	check := func(name string, want bool, got, text string) {
		t.Helper()
		if !want {
			text = "no"
		} else {
			taken++
		}
		if got != text {
			t.Errorf("%s, %v: %q, not %q", name, row, got, text)
		}
	}
	full := prog(thread(store(0, 1), take(1)), thread(load(2), copyTo(0), wall()), thread(give(2, 3), load(0)))
	for n := range 4 {
		p := prog(full.Threads[:n]...)
		s := impl.Seen{Reads: below(n), Last: nums(3, 2, 1)}
		text, seenAs := "", ""
		if isRow(row, n) {
			text, seenAs = textOfThreads(p, row), plainSeenText(plainTurnSeen(p, s, row))
		}
		check(fmt.Sprint(n, " threads"), isRow(row, n), progText(impl.TurnThreads(p, row)), text)
		check(fmt.Sprint("seen of ", n), isRow(row, n), seenText(impl.TurnSeen(p, s, row)), seenAs)
		if isRow(row, 3) {
			text = textOfPlaces(p, row)
		}
		check(fmt.Sprint("places of ", n), isRow(row, 3), progText(impl.TurnPlaces(p, row)), text)
		vals := isRow(row, 4) && row[0] == 0
		if vals {
			text = textOfVals(p, row)
		}
		check(fmt.Sprint("values of ", n), vals, progText(impl.TurnVals(p, row)), text)
	}
	return taken
}

// P80 to P82, P85: of all lists of few numbers, and of such with numbers far off, just rows are taken: too short, too long, a number twice, below 0, past the last, values with another number than 0 at 0.
func TestRowsThatAreNone(t *testing.T) {
	taken := 0
	for _, row := range append(rows(5, -1, 0, 1, 2, 3, 4), nil, nums()) {
		taken += wantRow(t, row)
	}
	// Rows of 0, 1, 2 and 3 threads, of threads and of what was seen; of places and of values, of each of four programs. The empty row stands there three times.
	if want := 2*(3+1+2+6) + 4*6 + 4*6; taken != want {
		t.Errorf("%d are taken, not %d", taken, want)
	}
	for n := 1; n <= 4; n++ {
		for _, row := range rowsOf(n) {
			for at := range n {
				for _, far := range append(farNumbers(), 1<<32+1, 1<<32+2, 1<<16, 1<<16+1, 1<<8+1, 1<<8+2, math.MinInt+1, math.MinInt+2, math.MaxInt-1) {
					wrong := slices.Clone(row)
					wrong[at] = far
					wantRow(t, wrong)
					wantRow(t, slices.Insert(slices.Clone(row), at, far))
				}
			}
			wantRow(t, append(slices.Clone(row), row...))
			wantRow(t, append(slices.Clone(row), below(1000)...))
		}
	}
	wantRow(t, make([]int, 100000))
	wantRow(t, below(100000))
}

// P80 to P87: programs that are not ok are not turned, whatever the row.
func TestTurnsOfNoProgram(t *testing.T) {
	good := read(t, "load x")
	list := badPrograms()
	for name, p := range list {
		many := [][]int{nil, nums(0), nums(1, 0), nums(2, 0, 1), nums(0, 1, 2), nums(0, 1, 2, 3), below(len(p.Threads)), nums(-1), nums(0, 0)}
		for _, row := range many {
			for n := range 9 {
				for _, last := range [][]int{nil, nums(0, 0, 0)} {
					if got := seenText(impl.TurnSeen(p, impl.Seen{Reads: make([]int, n), Last: last}, row)); got != "no" {
						t.Errorf("%s, seen, %v: %s", name, row, got)
					}
				}
			}
			for of, got := range map[string]string{"threads": progText(impl.TurnThreads(p, row)), "places": progText(impl.TurnPlaces(p, row)), "values": progText(impl.TurnVals(p, row))} {
				if got != "no" {
					t.Errorf("%s, %s, %v: %s", name, of, row, got)
				}
			}
		}
		if q := impl.TurnPlain(p); len(q.Threads) != 0 {
			t.Errorf("%s, plain: %v", name, q)
		}
		for _, other := range []impl.Prog{good, {}, prog(nil)} {
			if a, b := progText(impl.TurnBeside(p, other)), progText(impl.TurnBeside(other, p)); a != "no" || b != "no" {
				t.Errorf("%s, beside %v: %s, %s", name, other, a, b)
			}
		}
		for second, q := range list {
			if got := progText(impl.TurnBeside(p, q)); got != "no" {
				t.Errorf("%s, beside %s: %s", name, second, got)
			}
		}
	}
}

// P81: what was seen that is not of the program: too few and too many, and values that are none.
func TestTurnsOfWhatWasNotSeen(t *testing.T) {
	for _, text := range []string{"", "||", "wall | wait", "load x", "store x 1 | load x", "load x, copy y | take y", threeProg, "take z | give z 3 | load z, copy z", "load x, load x, load x | load x, load x, load x"} {
		p := read(t, text)
		row := rowsOf(len(p.Threads))[0]
		check := func(s impl.Seen) {
			t.Helper()
			if got := seenText(impl.TurnSeen(p, s, row)); got != "no" {
				t.Errorf("%s, %v: %s", text, s, got)
			}
		}
		good := zeros(p)
		if got := seenText(impl.TurnSeen(p, good, row)); got != plainSeenText(good) {
			t.Errorf("%s, %v: %s", text, good, got)
		}
		check(impl.Seen{})
		for n := range 9 {
			if n != len(good.Reads) {
				check(impl.Seen{Reads: make([]int, n), Last: good.Last})
			}
			if n != len(good.Last) {
				check(impl.Seen{Reads: good.Reads, Last: make([]int, n)})
			}
		}
		for at := range len(good.Reads) + len(good.Last) {
			for _, v := range nums(-1, -2, 4, 5, 256, 257, 1<<32, 1<<32+1, math.MinInt, math.MaxInt) {
				list := make([]int, len(good.Reads)+len(good.Last))
				list[at] = v
				check(impl.Seen{Reads: list[:len(good.Reads)], Last: list[len(good.Reads):]})
			}
		}
	}
}

// turnedTurns is the same turns of the threads where they stand then.
func turnedTurns(turns, row []int) []int {
	var list []int
	for _, turn := range turns {
		list = append(list, backRow(row)[turn%3]+turn/3*3)
	}
	return list
}

// someRows is all rows at the edges, and one of the others that turns something, where there is one.
func someRows(r *rand.Rand, i int, list [][]int) [][]int {
	if i < 200 || len(list) == 1 {
		return list
	}
	return list[1+r.IntN(len(list)-1):][:1]
}

// P88: with threads turned what is seen is turned, by each order and by each machine, and by the turns of a machine.
func TestItDoesNotMatterHowThreadsStand(t *testing.T) {
	r := rand.New(rand.NewPCG(83, 84))
	other, kinds := 0, map[int]int{}
	for i, p := range turnPrograms(2) {
		for _, row := range someRows(r, i, rowsOf(len(p.Threads))) {
			q, ok := impl.TurnThreads(p, row)
			if !ok {
				t.Fatalf("%v, %v is refused", p, row)
			}
			for _, by := range allSeenBy() {
				var want []impl.Seen
				all := by.all(p)
				for _, s := range all {
					turned, ok := impl.TurnSeen(p, s, row)
					if !ok {
						t.Fatalf("%v of %v, %v is refused", s, p, row)
					}
					want = append(want, turned)
				}
				if got := by.all(q); !sameSeens(got, plainSort(want)) || len(got) != len(all) {
					t.Fatalf("%v, %v, %s: %s, not %s", p, row, by.name, seenTexts(got), seenTexts(plainSort(want)))
				}
				if !sameSeens(plainSort(want), all) {
					other++
					for _, d := range slices.Concat(p.Threads...) {
						kinds[d.Kind]++
					}
				}
			}
			for _, m := range machines() {
				turns := randomTurns(r, p, m.late, 1)
				s, _ := m.some(p, turns)
				want, _ := impl.TurnSeen(p, s, row)
				if got, ok := m.some(q, turnedTurns(turns, row)); !ok || !sameSeen(got, want) {
					t.Fatalf("%v, %v, %s, turns %v: %v, %v, not %v", p, row, m.name, turns, got, ok, want)
				}
			}
		}
	}
	for kind := impl.DoStore; kind <= impl.DoWait; kind++ {
		if kinds[kind] < 100 {
			t.Error(kinds)
		}
	}
	if other < 1000 {
		t.Error(other)
	}
}

// turnedLast is what is there at last when places have other names.
func turnedLast(list []impl.Seen, row []int) []impl.Seen {
	turned := copySeens(list)
	for i, s := range list {
		for place, v := range s.Last {
			turned[i].Last[row[place]] = v
		}
	}
	return plainSort(turned)
}

// turnedVals is what is seen when values have other names.
func turnedVals(list []impl.Seen, row []int) []impl.Seen {
	turned := copySeens(list)
	for _, s := range turned {
		for _, vals := range [][]int{s.Reads, s.Last} {
			for i, v := range vals {
				vals[i] = row[v]
			}
		}
	}
	return plainSort(turned)
}

// P89, P91: with places turned what is there at last is turned, and nothing else; with values turned all that is seen is; by each order and by each machine.
func TestItDoesNotMatterHowPlacesAndValuesAreNamed(t *testing.T) {
	r := rand.New(rand.NewPCG(85, 86))
	other := map[string]int{}
	for i, p := range turnPrograms(2) {
		before := map[string][]impl.Seen{}
		for _, by := range allSeenBy() {
			before[by.name] = by.all(p)
		}
		check := func(name string, q impl.Prog, ok bool, row []int, turn func([]impl.Seen, []int) []impl.Seen) {
			t.Helper()
			if !ok {
				t.Fatalf("%v, %s %v is refused", p, name, row)
			}
			for _, by := range allSeenBy() {
				want := turn(before[by.name], row)
				if got := by.all(q); !sameSeens(got, want) {
					t.Fatalf("%v, %s %v, %s: %s, not %s", p, name, row, by.name, seenTexts(got), seenTexts(want))
				}
				if !sameSeens(want, before[by.name]) {
					other[name]++
				}
			}
			for _, m := range machines() {
				turns := randomTurns(r, p, m.late, 1)
				s, _ := m.some(p, turns)
				want := turn([]impl.Seen{s}, row)[0]
				if got, ok := m.some(q, turns); !ok || !sameSeen(got, want) {
					t.Fatalf("%v, %s %v, %s, turns %v: %v, %v, not %v", p, name, row, m.name, turns, got, ok, want)
				}
			}
		}
		for _, row := range someRows(r, i, rowsOf(impl.ProgPlaces)) {
			q, ok := impl.TurnPlaces(p, row)
			check("places", q, ok, row, turnedLast)
		}
		for _, row := range someRows(r, i, valRows()) {
			q, ok := impl.TurnVals(p, row)
			check("values", q, ok, row, turnedVals)
		}
	}
	if other["places"] < 1000 || other["values"] < 1000 {
		t.Error(other)
	}
}

// givingProg is a program in which most is taken and given.
func givingProg(p impl.Prog, r *rand.Rand) impl.Prog {
	q := copyProg(p)
	for _, steps := range q.Threads {
		for i, d := range steps {
			if to, ok := map[int]int{impl.DoLoad: impl.DoTake, impl.DoStore: impl.DoGive}[d.Kind]; ok && r.IntN(4) > 0 {
				steps[i].Kind = to
			}
		}
	}
	return q
}

// P90, P94, P95: a plain program sees as much strictly and late, by the orders and by the machines, turn by turn; it has the same ways; and by the loose order it sees no less.
func TestPlainAllowsNoLess(t *testing.T) {
	r := rand.New(rand.NewPCG(87, 88))
	other, more := 0, 0
	list := turnPrograms(2)
	for i, p := range list {
		if i%2 == 0 {
			list[i] = givingProg(p, r)
		}
	}
	for range 500 {
		list = append(list, givingProg(crossingProg(r), r), givingProg(shortProg(r), r))
	}
	for i, p := range list {
		q := impl.TurnPlain(p)
		if sameProg(p, q) && i >= 200 {
			continue
		}
		other++
		if a, b := wayTexts(impl.ExecAll(p)), wayTexts(impl.ExecAll(q)); !slices.Equal(a, b) {
			t.Fatalf("%v: %d ways, plain %d", p, len(a), len(b))
		}
		for _, by := range allSeenBy() {
			before, got := by.all(p), by.all(q)
			if !among(before, got) || by.name != "order 3" && !sameSeens(before, got) {
				t.Fatalf("%v, plain, %s: %s, not %s", p, by.name, seenTexts(got), seenTexts(before))
			}
			if len(got) > len(before) {
				more++
			}
		}
		for _, m := range machines() {
			for _, lazy := range nums(0, 3) {
				turns := randomTurns(r, p, m.late, lazy)
				a, aOk := m.some(p, turns)
				b, bOk := m.some(q, turns)
				if !aOk || !bOk || !sameSeen(a, b) {
					t.Fatalf("%v, %s, turns %v: %v, plain %v", p, m.name, turns, a, b)
				}
				for n := range len(turns) {
					a, aOk := m.some(p, turns[:n])
					b, bOk := m.some(q, turns[:n])
					if aOk != bOk || !sameSeen(a, b) {
						t.Fatalf("%v, %s, turns %v: %v, plain %v", p, m.name, turns[:n], a, b)
					}
				}
			}
		}
		for _, x := range someWays(p, 10) {
			a, _ := impl.ExecSeen(p, x)
			if b, ok := impl.ExecSeen(q, x); !ok || !sameSeen(a, b) {
				t.Fatalf("%v, %s: %v, plain %v", p, wayText(x), a, b)
			}
		}
	}
	if other < 1000 || more < 100 {
		t.Error(other, more)
	}
}

// P90: programs that are told by hand: what a plain one sees more by the loose order.
func TestPlainSeesMore(t *testing.T) {
	for text, more := range map[string]string{
		"store x 1, give y 1 | take y, load x": "1 0 / 1 1 0", "take x, store y 1 | load y, give x 1": "1 1 / 1 1 0", "store x 2, give y 1 | store y 2, give x 1": "/ 2 2 0",
		"give x 1, take y | give y 1, take x": "", "give x 1 | take x": "", "wall | wait": "", crossProg: "", passProg: "",
	} {
		p := read(t, text)
		q := impl.TurnPlain(p)
		var list []impl.Seen
		for _, s := range impl.OrderAll(q, impl.OrderLoose) {
			if !impl.SeenIn(impl.OrderAll(p, impl.OrderLoose), s) {
				list = append(list, s)
			}
		}
		if got := seenTexts(list); got != more {
			t.Errorf("%s: %s", text, got)
		}
	}
}

// partProg is a program that is ok, of that many threads, which uses these places alone; readers are in, and one waits, without a place too.
func partProg(r *rand.Rand, threads int, places []int) impl.Prog {
	var p impl.Prog
	for range threads {
		var steps []impl.Do
		for range 1 + r.IntN(2) {
			if len(places) == 0 || r.IntN(5) == 0 {
				steps = append(steps, [][]impl.Do{nil, {wall()}, {wait()}, {in(), out()}, {wait(), in(), out()}}[r.IntN(5)]...)
				continue
			}
			a, b, v := places[r.IntN(len(places))], places[r.IntN(len(places))], 1+r.IntN(3)
			steps = append(steps, [][]impl.Do{
				{store(a, v), load(b)}, {store(a, v), store(b, 4-v)}, {load(a), load(b)}, {load(a), store(b, v)}, {load(a), copyTo(b)}, {take(a)}, {give(b, v)}, {load(a)}, {store(a, v)},
				{in(), load(a), load(b), out()}, {in(), store(a, v), out()}, {store(a, v), wait(), store(b, v)}, {wait(), load(a)},
			}[r.IntN(13)]...)
		}
		p.Threads = append(p.Threads, steps)
	}
	return p
}

// apartProgs is two programs that are ok, side by side too, without a place in common.
func apartProgs(r *rand.Rand) (impl.Prog, impl.Prog) {
	for {
		var own, others []int
		for place := range impl.ProgPlaces {
			if r.IntN(2) == 0 {
				own = append(own, place)
			} else {
				others = append(others, place)
			}
		}
		n := r.IntN(4)
		p, q := partProg(r, n, own), partProg(r, 3-n, others)
		if plainOk(prog(slices.Concat(p.Threads, q.Threads)...)) {
			return p, q
		}
	}
}

// eachWithEach is what one sees with each that the other sees; at a place that one does not use there is 0.
func eachWithEach(ones, others []impl.Seen) []impl.Seen {
	var list []impl.Seen
	for _, a := range ones {
		for _, b := range others {
			s := impl.Seen{Reads: slices.Concat(a.Reads, b.Reads)}
			for place := range a.Last {
				s.Last = append(s.Last, a.Last[place]+b.Last[place])
			}
			list = append(list, s)
		}
	}
	return plainSort(list)
}

// usesPlace says whether something of a program reads or writes there.
func usesPlace(p impl.Prog, place int) bool {
	return strings.Contains(plainText(p), " "+"xyz"[place:place+1])
}

// wantApart says that two programs see side by side what each sees, by each order and by each machine; and how much is seen at most.
func wantApart(t *testing.T, p, q impl.Prog) int {
	t.Helper()
	both, ok := impl.TurnBeside(p, q)
	if !ok {
		t.Fatalf("%v, beside %v is refused", p, q)
	}
	most := 0
	for _, by := range allSeenBy() {
		first, second, got := by.all(p), by.all(q), by.all(both)
		if want := eachWithEach(first, second); !sameSeens(got, want) {
			t.Fatalf("%v, beside %v, %s: %s, not %s", p, q, by.name, seenTexts(got), seenTexts(want))
		}
		for _, s := range got {
			own := impl.Seen{Reads: s.Reads[:impl.ProgReads(p)], Last: make([]int, impl.ProgPlaces)}
			for place, v := range s.Last {
				if usesPlace(p, place) {
					own.Last[place] = v
				}
			}
			if !impl.SeenIn(first, own) {
				t.Fatalf("%v, beside %v, %s: %v is seen, but not %v", p, q, by.name, s, own)
			}
		}
		most = max(most, len(got))
	}
	return most
}

// P92, P93: programs without a place in common, told by hand: with readers in one and one who waits in the other, and with no places at all.
func TestApartAsTold(t *testing.T) {
	for _, c := range [][2]string{
		{"store x 1", "load y"}, {"store x 1, load y | store y 1, load x", "store z 1, load z"}, {"load z, store z 2", "store x 1, store y 1 | load y, load x"},
		{"in, load y, load x, out | store x 1, wait, store y 1", "in, store z 1, out, wait, load z"}, {"in, load x, out", "wait, store y 1 | wait, load y"}, {"wait, store x 1, wait | load x", "in, load y, out, in, store y 1, out"},
		{"in, load x, out, wait, store x 1", "in, load y, out, wait, store y 1 | wait, load y"}, {"wall | wait", "in, out"}, {"in, out", "store x 1, load y, wait | store y 1, wait, load x"}, {"", "|"}, {"", "load x, copy y | store x 2, take y"},
	} {
		for _, pair := range [][2]string{c, {c[1], c[0]}} {
			wantApart(t, read(t, pair[0]), read(t, pair[1]))
		}
	}
	for _, p := range limitProgs() {
		wantApart(t, p, impl.Prog{})
		wantApart(t, impl.Prog{}, p)
	}
	// With a place in common it is not so.
	p, q := read(t, "store x 1"), read(t, "load x")
	both, _ := impl.TurnBeside(p, q)
	for _, by := range allSeenBy() {
		if got := seenTexts(by.all(both)); got != "0 / 1 0 0; 1 / 1 0 0" {
			t.Errorf("%s: %s", by.name, got)
		}
	}
}

// P92, P93: many pairs of programs of all kinds of steps.
func TestApartEachSeesWhatItSees(t *testing.T) {
	r := rand.New(rand.NewPCG(89, 90))
	several, waits, kinds := 0, 0, map[int]int{}
	for range 1500 {
		p, q := apartProgs(r)
		if wantApart(t, p, q) > 1 {
			several++
		}
		for _, d := range slices.Concat(slices.Concat(p.Threads...), slices.Concat(q.Threads...)) {
			kinds[d.Kind]++
		}
		one, other := slices.Concat(p.Threads...), slices.Concat(q.Threads...)
		if has(one, impl.DoIn) && has(other, impl.DoWait) && has(one, impl.DoLoad) || has(other, impl.DoIn) && has(one, impl.DoWait) && has(other, impl.DoLoad) {
			waits++
		}
	}
	for kind := impl.DoStore; kind <= impl.DoWait; kind++ {
		if kinds[kind] < 100 {
			t.Error(kinds)
		}
	}
	if several < 500 || waits < 100 {
		t.Error(several, waits)
	}
}

// eventsTurned is, of each event, its place when threads are turned.
func eventsTurned(p, q impl.Prog, row []int) []int {
	var list []int
	for _, e := range plainEvents(p) {
		list = append(list, slices.IndexFunc(plainEvents(q), func(o plainEvent) bool {
			return o.Thread == backRow(row)[e.Thread] && o.Step == e.Step && o.Last == e.Last
		}))
	}
	return list
}

// wayTurned is the same way with events at other places.
func wayTurned(x impl.Exec, places []int) impl.Exec {
	y := copyWay(x)
	for i, from := range x.From {
		if from >= 0 {
			from = places[from]
		}
		y.From[places[i]] = from
	}
	for place, row := range x.Order {
		for i, at := range row {
			y.Order[place][i] = places[at]
		}
	}
	return y
}

// P96: with threads turned the same must be ahead, the same ways hold, and of what was seen the same order is told.
func TestTurnedThreadsHaveTheSameOrder(t *testing.T) {
	r := rand.New(rand.NewPCG(91, 92))
	told, held, must := map[int]int{}, map[string]int{}, 0
	for i, p := range whyPrograms() {
		if i >= 200 && i%4 != 0 {
			continue
		}
		for _, row := range someRows(r, i, rowsOf(len(p.Threads))) {
			q, _ := impl.TurnThreads(p, row)
			places := eventsTurned(p, q, row)
			for _, x := range someWays(p, 3) {
				y := wayTurned(x, places)
				if a, b := holdsText(p, x), holdsText(q, y); a != b || !impl.ExecOk(q, y) {
					t.Fatalf("%v, %v, %s: %q holds, not %q", p, row, wayText(x), b, a)
				}
				held[holdsText(p, x)]++
				for _, kind := range orders() {
					want := plainLinks{}
					for l := range hasLinks(p, x, kind) {
						want[[2]int{places[l[0]], places[l[1]]}] = true
						must++
					}
					if got := hasLinks(q, y, kind); got.text() != want.text() {
						t.Fatalf("%v, %v, %s, order %d: %s, not %s", p, row, wayText(x), kind, got.text(), want.text())
					}
				}
			}
			seens := everSeen(p)[:1]
			for _, s := range everSeen(p) {
				if odd := impl.SeenIn(impl.OrderAll(p, impl.OrderLoose), s) && !impl.SeenIn(impl.MachStrict(p), s); odd || r.IntN(10) == 0 {
					seens = append(seens, s)
				}
			}
			for _, s := range seens {
				turned, ok := impl.TurnSeen(p, s, row)
				if !ok {
					t.Fatalf("%v of %v, %v is refused", s, p, row)
				}
				want := impl.WhyOrder(p, s)
				if got := impl.WhyOrder(q, turned); got != want {
					t.Fatalf("%v of %v, %v: order %d, not %d", s, p, row, got, want)
				}
				told[want]++
			}
		}
	}
	if told[0] < 100 || told[1] < 100 || told[2] < 10 || told[3] < 10 || held[""] < 100 || held["3"] < 20 || held["23"] < 5 || held["123"] < 100 || must < 1000 {
		t.Error(told, held, must)
	}
}

// P80 to P87: each limit of the table met exactly; one more is refused (TestTurnsOfNoProgram).
func TestTurnsAtTheLimits(t *testing.T) {
	for _, p := range limitProgs() {
		n := len(p.Threads)
		row := below(n)
		slices.Reverse(row)
		if got := progText(impl.TurnThreads(p, row)); got != textOfThreads(p, row) {
			t.Errorf("%v, %v: %q", p, row, got)
		}
		s := someSeenOf(p)[2]
		if got := seenText(impl.TurnSeen(p, s, row)); got != plainSeenText(plainTurnSeen(p, s, row)) {
			t.Errorf("%v, %v, %v: %s", p, s, row, got)
		}
		if got := progText(impl.TurnPlaces(p, nums(1, 2, 0))); got != textOfPlaces(p, nums(1, 2, 0)) {
			t.Errorf("%v, places: %q", p, got)
		}
		if got := progText(impl.TurnVals(p, nums(0, 3, 1, 2))); got != textOfVals(p, nums(0, 3, 1, 2)) {
			t.Errorf("%v, values: %q", p, got)
		}
		if got := progText(impl.TurnPlain(p), true); got != textOfPlain(p) {
			t.Errorf("%v, plain: %q", p, got)
		}
	}
}

// What is said once: the empty list and the nil list are the same.
func TestTurnsTakeEmptyForNil(t *testing.T) {
	empty := make([]int, 0, 4)
	steps := thread(take(1), give(2, 1))
	for _, p := range []impl.Prog{{}, {Threads: [][]impl.Do{}}, {Threads: make([][]impl.Do, 0, 3)}, prog(nil), prog(thread()), prog(nil, make([]impl.Do, 0, 3), thread()), prog(nil, steps, nil), prog(thread(), steps, make([]impl.Do, 0, 3))} {
		n := len(p.Threads)
		for _, row := range [][]int{nil, {}, empty} {
			want := "no"
			if n == 0 {
				want = ""
			}
			if got := progText(impl.TurnThreads(p, row)); got != want {
				t.Errorf("%#v, %#v: %q", p, row, got)
			}
			for _, reads := range [][]int{nil, {}, empty} {
				want := "no"
				if n == 0 {
					want = "/ 1 2 3"
				}
				if got := seenText(impl.TurnSeen(p, seen(reads, 1, 2, 3), row)); got != want {
					t.Errorf("%#v, %#v, %#v: %q", p, reads, row, got)
				}
				if got := seenText(impl.TurnSeen(p, seen(reads, 1, 2, 3), below(n))); (got == "/ 1 2 3") != (len(slices.Concat(p.Threads...)) == 0) {
					t.Errorf("%#v, %#v: %q", p, reads, got)
				}
			}
			if a, b := progText(impl.TurnPlaces(p, row)), progText(impl.TurnVals(p, row)); a != "no" || b != "no" {
				t.Errorf("%#v, %#v: %q, %q", p, row, a, b)
			}
		}
		text := plainText(p)
		for name, got := range map[string]string{"threads": progText(impl.TurnThreads(p, below(n))), "places": progText(impl.TurnPlaces(p, below(3))), "values": progText(impl.TurnVals(p, below(4))), "beside": progText(impl.TurnBeside(p, impl.Prog{Threads: [][]impl.Do{}}))} {
			if got != text {
				t.Errorf("%#v, %s: %q", p, name, got)
			}
		}
		if got := progText(impl.TurnPlain(p), true); got != textOfPlain(p) {
			t.Errorf("%#v, plain: %q", p, got)
		}
	}
}

// What is said once: nothing is written into an argument or behind its end.
func TestTurnArgumentsStay(t *testing.T) {
	check := func(p, other impl.Prog, list [][]int) {
		t.Helper()
		q, second := wideProg(p), wideProg(other)
		for _, row := range list {
			arg := wide(row)
			for _, s := range append(someSeenOf(p), impl.Seen{}, seen(nums(4), 0, 0, 0)) {
				told := impl.Seen{Reads: wide(s.Reads), Last: wide(s.Last)}
				impl.TurnSeen(q, told, arg)
				if !sameSeen(told, s) || !wideOk(told.Reads) || !wideOk(told.Last) {
					t.Fatalf("%v: %v became %v", p, s, told)
				}
			}
			impl.TurnThreads(q, arg)
			impl.TurnPlaces(q, arg)
			impl.TurnVals(q, arg)
			if !slices.Equal(arg, row) || !wideOk(arg) {
				t.Fatalf("%v: %v became %v", p, row, arg)
			}
		}
		impl.TurnPlain(q)
		impl.TurnBeside(q, second)
		impl.TurnBeside(second, q)
		if !sameProg(p, q) || !wideProgOk(q) || !sameProg(other, second) || !wideProgOk(second) {
			t.Fatalf("%v became %v, %v became %v", p, q, other, second)
		}
	}
	good := prog(thread(take(1), give(2, 3)))
	lists := append(rows(2, 0, 1, -1), rowsOf(3)...)
	lists = append(lists, valRows()...)
	for i, p := range turnPrograms(3) {
		check(p, []impl.Prog{good, {}, p}[i%3], lists)
	}
	for _, p := range badPrograms() {
		check(p, good, append(lists, below(len(p.Threads))))
		check(p, p, nil)
	}
}

// What is said once: an answer shares no memory with an argument or with another answer, and no two lists of one answer share any; nothing is kept.
func TestTurnAnswersShareNothing(t *testing.T) {
	ground := thread(store(0, 1), take(1), load(0), give(1, 2))
	list := append(turnPrograms(5), prog(ground[:2], ground[1:3], ground[2:]), prog(ground[:3], ground[:3]), prog(ground[:1], ground[:1], ground), prog(ground[:0], ground[1:1], ground)) // threads that lie in one piece of memory
	for _, p := range list {
		arg, want := prog(slices.Clone(p.Threads)...), copyProg(p)
		row := rowsOf(len(p.Threads))
		for name, turn := range map[string]func() (impl.Prog, bool){
			"threads, which stay": func() (impl.Prog, bool) { return impl.TurnThreads(arg, row[0]) },
			"threads":             func() (impl.Prog, bool) { return impl.TurnThreads(arg, row[len(row)-1]) },
			"places, which stay":  func() (impl.Prog, bool) { return impl.TurnPlaces(arg, nums(0, 1, 2)) },
			"places":              func() (impl.Prog, bool) { return impl.TurnPlaces(arg, nums(1, 2, 0)) },
			"values, which stay":  func() (impl.Prog, bool) { return impl.TurnVals(arg, nums(0, 1, 2, 3)) },
			"values":              func() (impl.Prog, bool) { return impl.TurnVals(arg, nums(0, 3, 1, 2)) },
			"plain":               func() (impl.Prog, bool) { return impl.TurnPlain(arg), true },
			"beside itself":       func() (impl.Prog, bool) { return impl.TurnBeside(arg, arg) },
			"beside none":         func() (impl.Prog, bool) { return impl.TurnBeside(arg, impl.Prog{}) },
			"none beside":         func() (impl.Prog, bool) { return impl.TurnBeside(impl.Prog{}, arg) },
		} {
			wantText := progText(turn())
			got, _ := turn()
			again, ok := turn()
			if !scribbleProg(got) {
				t.Fatalf("%v, %s: lists of an answer share memory", p, name)
			}
			if progText(again, ok) != wantText || progText(turn()) != wantText || !sameProg(arg, want) {
				t.Fatalf("%v, %s: an answer shares memory, or something is kept", p, name)
			}
		}
		for _, r := range row {
			numbers := nums(0, 1, 2, 3, 2, 1, 0, 1, 2)
			n := impl.ProgReads(p)
			shared := impl.Seen{Reads: numbers[:n], Last: numbers[max(n-3, 0):][:3]} // both lists lie in one piece of memory
			before := copySeens([]impl.Seen{shared})[0]
			turnRow := slices.Clone(r)
			got, _ := impl.TurnSeen(arg, shared, turnRow)
			again, _ := impl.TurnSeen(arg, shared, turnRow)
			wantSeen := plainTurnSeen(p, before, r)
			if !sameSeen(got, wantSeen) || !scribble([]impl.Seen{got}) || !sameSeen(again, wantSeen) || !sameSeen(shared, before) || !slices.Equal(turnRow, r) {
				t.Fatalf("%v, %v, %v: an answer shares memory: %v", p, before, r, again)
			}
			if after, _ := impl.TurnSeen(arg, shared, turnRow); !sameSeen(after, wantSeen) {
				t.Fatalf("%v, %v, %v: something is kept: %v", p, before, r, after)
			}
		}
	}
}
