package tests

import (
	"fmt"
	"math"
	"math/rand/v2"
	"slices"
	"strings"
	"testing"

	"loop.example/fathomline/impl"
)

func way(from []int, order ...[]int) impl.Exec { return impl.Exec{From: from, Order: order} }

// wayText holds the empty list and the nil list to be the same.
func wayText(x impl.Exec) string { return fmt.Sprint(x.From, x.Order) }

func wayTexts(list []impl.Exec) []string {
	var texts []string
	for _, x := range list {
		texts = append(texts, wayText(x))
	}
	return texts
}

func copyWay(x impl.Exec) impl.Exec {
	y := impl.Exec{From: slices.Clone(x.From)}
	for _, row := range x.Order {
		y.Order = append(y.Order, slices.Clone(row))
	}
	return y
}

// plainEvent is an event with its step.
type plainEvent struct {
	impl.Event
	do impl.Do
}

func plainEvents(p impl.Prog) []plainEvent {
	var list []plainEvent
	for t, steps := range p.Threads {
		for i, d := range steps {
			list = append(list, plainEvent{impl.Event{Thread: t, Step: i}, d})
			if d.Kind == impl.DoWait {
				list = append(list, plainEvent{impl.Event{Thread: t, Step: i, Last: true}, d})
			}
		}
	}
	return list
}

func plainWriters(events []plainEvent, place int) []int {
	var list []int
	for i, e := range events {
		if isWrite(e.do) && e.do.Place == place {
			list = append(list, i)
		}
	}
	return list
}

// plainCopied is the event that a DoCopy copies.
func plainCopied(events []plainEvent, at int) int {
	from := at
	for from >= 0 && !isRead(events[from].do) {
		from--
	}
	return from
}

// plainValues is the value of each read and write that can be known at all: those that are plain first, then those that have it from one that is known, until there are no more. What goes back to itself never is.
func plainValues(events []plainEvent, from []int) map[int]int {
	known := map[int]int{}
	for range events {
		for i, e := range events {
			source := -2
			switch {
			case isRead(e.do) && from[i] == -1:
				known[i] = 0
			case isRead(e.do):
				source = from[i]
			case e.do.Kind == impl.DoCopy:
				source = plainCopied(events, i)
			case isWrite(e.do):
				known[i] = e.do.Val
			}
			if v, ok := known[source]; ok {
				known[i] = v
			}
		}
	}
	return known
}

func plainUses(events []plainEvent) int {
	n := 0
	for _, e := range events {
		n += usesOf(thread(e.do))
	}
	return n
}

// plainWayOk is what is said of a way, one thing behind the other.
func plainWayOk(p impl.Prog, x impl.Exec) bool {
	if !plainOk(p) {
		return false
	}
	events := plainEvents(p)
	if len(x.From) != len(events) || len(x.Order) != 3 {
		return false
	}
	for i, e := range events {
		may := nums(-2)
		if isRead(e.do) {
			may = append(nums(-1), plainWriters(events, e.do.Place)...)
		}
		if !slices.Contains(may, x.From[i]) {
			return false
		}
	}
	for place, row := range x.Order {
		sorted := slices.Clone(row)
		slices.Sort(sorted)
		if !slices.Equal(sorted, plainWriters(events, place)) {
			return false
		}
	}
	return len(plainValues(events, x.From)) == plainUses(events)
}

// plainSeenOf is what is seen in a way that is ok.
func plainSeenOf(p impl.Prog, x impl.Exec) impl.Seen {
	events := plainEvents(p)
	values := plainValues(events, x.From)
	s := seen(nil, 0, 0, 0)
	for i, e := range events {
		if isRead(e.do) {
			s.Reads = append(s.Reads, values[i])
		}
	}
	for place, row := range x.Order {
		for _, i := range row {
			s.Last[place] = values[i]
		}
	}
	return s
}

// nextRow turns a row into the next one of the same numbers; false at the last.
func nextRow(row []int) bool {
	at := len(row) - 2
	for at >= 0 && row[at] > row[at+1] {
		at--
	}
	if at < 0 {
		return false
	}
	other := len(row) - 1
	for row[other] < row[at] {
		other--
	}
	row[at], row[other] = row[other], row[at]
	slices.Reverse(row[at+1:])
	return true
}

func allRows(row []int) [][]int {
	list := [][]int{slices.Clone(row)}
	row = slices.Clone(row)
	for nextRow(row) {
		list = append(list, slices.Clone(row))
	}
	return list
}

// plainWays counts through all that may be told, the last quickest, and leaves out what goes back to itself.
func plainWays(p impl.Prog) []impl.Exec {
	events := plainEvents(p)
	var parts [][][]int // of each event, and then of each place, all that may be told
	for _, e := range events {
		part := [][]int{{-2}}
		if isRead(e.do) {
			part = [][]int{{-1}}
			for _, i := range plainWriters(events, e.do.Place) {
				part = append(part, nums(i))
			}
		}
		parts = append(parts, part)
	}
	for place := range 3 {
		parts = append(parts, allRows(plainWriters(events, place)))
	}
	all := 1
	for _, part := range parts {
		all *= len(part)
	}
	var list []impl.Exec
	for n := range all {
		told := make([][]int, len(parts))
		for i := len(parts) - 1; i >= 0; i-- {
			told[i] = parts[i][n%len(parts[i])]
			n /= len(parts[i])
		}
		x := impl.Exec{From: slices.Concat(told[:len(events)]...), Order: told[len(events):]}
		if len(plainValues(events, x.From)) == plainUses(events) {
			list = append(list, copyWay(x))
		}
	}
	return list
}

// mostWays is who may have written what, in which order, counted.
func mostWays(p impl.Prog) int {
	n := 1
	for place := range 3 {
		writers := 0
		for _, e := range plainEvents(p) {
			if isWrite(e.do) && e.do.Place == place {
				writers++
				n *= writers
			}
		}
		for _, e := range plainEvents(p) {
			if isRead(e.do) && e.do.Place == place {
				n *= 1 + writers
			}
		}
	}
	return n
}

// copyingProg is a program that is ok, of few places, in which much is copied.
func copyingProg(r *rand.Rand) impl.Prog {
	for {
		var p impl.Prog
		for range 1 + r.IntN(3) {
			var steps []impl.Do
			for range 1 + r.IntN(3) {
				a, b, v := r.IntN(2), r.IntN(3), 1+r.IntN(3)
				steps = append(steps, [][]impl.Do{
					{load(a), copyTo(1 - a)}, {take(b), copyTo(a)}, {load(b)}, {load(a), wait(), copyTo(a), copyTo(b)}, {load(a), load(b), copyTo(a)}, {store(a, v)}, {give(b, v)}, {in(), load(a), out(), copyTo(b)},
				}[r.IntN(8)]...)
			}
			p.Threads = append(p.Threads, steps)
		}
		if plainOk(p) {
			return p
		}
	}
}

// execPrograms is programs that are ok: those at the edges, small and large ones, and those in which much is copied.
func execPrograms() []impl.Prog {
	list := machPrograms()
	r := rand.New(rand.NewPCG(31, 32))
	for range 1000 {
		list = append(list, copyingProg(r))
	}
	return list
}

// P23: events as they are told by hand.
func TestEventsAsTold(t *testing.T) {
	for text, want := range map[string]string{
		"":                                   "[]",
		"||":                                 "[]",
		"wall":                               "[{0 0 false}]",
		"wait":                               "[{0 0 false} {0 0 true}]",
		"wait, wait":                         "[{0 0 false} {0 0 true} {0 1 false} {0 1 true}]",
		"in, wall, out":                      "[{0 0 false} {0 1 false} {0 2 false}]",
		"load x, copy y":                     "[{0 0 false} {0 1 false}]",
		"| store x 1 |":                      "[{1 0 false}]",
		"|| take z, give z 3":                "[{2 0 false} {2 1 false}]",
		"store x 1, wait | wait":             "[{0 0 false} {0 1 false} {0 1 true} {1 0 false} {1 0 true}]",
		"load x | wait, load x | wall, wait": "[{0 0 false} {1 0 false} {1 0 true} {1 1 false} {2 0 false} {2 1 false} {2 1 true}]",
	} {
		if got := fmt.Sprint(impl.ExecEvents(read(t, text))); got != want {
			t.Errorf("%s: %s", text, got)
		}
	}
	if got := impl.ExecEvents(impl.Prog{}); len(got) != 0 {
		t.Errorf("no threads: %v", got)
	}
}

// P23.
func TestAnEventForEachStep(t *testing.T) {
	waits := 0
	for _, p := range execPrograms() {
		got := impl.ExecEvents(p)
		steps, twos := 0, 0
		for th, list := range p.Threads {
			for i, d := range list {
				steps++
				first := slices.Index(got, impl.Event{Thread: th, Step: i})
				if first < 0 {
					t.Fatalf("%v: no event of step %d of thread %d: %v", p, i, th, got)
				}
				second := slices.Index(got, impl.Event{Thread: th, Step: i, Last: true})
				if d.Kind != impl.DoWait && second >= 0 || d.Kind == impl.DoWait && second != first+1 {
					t.Fatalf("%v: step %d of thread %d: %v", p, i, th, got)
				}
				if d.Kind == impl.DoWait {
					twos++
				}
			}
		}
		if len(got) != steps+twos {
			t.Fatalf("%v: %d steps, %d of them to wait, %d events", p, steps, twos, len(got))
		}
		for i := 1; i < len(got); i++ {
			a, b := got[i-1], got[i]
			if a.Thread > b.Thread || a.Thread == b.Thread && a.Step > b.Step {
				t.Fatalf("%v: not in order: %v", p, got)
			}
		}
		waits += twos
	}
	if waits < 100 {
		t.Error("only", waits, "wait")
	}
}

// P24, P25: all ways of programs that are told by hand, in order.
func TestWaysAsTold(t *testing.T) {
	for text, want := range map[string]string{
		"":                                    "[] [[] [] []]",
		"||":                                  "[] [[] [] []]",
		"wall":                                "[-2] [[] [] []]",
		"wait":                                "[-2 -2] [[] [] []]",
		"in, out | wait":                      "[-2 -2 -2 -2] [[] [] []]",
		"load x":                              "[-1] [[] [] []]",
		"take z, take z":                      "[-1 -1] [[] [] []]",
		"store x 1":                           "[-2] [[0] [] []]",
		"give z 3":                            "[-2] [[] [] [0]]",
		"store x 1, load x":                   "[-2 -1] [[0] [] []]; [-2 0] [[0] [] []]",
		"load x, store x 1":                   "[-1 -2] [[1] [] []]; [1 -2] [[1] [] []]",
		"load y, store x 1":                   "[-1 -2] [[1] [] []]",
		"load x, copy x":                      "[-1 -2] [[1] [] []]",
		"load x, copy y":                      "[-1 -2] [[] [1] []]",
		"store y 1 | take y":                  "[-2 -1] [[] [0] []]; [-2 0] [[] [0] []]",
		"take y | give y 1":                   "[-1 -2] [[] [1] []]; [1 -2] [[] [1] []]",
		"wait, load x | store x 1":            "[-2 -2 -1 -2] [[3] [] []]; [-2 -2 3 -2] [[3] [] []]",
		"store x 1, store x 1":                "[-2 -2] [[0 1] [] []]; [-2 -2] [[1 0] [] []]",
		"store x 1, store x 2 | load x, wait": "[-2 -2 -1 -2 -2] [[0 1] [] []]; [-2 -2 -1 -2 -2] [[1 0] [] []]; [-2 -2 0 -2 -2] [[0 1] [] []]; [-2 -2 0 -2 -2] [[1 0] [] []]; [-2 -2 1 -2 -2] [[0 1] [] []]; [-2 -2 1 -2 -2] [[1 0] [] []]",
		"store x 1, store y 1 | store y 2, store x 2": "[-2 -2 -2 -2] [[0 3] [1 2] []]; [-2 -2 -2 -2] [[0 3] [2 1] []]; [-2 -2 -2 -2] [[3 0] [1 2] []]; [-2 -2 -2 -2] [[3 0] [2 1] []]",
		"store z 1 | store z 2 | store z 3":           "[-2 -2 -2] [[] [] [0 1 2]]; [-2 -2 -2] [[] [] [0 2 1]]; [-2 -2 -2] [[] [] [1 0 2]]; [-2 -2 -2] [[] [] [1 2 0]]; [-2 -2 -2] [[] [] [2 0 1]]; [-2 -2 -2] [[] [] [2 1 0]]",
		"load x, load y | store x 1, store y 2":       "[-1 -1 -2 -2] [[2] [3] []]; [-1 3 -2 -2] [[2] [3] []]; [2 -1 -2 -2] [[2] [3] []]; [2 3 -2 -2] [[2] [3] []]",
		"load x | store x 1, load x":                  "[-1 -2 -1] [[1] [] []]; [-1 -2 1] [[1] [] []]; [1 -2 -1] [[1] [] []]; [1 -2 1] [[1] [] []]",
		"load x, copy y | load y, copy x":             "[-1 -2 -1 -2] [[3] [1] []]; [-1 -2 1 -2] [[3] [1] []]; [3 -2 -1 -2] [[3] [1] []]",
		"load x, copy x, store x 1":                   "[-1 -2 -2] [[1 2] [] []]; [-1 -2 -2] [[2 1] [] []]; [2 -2 -2] [[1 2] [] []]; [2 -2 -2] [[2 1] [] []]",
	} {
		if got := strings.Join(wayTexts(impl.ExecAll(read(t, text))), "; "); got != want {
			t.Errorf("%s: %s", text, got)
		}
	}
	for _, p := range []impl.Prog{{}, {Threads: [][]impl.Do{}}} {
		if got := strings.Join(wayTexts(impl.ExecAll(p)), "; "); got != "[] [[] [] []]" {
			t.Errorf("no threads: %s", got)
		}
	}
}

// wayAhead tells the order of two ways in the document's words; -1 is less than each event.
func wayAhead(a, b impl.Exec) bool {
	for i := range a.From {
		if a.From[i] != b.From[i] {
			return a.From[i] < b.From[i]
		}
	}
	for place := range a.Order {
		for i := range a.Order[place] {
			if a.Order[place][i] != b.Order[place][i] {
				return a.Order[place][i] < b.Order[place][i]
			}
		}
	}
	return false
}

// P24: in order, each once, all of them, and some of each program that is ok.
func TestAllWays(t *testing.T) {
	out := 0
	for _, p := range execPrograms() {
		list := impl.ExecAll(p)
		if len(list) == 0 {
			t.Fatalf("%v: there is no way", p)
		}
		for i, x := range list {
			if !impl.ExecOk(p, x) {
				t.Fatalf("%v: %s is no way", p, wayText(x))
			}
			if i > 0 && !wayAhead(list[i-1], x) {
				t.Fatalf("%v: %s stands ahead of %s", p, wayText(list[i-1]), wayText(x))
			}
		}
		if got, want := wayTexts(list), wayTexts(plainWays(p)); !slices.Equal(got, want) {
			t.Fatalf("%v: %q, not %q", p, got, want)
		}
		if len(list) < mostWays(p) {
			out++
		}
	}
	if out < 100 {
		t.Error("something goes back to itself in", out, "programs only")
	}
}

// P24, P25: what is copied goes back to itself in one thread, through two and through three. What is told of reads alone decides, so that it is left out in each order of writes.
func TestWhatGoesBackToItself(t *testing.T) {
	for _, c := range []struct {
		text string
		from []int
		ends bool
	}{
		{"load x, copy x", nums(-1, -2), true}, {"load x, copy x", nums(1, -2), false}, {"take z, copy z", nums(1, -2), false},
		{"load x, copy x, copy x", nums(1, -2, -2), false}, {"load x, copy x, copy x", nums(2, -2, -2), false}, {"load x, copy x, copy x", nums(-1, -2, -2), true},
		{"load x, copy y, copy x", nums(2, -2, -2), false}, {"load x, copy x, copy y, load y", nums(-1, -2, -2, 2), true}, {"load x, copy y, load y", nums(-1, -2, 1), true},
		{"load x, wait, wall, copy x", nums(4, -2, -2, -2, -2), false}, {"wait, load x, wait, copy x", nums(-2, -2, 5, -2, -2, -2), false},
		{"load x, load y, copy x", nums(2, -1, -2), true}, {"load x, load x, copy x", nums(2, -1, -2), true}, {"load x, load x, copy x", nums(-1, 2, -2), false}, {"load x, load x, copy x", nums(2, 2, -2), false},
		{"load x, load x, load x, copy x", nums(3, 3, -1, -2), true}, {"load x, load x, load x, copy x", nums(-1, -1, 3, -2), false},
		{"load x, copy x, load x", nums(-1, -2, 1), true}, {"load x, copy x, load x", nums(1, -2, -1), false}, {"load x, copy x, load x, copy x", nums(3, -2, -1, -2), true},
		{"load x, copy x, load x, copy x", nums(-1, -2, 3, -2), false}, {"load x, copy x, load x, copy x", nums(3, -2, 1, -2), false}, {"load x, copy x, load x, copy x", nums(-1, -2, 1, -2), true},
		{"load x, copy y, load y, copy x", nums(3, -2, 1, -2), false}, {"load x, copy y, load y, copy x", nums(3, -2, -1, -2), true}, {"load x, copy y, load y, copy x", nums(-1, -2, 1, -2), true},
		{"store x 1, load x, copy x", nums(-2, 0, -2), true}, {"store x 1, load x, copy x", nums(-2, 2, -2), false}, {"load x, store x 2", nums(1, -2), true}, {"load x, copy x, store x 1", nums(2, -2, -2), true},
		{"load x, copy x | load x", nums(1, -2, -1), false}, {"load x, copy x | load x", nums(1, -2, 1), false}, {"load x, copy x | load x", nums(-1, -2, 1), true},
		{"load x, copy y | load y, copy x", nums(3, -2, 1, -2), false}, {"load x, copy y | load y, copy x", nums(-1, -2, 1, -2), true}, {"load x, copy y | load y, copy x", nums(3, -2, -1, -2), true},
		{"load x, copy y | take y, store x 1", nums(3, -2, 1, -2), true}, {"load x, give y 1 | take y, copy x", nums(3, -2, 1, -2), true},
		{"load x, copy x | load x, copy x", nums(3, -2, 1, -2), false}, {"load x, copy x | load x, copy x", nums(3, -2, -1, -2), true}, {"load x, copy x | load x, copy x", nums(3, -2, 3, -2), false}, {"load x, copy x | load x, copy x", nums(1, -2, 1, -2), false},
		{"load x, load z, copy y | load y, copy x", nums(4, -1, -2, 2, -2), true}, {"load x, copy y, load z | load y, copy x", nums(4, -2, -1, 1, -2), false},
		{"load x, copy y | load y, copy z | load z, copy x", nums(5, -2, 1, -2, 3, -2), false}, {"load x, copy y | load y, copy z | load z, copy x", nums(-1, -2, 1, -2, 3, -2), true},
		{"load x, copy y | load y, copy z | load z, copy x", nums(5, -2, -1, -2, 3, -2), true}, {"load x, copy y | load y, copy z | load z, copy x", nums(5, -2, 1, -2, -1, -2), true},
		{"load z, copy x | load x, copy y | load y, copy z", nums(5, -2, 1, -2, 3, -2), false}, {"load y, copy x | load z, copy y | load x, copy z", nums(3, -2, 5, -2, 1, -2), false},
		{"load x, copy x | load x, copy x | load x, copy x", nums(3, -2, 5, -2, 1, -2), false}, {"load x, copy x | load x, copy x | load x, copy x", nums(5, -2, 1, -2, 3, -2), false}, {"load x, copy x | load x, copy x | load x, copy x", nums(5, -2, 1, -2, -1, -2), true}, {"load x, copy x | load x, copy x | load x, copy x", nums(-1, -2, 5, -2, 3, -2), false},
	} {
		p := read(t, c.text)
		events := plainEvents(p)
		var told []impl.Exec
		for _, x := range impl.ExecAll(p) {
			if slices.Equal(x.From, c.from) {
				told = append(told, x)
			}
		}
		n := 0
		for _, a := range allRows(plainWriters(events, 0)) {
			for _, b := range allRows(plainWriters(events, 1)) {
				for _, d := range allRows(plainWriters(events, 2)) {
					n++
					if x := way(c.from, a, b, d); impl.ExecOk(p, x) != c.ends {
						t.Errorf("%s, %s: not %v", c.text, wayText(x), c.ends)
					}
				}
			}
		}
		if c.ends && len(told) != n || !c.ends && len(told) != 0 {
			t.Errorf("%s, from %v: %d ways of %d", c.text, c.from, len(told), n)
		}
	}
}

// P24, P29: how many ways are left of programs in which something may go back to itself.
func TestHowManyWays(t *testing.T) {
	for text, want := range map[string]int{
		"load x, copy x":                                      1,
		"load x, load y, copy x":                              2,
		"load x, copy x, copy y":                              1,
		"load x, store x 1, copy x":                           4,
		"load x, copy y, load y, copy x":                      3,
		"load x, copy y | load y, copy x":                     3,
		"load x, copy x | load x, copy x":                     6,
		"load x, copy y, copy x | load y":                     2,
		"load x, copy y | store y 1, load y, copy x":          12 - 2,
		"load x, copy y | load y, copy z | load z, copy x":    7,
		"load x, copy y | load y, copy x | store x 1, load y": 20,
		"load x, copy x | load x, copy x | load x, copy x":    16 * 6,
	} {
		if got := len(impl.ExecAll(read(t, text))); got != want {
			t.Errorf("%s: %d ways, not %d", text, got, want)
		}
	}
}

// P29.
func TestNoMoreWaysThanMayBe(t *testing.T) {
	for _, p := range execPrograms() {
		got, most := len(impl.ExecAll(p)), mostWays(p)
		if got > most || !strings.Contains(plainText(p), "copy") && got != most {
			t.Fatalf("%v: %d ways of %d", p, got, most)
		}
	}
	for text, want := range map[string]int{"": 1, "load x": 1, "store x 1": 1, "store x 1, load x": 2, "store x 1 | store x 2 | load x, load x, load y": 18, "store x 1, store y 1, load x, load y": 4} {
		if got := len(impl.ExecAll(read(t, text))); got != want {
			t.Errorf("%s: %d ways", text, got)
		}
	}
}

// P23, P24: each limit met exactly; one more is refused (TestWaysOfNoProgram).
func TestWaysAtTheLimits(t *testing.T) {
	events := nums(3, 7, 14, 28, 19, 21, 6, 6, 6, 6, 18, 5, 6)
	ways := nums(6, 1, 1, 1, 1, 1, 1, 720, 384, 600, 384, 72, 8)
	list := limitProgs()
	if len(list) != len(events) || len(list) != len(ways) {
		t.Fatal(len(list), "programs")
	}
	for i, p := range list {
		got := impl.ExecAll(p)
		if n := len(impl.ExecEvents(p)); n != events[i] || len(got) != ways[i] {
			t.Errorf("%v: %d events, %d ways", p, n, len(got))
			continue
		}
		first, last := got[0], got[len(got)-1]
		if !impl.ExecOk(p, first) || !impl.ExecOk(p, last) || len(first.From) != events[i] || len(last.Order) != 3 {
			t.Errorf("%v: %s to %s", p, wayText(first), wayText(last))
		}
	}
	stores := impl.ExecAll(prog(times(6, store(2, 3))))
	if a, b := wayText(stores[1]), wayText(stores[719]); a != "[-2 -2 -2 -2 -2 -2] [[] [] [0 1 2 3 5 4]]" || b != "[-2 -2 -2 -2 -2 -2] [[] [] [5 4 3 2 1 0]]" {
		t.Error(a, b)
	}
}

func wantNoWay(t *testing.T, name string, p impl.Prog, x impl.Exec) {
	t.Helper()
	s, ok := impl.ExecSeen(p, x)
	if impl.ExecOk(p, x) || ok || !sameSeen(s, impl.Seen{}) {
		t.Errorf("%s: %v, %s: taken for a way: %v, %v", name, p, wayText(x), s, ok)
	}
}

// farNumbers is numbers that are no events, and some that are.
func farNumbers() []int {
	return nums(math.MinInt, math.MinInt32, -256, -4, -3, -2, -1, 0, 1, 2, 3, 4, 5, 6, 7, 8, 9, 14, 28, 255, 256, 259, 1<<32, 1<<32+3, math.MaxInt)
}

// P25, P26: of a program with an event of each kind each place of From is told all numbers.
func TestFromAsTold(t *testing.T) {
	p := read(t, "store x 1, load x, wall | give x 2, take y, copy y, wait | in, out, store y 3")
	good := way(nums(-2, 3, -2, -2, -1, -2, -2, -2, -2, -2, -2), nums(3, 0), nums(10, 5), nil)
	if s, ok := impl.ExecSeen(p, good); !ok || plainSeenText(s) != "2 0 / 1 0 0" {
		t.Fatal(s, ok)
	}
	may := map[int][]int{1: nums(-1, 0, 3), 4: nums(-1, 10)} // 5 goes back to itself
	for at := range good.From {
		for _, from := range append(farNumbers(), 10, 11) {
			x := copyWay(good)
			x.From[at] = from
			want := from == -2
			if may[at] != nil {
				want = slices.Contains(may[at], from)
			}
			if want {
				if _, ok := impl.ExecSeen(p, x); !ok || !impl.ExecOk(p, x) {
					t.Errorf("%s is refused", wayText(x))
				}
			} else {
				wantNoWay(t, "from", p, x)
			}
		}
		wantNoWay(t, "one is lacking", p, way(slices.Delete(slices.Clone(good.From), at, at+1), good.Order...))
		for _, from := range nums(-3, -2, -1, 0, 3) {
			wantNoWay(t, "one too many", p, way(slices.Insert(slices.Clone(good.From), at, from), good.Order...))
		}
	}
	for _, from := range [][]int{nil, {}, good.From[:1], good.From[:10], append(slices.Clone(good.From), -2), slices.Repeat(good.From, 2), slices.Repeat(nums(-2), 11), slices.Repeat(nums(-1), 11), slices.Repeat(nums(-2), 100000)} {
		wantNoWay(t, "another From", p, way(from, good.Order...))
	}
}

// P25, P26: too few and too many places, and rows that are none.
func TestOrderAsTold(t *testing.T) {
	p := read(t, "store x 1, load x, store x 2 | give y 2, take y, wait | give x 3")
	from := nums(-2, 2, -2, -2, 3, -2, -2, -2)
	for _, row := range allRows(nums(0, 2, 7)) {
		if x := way(from, row, nums(3), nil); !impl.ExecOk(p, x) {
			t.Errorf("%s is refused", wayText(x))
		}
	}
	for name, order := range map[string][][]int{
		"none": nil, "of no places": {}, "of one place": {{0, 2, 7}}, "of two places": {{0, 2, 7}, {3}}, "of four places": {{0, 2, 7}, {3}, nil, nil}, "of four places with one more": {{0, 2, 7}, {3}, nil, {0}}, "of very many places": slices.Concat([][]int{{0, 2, 7}, {3}}, make([][]int, 1000)),
		"empty rows": {nil, nil, nil}, "one place is empty": {nil, {3}, nil}, "the other one is empty": {{0, 2, 7}, nil, nil}, "moved": {nil, {0, 2, 7}, {3}}, "turned": {{3}, {0, 2, 7}, nil},
		"lacks the first": {{2, 7}, {3}, nil}, "lacks one between": {{0, 7}, {3}, nil}, "lacks the last": {{0, 2}, {3}, nil},
		"one twice": {{0, 2, 2}, {3}, nil}, "one twice, one lacks": {{7, 7, 2}, {3}, nil}, "one twice, all there": {{0, 2, 7, 7}, {3}, nil}, "all twice": {{0, 2, 7, 0, 2, 7}, {3}, nil}, "the only one twice": {{0, 2, 7}, {3, 3}, nil}, "thrice": {{0, 0, 0}, {3}, nil},
		"of another place": {{0, 2, 3}, {3}, nil}, "of another place more": {{0, 2, 7, 3}, {3}, nil}, "at both places": {{0, 2, 7}, {7}, nil}, "exchanged": {{0, 2, 3}, {7}, nil}, "at a place that nobody writes": {{0, 2, 7}, {3}, {3}}, "of the place": {{0, 2, 7}, {3}, {0}},
		"a read": {{0, 2, 1}, {3}, nil}, "a read more": {{0, 2, 7, 1}, {3}, nil}, "a read of it": {{0, 2, 7}, {4}, nil}, "a read for a place": {{0, 2, 7}, {3}, {4}}, "who waits": {{0, 2, 5}, {3}, nil}, "who waits more": {{0, 2, 7}, {3, 6}, nil}, "who waits for a place": {{0, 2, 7}, {3}, {5}},
	} {
		wantNoWay(t, name, p, way(from, order...))
	}
	for _, at := range append(farNumbers(), 10) {
		for i := range 3 {
			row := nums(0, 2, 7)
			row[i] = at
			if slices.Contains(nums(0, 2, 7), at) && at != nums(0, 2, 7)[i] || !slices.Contains(nums(0, 2, 7), at) {
				wantNoWay(t, "for one", p, way(from, row, nums(3), nil))
			}
			wantNoWay(t, "one more", p, way(from, slices.Insert(nums(0, 2, 7), i, at), nums(3), nil))
		}
		wantNoWay(t, "in a row of none", p, way(from, nums(0, 2, 7), nums(3), nums(at)))
	}
}

// P25, P26: of small programs all that may be told at all, right or wrong, of From with rows that are right, and of rows with a From that is right.
func TestAllThatMayBeTold(t *testing.T) {
	for _, text := range []string{"", "load x", "store x 1", "wait", "load x, copy x", "store x 1, load x", "load x | store x 1", "store x 1, store x 2", "store x 1, store y 1", "in, out", "wall | take z", "load x, load y", "load x, copy y", "wait | store y 1", "load x, copy x, load x", "store x 1 | load x, copy x", "load x, load x, copy x"} {
		p := read(t, text)
		n := len(plainEvents(p))
		list := map[string]bool{}
		for _, x := range impl.ExecAll(p) {
			list[wayText(x)] = true
		}
		taken := map[string]bool{}
		check := func(x impl.Exec) {
			got := impl.ExecOk(p, x)
			s, ok := impl.ExecSeen(p, x)
			if got != list[wayText(x)] || ok != got || got != plainWayOk(p, x) || !got && !sameSeen(s, impl.Seen{}) {
				t.Fatalf("%s, %s: %v, seen %v, %v", text, wayText(x), got, s, ok)
			}
			if got {
				taken[wayText(x)] = true
			}
		}
		var numbers []int
		for at := -3; at <= n; at++ {
			numbers = append(numbers, at)
		}
		for _, x := range impl.ExecAll(p) {
			for _, from := range rows(n+1, numbers...) {
				check(way(from, x.Order...))
			}
			some := rows(2, numbers[2:]...)
			for _, a := range some {
				for _, b := range some {
					check(way(x.From, a, b, x.Order[2]))
					check(way(x.From, a, x.Order[1], b))
					check(way(x.From, x.Order[0], a, b))
				}
				check(way(x.From, a, a))
				check(way(x.From, a, x.Order[1], x.Order[2], a))
			}
		}
		if len(taken) != len(list) {
			t.Errorf("%s: %d ways are taken, of %d", text, len(taken), len(list))
		}
	}
}

// spoil changes one thing in a way, so that it may be none any more.
func spoil(r *rand.Rand, x impl.Exec) impl.Exec {
	x = copyWay(x)
	at := r.IntN(len(x.From) + 5)
	switch kind := r.IntN(9); {
	case kind < 4:
		if at < len(x.From) {
			x.From[at] = r.IntN(len(x.From)+4) - 3
		}
	case kind == 4 && at < len(x.From):
		x.From = slices.Delete(x.From, at, at+1)
	case kind == 5 && at <= len(x.From):
		x.From = slices.Insert(x.From, at, r.IntN(4)-2)
	case kind == 6:
		place := r.IntN(3)
		x.Order[place] = append(x.Order[place], r.IntN(len(x.From)+3)-2)
	case kind == 7:
		if row := x.Order[r.IntN(3)]; len(row) > 0 {
			row[r.IntN(len(row))] = r.IntN(len(x.From)+3) - 2
		}
	default:
		a, b := r.IntN(3), r.IntN(3)
		x.Order[a], x.Order[b] = x.Order[b], x.Order[a]
	}
	return x
}

// P25, P26: ways that are changed once or more often.
func TestJustWhatIsAmongAllIsOk(t *testing.T) {
	r := rand.New(rand.NewPCG(33, 34))
	taken, refused := 0, 0
	for _, p := range execPrograms() {
		list := impl.ExecAll(p)
		there := map[string]bool{}
		for _, x := range list {
			there[wayText(x)] = true
		}
		for range 20 {
			x := spoil(r, list[r.IntN(len(list))])
			if r.IntN(3) == 0 {
				x = spoil(r, x)
			}
			want := there[wayText(x)]
			s, ok := impl.ExecSeen(p, x)
			if impl.ExecOk(p, x) != want || plainWayOk(p, x) != want || ok != want {
				t.Fatalf("%v, %s: not %v", p, wayText(x), want)
			}
			if want {
				taken++
			} else {
				refused++
				if !sameSeen(s, impl.Seen{}) {
					t.Fatalf("%v, %s: %v is seen in no way", p, wayText(x), s)
				}
			}
		}
	}
	if taken < 1000 || refused < 1000 {
		t.Error(taken, refused)
	}
}

// P26: what is seen in ways that are told by hand.
func TestSeenOfWaysAsTold(t *testing.T) {
	for _, c := range []struct {
		text string
		x    impl.Exec
		want string
	}{
		{"", way(nil, nil, nil, nil), "/ 0 0 0"},
		{"wait", way(nums(-2, -2), nil, nil, nil), "/ 0 0 0"},
		{"load x", way(nums(-1), nil, nil, nil), "0 / 0 0 0"},
		{"store x 3", way(nums(-2), nums(0), nil, nil), "/ 3 0 0"},
		{"give z 2", way(nums(-2), nil, nil, nums(0)), "/ 0 0 2"},
		{"store x 1, load x", way(nums(-2, -1), nums(0), nil, nil), "0 / 1 0 0"},
		{"store x 1, load x", way(nums(-2, 0), nums(0), nil, nil), "1 / 1 0 0"},
		{"load x, store x 2", way(nums(1, -2), nums(1), nil, nil), "2 / 2 0 0"},
		{"store x 1, store x 2", way(nums(-2, -2), nums(0, 1), nil, nil), "/ 2 0 0"},
		{"store x 1, store x 2", way(nums(-2, -2), nums(1, 0), nil, nil), "/ 1 0 0"},
		{"store x 1, store x 2 | load x, wait", way(nums(-2, -2, 0, -2, -2), nums(0, 1), nil, nil), "1 / 2 0 0"},
		{"store x 1, store x 2 | load x, wait", way(nums(-2, -2, 1, -2, -2), nums(1, 0), nil, nil), "2 / 1 0 0"},
		{"store x 1 | store x 2 | store x 3", way(nums(-2, -2, -2), nums(1, 2, 0), nil, nil), "/ 1 0 0"},
		{"store x 1 | store x 2 | store x 3", way(nums(-2, -2, -2), nums(2, 0, 1), nil, nil), "/ 2 0 0"},
		{"load x, load y | store y 3, store x 1", way(nums(3, 2, -2, -2), nums(3), nums(2), nil), "1 3 / 1 3 0"},
		{"take y | wait, take x, give y 2 | store x 3", way(nums(4, -2, -2, 5, -2, -2), nums(5), nums(4), nil), "2 3 / 3 2 0"},
		{"load x, copy y", way(nums(-1, -2), nil, nums(1), nil), "0 / 0 0 0"},
		{"store x 3, load x, copy y", way(nums(-2, 0, -2), nums(0), nums(2), nil), "3 / 3 3 0"},
		{"store x 3, load x, copy x", way(nums(-2, 0, -2), nums(2, 0), nil, nil), "3 / 3 0 0"},
		{"store x 3, load x, copy y, copy z, load z", way(nums(-2, 0, -2, -2, 3), nums(0), nums(2), nums(3)), "3 3 / 3 3 3"},
		{"store x 3, load x, load y, copy z", way(nums(-2, 0, -1, -2), nums(0), nil, nums(3)), "3 0 / 3 0 0"},
		{"store x 3, load y, load x, copy z", way(nums(-2, -1, 0, -2), nums(0), nil, nums(3)), "0 3 / 3 0 3"},
		{"store x 3, load x, copy y, load z, copy z", way(nums(-2, 0, -2, -1, -2), nums(0), nums(2), nums(4)), "3 0 / 3 3 0"},
		{"load x, load y, copy x | store y 2", way(nums(2, 3, -2, -2), nums(2), nums(3), nil), "2 2 / 2 2 0"},
		{"load x, copy y | load y, copy z | store x 1", way(nums(4, -2, 1, -2, -2), nums(4), nums(1), nums(3)), "1 1 / 1 1 1"},
		{"load z, copy x | load x, copy y | store z 2, load y", way(nums(4, -2, 1, -2, -2, 3), nums(1), nums(3), nums(4)), "2 2 2 / 2 2 2"},
		{"load z, copy x | load x, copy y | store z 2, load y", way(nums(-1, -2, 1, -2, -2, 3), nums(1), nums(3), nums(4)), "0 0 0 / 0 0 2"},
		{"load x, copy x | load x, copy x | load x, copy x", way(nums(5, -2, 1, -2, -1, -2), nums(1, 3, 5), nil, nil), "0 0 0 / 0 0 0"},
	} {
		p := read(t, c.text)
		if s, ok := impl.ExecSeen(p, c.x); !ok || plainSeenText(s) != c.want || !impl.ExecOk(p, c.x) {
			t.Errorf("%s, %s: %v, %v, not %s", c.text, wayText(c.x), s, ok, c.want)
		}
	}
}

// P26 to P28: all ways of many programs.
func TestSeenOfAllWays(t *testing.T) {
	for _, p := range execPrograms() {
		for _, x := range impl.ExecAll(p) {
			s, ok := impl.ExecSeen(p, x)
			if !ok || !impl.SeenOk(p, s) {
				t.Fatalf("%v, %s: %v, %v is not of it", p, wayText(x), s, ok)
			}
			if want := plainSeenOf(p, x); !sameSeen(s, want) {
				t.Fatalf("%v, %s: %v, not %v", p, wayText(x), s, want)
			}
		}
	}
}

// readAt is what is seen of a read, by its event.
func readAt(events []plainEvent, s impl.Seen, at int) int {
	n := 0
	for _, e := range events[:at] {
		if isRead(e.do) {
			n++
		}
	}
	return s.Reads[n]
}

// wroteAt is what an event wrote, if that was seen.
func wroteAt(events []plainEvent, s impl.Seen, at int) int {
	if events[at].do.Kind == impl.DoCopy {
		return readAt(events, s, plainCopied(events, at))
	}
	return events[at].do.Val
}

// P27, P28: held against what was seen itself, one read and one place at a time.
func TestWhatIsReadAndThereAtLast(t *testing.T) {
	nobody, copied := 0, 0
	for _, p := range execPrograms() {
		events := plainEvents(p)
		for _, x := range impl.ExecAll(p) {
			s, _ := impl.ExecSeen(p, x)
			for i, e := range events {
				if !isRead(e.do) {
					continue
				}
				want := 0
				if from := x.From[i]; from >= 0 {
					want = wroteAt(events, s, from)
					if !isWrite(events[from].do) || events[from].do.Place != e.do.Place {
						t.Fatalf("%v, %s: %d reads from another place", p, wayText(x), i)
					}
					if events[from].do.Kind == impl.DoCopy && want > 0 {
						copied++
					}
				} else {
					nobody++
				}
				if got := readAt(events, s, i); got != want {
					t.Fatalf("%v, %s: %d reads %d, not %d", p, wayText(x), i, got, want)
				}
			}
			for place, row := range x.Order {
				want := 0
				if len(row) > 0 {
					want = wroteAt(events, s, row[len(row)-1])
				}
				if s.Last[place] != want {
					t.Fatalf("%v, %s: at %d there is %d, not %d", p, wayText(x), place, s.Last[place], want)
				}
			}
		}
	}
	if nobody < 1000 || copied < 500 {
		t.Error(nobody, copied)
	}
}

// P24, P26: all that machines come to is seen in some way.
func TestMachinesGoSomeWay(t *testing.T) {
	for _, p := range execPrograms() {
		there := map[string]bool{}
		for _, x := range impl.ExecAll(p) {
			s, _ := impl.ExecSeen(p, x)
			there[plainSeenText(s)] = true
		}
		for _, m := range machines() {
			for _, s := range m.all(p) {
				if !there[plainSeenText(s)] {
					t.Fatalf("%v, %s: %v is seen in no way", p, m.name, s)
				}
			}
		}
	}
}

// P23 to P26: of what is no program there is nothing, not even what would be told of it.
func TestWaysOfNoProgram(t *testing.T) {
	for name, p := range badPrograms() {
		if events, list := impl.ExecEvents(p), impl.ExecAll(p); len(events) != 0 || len(list) != 0 {
			t.Errorf("%s: events %v, ways %v", name, events, list)
		}
		events := plainEvents(p)
		would := impl.Exec{Order: [][]int{plainWriters(events, 0), plainWriters(events, 1), plainWriters(events, 2)}}
		nobody := copyWay(would)
		for _, e := range events {
			from := -2
			if isRead(e.do) {
				from = -1
			}
			would.From = append(would.From, from)
			nobody.From = append(nobody.From, -2)
		}
		for _, x := range []impl.Exec{would, nobody, {}, {Order: make([][]int, 3)}, {From: would.From}, {From: would.From, Order: make([][]int, 3)}} {
			wantNoWay(t, name, p, x)
		}
	}
}

// What is said once: the empty list and the nil list are the same.
func TestWaysTakeEmptyForNil(t *testing.T) {
	empty := make([]int, 0, 4)
	for _, p := range []impl.Prog{{}, {Threads: [][]impl.Do{}}, prog(nil), prog(thread(), nil), prog(nil, make([]impl.Do, 0, 3), thread())} {
		if events, list := impl.ExecEvents(p), impl.ExecAll(p); len(events) != 0 || len(list) != 1 || wayText(list[0]) != "[] [[] [] []]" {
			t.Errorf("%#v: events %v, ways %v", p, events, list)
		}
		for _, from := range [][]int{nil, {}, empty} {
			for _, row := range [][]int{nil, {}, empty} {
				x := way(from, row, nil, empty)
				if s, ok := impl.ExecSeen(p, x); !ok || plainSeenText(s) != "/ 0 0 0" || !impl.ExecOk(p, x) {
					t.Errorf("%#v, %#v: %v, %v", p, x, s, ok)
				}
			}
			wantNoWay(t, "no order", p, impl.Exec{From: from})
			wantNoWay(t, "an empty order", p, impl.Exec{From: from, Order: [][]int{}})
			wantNoWay(t, "an order of none", p, impl.Exec{From: from, Order: make([][]int, 0, 3)})
		}
		wantNoWay(t, "an event too many", p, way(nums(-2), nil, nil, nil))
	}
	p := read(t, "| load y, store y 2 |")
	for _, row := range [][]int{nil, {}, empty} {
		if x := way(nums(1, -2), row, nums(1), row); !impl.ExecOk(p, x) {
			t.Errorf("%#v is refused", x)
		}
		wantNoWay(t, "an empty row", p, way(nums(1, -2), row, row, row))
	}
}

// wideWay is the same way with spare room behind each list, in which other numbers stand.
func wideWay(x impl.Exec) impl.Exec {
	y := impl.Exec{From: wide(x.From)}
	for _, row := range x.Order {
		y.Order = append(y.Order, wide(row))
	}
	y.Order = append(y.Order, nums(-7), nums(-8))[:len(x.Order)]
	return y
}

func wideWayOk(x impl.Exec) bool {
	ok := wideOk(x.From)
	for _, row := range x.Order {
		ok = ok && wideOk(row)
	}
	n := len(x.Order)
	return ok && fmt.Sprint(x.Order[n:n+2]) == "[[-7] [-8]]"
}

// What is said once: nothing is written into an argument or behind its end.
func TestWayArgumentsStay(t *testing.T) {
	r := rand.New(rand.NewPCG(35, 36))
	check := func(p impl.Prog, list []impl.Exec) {
		q := wideProg(p)
		impl.ExecEvents(q)
		impl.ExecAll(q)
		for _, x := range list {
			y := wideWay(x)
			impl.ExecOk(q, y)
			impl.ExecSeen(q, y)
			if wayText(x) != wayText(y) || !wideWayOk(y) {
				t.Fatalf("%v: %s became %s", p, wayText(x), wayText(y))
			}
		}
		if !sameProg(p, q) || !wideProgOk(q) {
			t.Fatalf("%v became %v", p, q)
		}
	}
	for i, p := range execPrograms() {
		if i%4 != 0 {
			continue
		}
		all := impl.ExecAll(p)
		list := []impl.Exec{{}, all[0], all[len(all)-1], {From: all[0].From}}
		for range 6 {
			list = append(list, spoil(r, all[r.IntN(len(all))]))
		}
		check(p, list)
	}
	for _, p := range badPrograms() {
		check(p, []impl.Exec{{}, way(nums(-1), nil, nil, nil), way(nums(-2), nums(0), nil, nil)})
	}
}

// wayLists is all lists of numbers of ways.
func wayLists(list []impl.Exec) [][]int {
	var lists [][]int
	for _, x := range list {
		lists = append(append(lists, x.From), x.Order...)
	}
	return lists
}

// scribbleLists writes over all lists, spare room included, each with a number of its own, and says whether each kept its own.
func scribbleLists(lists [][]int) bool {
	for i, list := range lists {
		fillSeen(list, 1000+i)
	}
	for i, list := range lists {
		for _, v := range list[:cap(list)] {
			if v != 1000+i {
				return false
			}
		}
	}
	return true
}

// scribbleOrders does the same with the rows of Order.
func scribbleOrders(list []impl.Exec) bool {
	for i, x := range list {
		for j := range x.Order[:cap(x.Order)] {
			x.Order[:cap(x.Order)][j] = nums(i, j)
		}
	}
	for i, x := range list {
		for j, row := range x.Order[:cap(x.Order)] {
			if !slices.Equal(row, nums(i, j)) {
				return false
			}
		}
	}
	return true
}

// What is said once: an answer shares no memory with an argument or with another answer, and no two lists of one answer share any; nothing is kept.
func TestWayAnswersShareNothing(t *testing.T) {
	for i, p := range execPrograms() {
		if i%4 != 0 && i > 20 { // the first are those at the edges
			continue
		}
		arg := copyProg(p)
		got, again := impl.ExecAll(arg), impl.ExecAll(arg)
		want := wayTexts(again)
		x, asked := again[len(again)-1], copyWay(again[len(again)-1])
		one, _ := impl.ExecSeen(arg, x)
		two, _ := impl.ExecSeen(arg, x)
		wantOne := copySeens([]impl.Seen{two})[0]
		events, others := impl.ExecEvents(arg), impl.ExecEvents(arg)
		wantEvents := slices.Clone(others)
		for _, y := range got[len(got):cap(got)] {
			if y.From != nil || y.Order != nil {
				t.Fatalf("%v: %s stands in the spare room", p, wayText(y))
			}
		}
		if !scribbleLists(wayLists(got)) || !scribbleOrders(got) || !scribble([]impl.Seen{one}) {
			t.Fatalf("%v: lists of an answer share memory", p)
		}
		clear(got[:cap(got)])
		clear(events[:cap(events)])
		if !sameProg(arg, p) || !slices.Equal(wayTexts(again), want) || wayText(x) != wayText(asked) || !sameSeen(two, wantOne) || !slices.Equal(others, wantEvents) {
			t.Fatalf("%v: an answer shares memory", p)
		}
		after, _ := impl.ExecSeen(arg, x)
		if !slices.Equal(wayTexts(impl.ExecAll(arg)), want) || !sameSeen(after, wantOne) || !slices.Equal(impl.ExecEvents(arg), wantEvents) {
			t.Fatalf("%v: something is kept", p)
		}
	}
}
