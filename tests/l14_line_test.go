package tests

import (
	"fmt"
	"math/rand/v2"
	"slices"
	"strings"
	"testing"

	"loop.example/fathomline/impl"
)

// wayOfReads is a way, of whom each read is from; all wrote as the events stand, if it is not told.
func wayOfReads(p impl.Prog, reads []int, rows ...[]int) impl.Exec {
	events := plainEvents(p)
	x := impl.Exec{Order: rows}
	for _, e := range events {
		from := -2
		if isRead(e.do) {
			from, reads = reads[0], reads[1:]
		}
		x.From = append(x.From, from)
	}
	for place := len(rows); place < 3; place++ {
		x.Order = append(x.Order, plainWriters(events, place))
	}
	return x
}

// inOrder is, of each place, who wrote there.
func inOrder(rows ...[]int) [][]int { return rows }

// rowText is what OrderLine and OrderRing tell; beside a false there must be nothing.
func rowText(row []int, ok bool) string {
	if !ok && len(row) == 0 {
		return "no"
	}
	if !ok {
		return fmt.Sprint("false, but ", row)
	}
	return strings.Trim(fmt.Sprint(row), "[]")
}

func lineText(p impl.Prog, x impl.Exec, kind int) string { return rowText(impl.OrderLine(p, x, kind)) }

func ringText(p impl.Prog, x impl.Exec, kind int) string { return rowText(impl.OrderRing(p, x, kind)) }

// plainChosen goes through all rows of choices in order, as far as nothing goes round: the first that is left is what the document adds.
func plainChosen(links plainLinks, pairs []plainPair, n int) (plainLinks, bool) {
	if links.goesRound(n) {
		return nil, false
	}
	if len(pairs) == 0 {
		return links, true
	}
	for _, link := range [][2]int{{pairs[0].out, pairs[0].end}, {pairs[0].begin, pairs[0].in}} {
		if got, ok := plainChosen(links.and(plainLinks{link: true}), pairs[1:], n); ok {
			return got, true
		}
	}
	return nil, false
}

// fits says whether in a row none stands behind one that must be behind it.
func (l plainLinks) fits(row []int) bool {
	for link := range l {
		if slices.Index(row, link[0]) >= slices.Index(row, link[1]) {
			return false
		}
	}
	return true
}

// firstRow goes through all rows of numbers in order.
func (l plainLinks) firstRow(n int) []int {
	var row []int
	for at := range n {
		row = append(row, at)
	}
	for !l.fits(row) {
		nextRow(row)
	}
	return row
}

// rowByCounts is the same, for more numbers: how many are ahead of each is counted down.
func (l plainLinks) rowByCounts(n int) []int {
	ahead := make([]int, n)
	for link := range l {
		ahead[link[1]]++
	}
	var row []int
	for range n {
		at := slices.Index(ahead, 0)
		row = append(row, at)
		ahead[at] = -1
		for link := range l {
			if link[0] == at {
				ahead[link[1]]--
			}
		}
	}
	return row
}

// plainLine is told in the document's words; of few events all rows are gone through.
func plainLine(p impl.Prog, x impl.Exec, kind int) string {
	events := plainEvents(p)
	links, ok := plainChosen(plainOrder(p, x, kind), plainPairs(events), len(events))
	switch {
	case !ok || !plainPlacesOk(events, x):
		return "no"
	case len(events) <= 7:
		return rowText(links.firstRow(len(events)), true)
	}
	return rowText(links.rowByCounts(len(events)), true)
}

// ringsOf is all rows of that size that go on with a row and of which each leads to the next one, none twice, and the last one to the first, in order.
func (l plainLinks) ringsOf(n, size int, row []int) [][]int {
	if len(row) == size {
		if l[[2]int{row[size-1], row[0]}] {
			return [][]int{slices.Clone(row)}
		}
		return nil
	}
	var list [][]int
	for at := range n {
		if len(row) == 0 || l[[2]int{row[len(row)-1], at}] && !slices.Contains(row, at) {
			list = append(list, l.ringsOf(n, size, append(slices.Clone(row), at))...)
		}
	}
	return list
}

// plainRings is all of the shortest rings, each as often as it has events.
func plainRings(p impl.Prog, x impl.Exec, kind int) [][]int {
	n := len(plainEvents(p))
	links := plainOrder(p, x, kind)
	if !links.goesRound(n) {
		return nil
	}
	for size := 1; ; size++ {
		if list := links.ringsOf(n, size, nil); len(list) > 0 {
			return list
		}
	}
}

func plainRing(p impl.Prog, x impl.Exec, kind int) string {
	if list := plainRings(p, x, kind); len(list) > 0 {
		return rowText(list[0], true)
	}
	return "no"
}

// Programs in which who waits and readers must be put in order.
const (
	barredProg   = "in, store x 1, load y, out | load x, wait, store y 1"
	behindProg   = "in, store x 1, load y, out | in, load x, out | wait, wait, store y 1"
	bothWaitProg = "wait, in, out | wait, in, out"
)

// rowCase is what is told of one way by the three orders; "same" where it is that of the order ahead.
type rowCase struct {
	text                string
	reads               []int
	rows                [][]int
	strict, late, loose string
}

func (c rowCase) check(t *testing.T, tell func(impl.Prog, impl.Exec, int) string) {
	t.Helper()
	p := read(t, c.text)
	x := wayOfReads(p, c.reads, c.rows...)
	if !impl.ExecOk(p, x) {
		t.Errorf("%s: %s is no way", c.text, wayText(x))
	}
	want := c.strict
	for i, told := range []string{c.strict, c.late, c.loose} {
		if told != "same" {
			want = told
		}
		if got := tell(p, x, i+1); got != want {
			t.Errorf("%s, %s, order %d: %s, not %s", c.text, wayText(x), i+1, got, want)
		}
	}
}

// P51, P52: lines that are told by hand: of several the first.
func TestLinesAsTold(t *testing.T) {
	cross, pass := "store x 1, load y | store y 1, load x", "store x 1, store y 1 | load y, load x"
	for _, c := range []rowCase{
		{"", nil, nil, "", "same", "same"}, {"||", nil, nil, "", "same", "same"}, {"| wall |", nil, nil, "0", "same", "same"},
		{"wall", nil, nil, "0", "same", "same"}, {"load x", nums(-1), nil, "0", "same", "same"}, {"store z 3", nil, nil, "0", "same", "same"}, {"wait", nil, nil, "0 1", "same", "same"}, {"in, out", nil, nil, "0 1", "same", "same"},
		{"wall, wall | wall | wall, wall", nil, nil, "0 1 2 3 4", "same", "same"}, {"store x 1 | load y | store z 1", nums(-1), nil, "0 1 2", "same", "same"},
		{cross, nums(-1, -1), nil, "no", "1 2 3 0", "same"}, {cross, nums(-1, 0), nil, "0 1 2 3", "same", "same"}, {cross, nums(2, -1), nil, "2 3 0 1", "2 1 3 0", "same"}, {cross, nums(2, 0), nil, "0 2 1 3", "same", "same"},
		{pass, nums(-1, -1), nil, "2 3 0 1", "same", "2 1 3 0"}, {pass, nums(-1, 0), nil, "0 2 1 3", "same", "same"}, {pass, nums(1, -1), nil, "no", "same", "1 2 3 0"}, {pass, nums(1, 0), nil, "0 1 2 3", "same", "same"},
		{"load x, store y 1 | load y, store x 1", nums(3, 1), nil, "no", "same", "1 2 3 0"}, {"load x, copy y | load y, store x 1", nums(3, 1), nil, "no", "same", "3 0 1 2"},
		// by the loose order what does not stay in order is told by its places all the same
		{"store z 1, load x, load y", nums(-1, -1), nil, "0 1 2", "same", "same"}, {"load x, load y | store x 1, store y 1", nums(2, -1), nil, "2 0 1 3", "same", "1 2 0 3"}, {"load x, load y | store x 1, store y 1", nums(2, 3), nil, "2 0 3 1", "same", "same"},
		{"store x 1 | store x 2 | store x 3", nil, inOrder(nums(2, 1, 0)), "2 1 0", "same", "same"}, {"store x 1 | store x 2 | store x 3", nil, inOrder(nums(1, 2, 0)), "1 2 0", "same", "same"}, {"store x 1 | store x 2, load x", nums(0), inOrder(nums(1, 0)), "1 0 2", "same", "same"},
		// at one place all is in order, or there is no line
		{"store x 1, store x 2", nil, nil, "0 1", "same", "same"}, {"store x 1, store x 2", nil, inOrder(nums(1, 0)), "no", "same", "same"}, {"store x 1, load x", nums(-1), nil, "no", "same", "same"}, {"load x, store x 1", nums(1), nil, "no", "same", "same"}, {"store x 1 | load x, load x", nums(0, -1), nil, "no", "same", "same"},
		// one who waits and one reader: the first of the two can be added; only the second can; neither
		{"in, out | wait", nil, nil, "0 1 2 3", "same", "same"}, {"wait | in, out", nil, nil, "0 2 3 1", "same", "same"}, {"wait, wall | in, wall, out", nil, nil, "0 3 4 5 1 2", "same", "same"}, {"in, out, wait", nil, nil, "0 1 2 3", "same", "same"}, {"wait, in, out", nil, nil, "0 1 2 3", "same", "same"},
		{"in, load x, out | wait, store x 1", nums(5), nil, "3 0 4 5 1 2", "same", "same"}, {"in, load x, out | wait, store x 1", nums(-1), nil, "0 1 2 3 4 5", "same", "same"}, {"in, load x, out | store x 1, wait", nums(3), nil, "0 3 1 2 4 5", "same", "same"}, {"in, load x, out | store x 1, wait", nums(-1), nil, "0 1 2 3 4 5", "same", "same"},
		{"store x 1, wait | in, load x, out", nums(-1), nil, "3 4 0 1 5 2", "same", "same"}, {"store x 1, wait | in, load x, out", nums(0), nil, "0 1 3 4 5 2", "same", "same"}, {"wait, store x 1 | in, load x, out", nums(2), nil, "0 1 2 3 4 5", "same", "same"},
		{barredProg, nums(7, 1), nil, "no", "same", "same"}, {barredProg, nums(-1, 1), nil, "0 1 2 3 4 5 6 7", "same", "same"}, {barredProg, nums(7, -1), nil, "4 5 0 1 6 7 2 3", "same", "same"},
		{"in, load y, load x, out | store x 1, wait, store y 1", nums(7, -1), nil, "no", "same", "same"}, {"in, load y, out, load x | store x 1, wait, store y 1", nums(7, -1), nil, "no", "same", "3 4 5 0 6 7 1 2"},
		// the first can by itself, but not with the pairs behind it
		{behindProg, nums(11, 1), nil, "7 4 8 9 0 1 5 6 10 11 2 3", "same", "same"}, {behindProg, nums(11, -1), nil, "4 5 6 7 8 9 0 1 10 11 2 3", "same", "same"}, {behindProg, nums(-1, 1), nil, "0 1 2 3 4 5 6 7 8 9 10 11", "same", "same"}, {behindProg, nums(-1, -1), nil, "0 4 5 1 2 3 6 7 8 9 10 11", "0 2 4 5 1 3 6 7 8 9 10 11", "same"},
		// two who wait, and several readers: those who wait decide which pair is ahead
		{bothWaitProg, nil, nil, "0 4 5 6 7 1 2 3", "same", "same"}, {"in, out | wait | wait", nil, nil, "0 1 2 3 4 5", "same", "same"}, {"wait | wait | in, out", nil, nil, "0 2 4 5 1 3", "same", "same"}, {"wait, wait | in, out", nil, nil, "0 4 5 1 2 3", "same", "same"},
		{"wait | in, out | in, out", nil, nil, "0 2 3 4 5 1", "same", "same"}, {"wait | in, out, wait | in, out", nil, nil, "0 2 3 4 6 7 1 5", "same", "same"}, {"wait, in, out | wait, in, out | wait, in, out", nil, nil, "0 4 8 9 10 11 5 6 7 1 2 3", "same", "same"},
		// a reader that goes in and out several times
		{"in, out, in, out | wait | wait", nil, nil, "0 1 2 3 4 5 6 7", "same", "same"}, {"wait | in, out, in, out | wait", nil, nil, "0 2 3 4 5 1 6 7", "same", "same"}, {"in, load x, out, in, load y, out | store x 1, wait, store y 1", nums(-1, 9), nil, "0 1 2 6 7 3 8 9 4 5", "same", "same"},
		{"in, load y, out, in, load x, out | store x 1, wait, store y 1", nums(9, -1), nil, "no", "same", "3 4 5 6 7 0 8 9 1 2"}, {"in, out, wait, in, out | wait", nil, nil, "0 1 2 3 4 5 6 7", "same", "same"},
	} {
		c.check(t, lineText)
	}
}

// P55, P56: rings that are told by hand: of the shortest the first.
func TestRingsAsTold(t *testing.T) {
	cross, pass := "store x 1, load y | store y 1, load x", "store x 1, store y 1 | load y, load x"
	three := "store x 1, wall, load y | store y 1, wall, load z | store z 1, wall, load x"
	for _, c := range []rowCase{
		{"", nil, nil, "no", "same", "same"}, {"||", nil, nil, "no", "same", "same"}, {"wall", nil, nil, "no", "same", "same"}, {"load x", nums(-1), nil, "no", "same", "same"}, {"store z 3", nil, nil, "no", "same", "same"}, {"wait", nil, nil, "no", "same", "same"}, {"in, out", nil, nil, "no", "same", "same"},
		{cross, nums(-1, -1), nil, "0 1 2 3", "no", "same"}, {cross, nums(-1, 0), nil, "no", "same", "same"}, {cross, nums(2, -1), nil, "no", "same", "same"}, {cross, nums(2, 0), nil, "no", "same", "same"},
		{pass, nums(1, -1), nil, "0 1 2 3", "same", "no"}, {pass, nums(1, 0), nil, "no", "same", "same"}, {"store x 1, give y 1 | take y, load x", nums(1, -1), nil, "0 1 2 3", "same", "same"}, {"store x 1, give y 1 | load y, load x", nums(1, -1), nil, "0 1 2 3", "same", "no"},
		{"load x, store y 1 | load y, store x 1", nums(3, 1), nil, "0 1 2 3", "same", "no"}, {"load x, copy y | take y, store x 1", nums(3, 1), nil, "0 1 2 3", "same", "same"},
		// of two events; and where there is none, though it does not hold at one place
		{"store x 1, store x 2", nil, inOrder(nums(1, 0)), "0 1", "same", "no"}, {"give x 1, give x 2", nil, inOrder(nums(1, 0)), "0 1", "same", "no"}, {"store x 1, load x", nums(-1), nil, "0 1", "no", "same"}, {"load x, store x 1", nums(1), nil, "0 1", "no", "same"}, {"load x, copy x", nums(-1), nil, "no", "same", "same"},
		{"store x 1, wall, load x", nums(-1), nil, "0 2", "0 1 2", "no"}, {"load z, store x 1, store x 2", nums(-1), inOrder(nums(2, 1)), "1 2", "same", "no"}, {"wall | store x 1, store x 2", nil, inOrder(nums(2, 1)), "1 2", "same", "no"},
		// of three and of five, in two threads and in three
		{"store x 1 | load x, load x", nums(0, -1), nil, "0 1 2", "same", "no"}, {"store x 1 | take x, load x", nums(0, -1), nil, "0 1 2", "same", "same"}, {"load x, load x | store x 1", nums(2, -1), nil, "0 1 2", "same", "no"}, {"store x 1 | store x 2 | take x, load x", nums(1, 0), nil, "1 2 3", "same", "same"},
		{"store x 1 | load x, store y 1 | load y, load x", nums(0, 2, -1), nil, "0 1 2 3 4", "same", "no"}, {"store x 1 | take x, give y 1 | take y, load x", nums(0, 2, -1), nil, "0 1 2 3 4", "same", "same"}, {"take y, load x | take x, give y 1 | store x 1", nums(3, -1, 4), nil, "0 1 4 2 3", "same", "same"},
		// with walls, and with who waits
		{"store x 1, wall, load y | store y 1, wall, load x", nums(-1, -1), nil, "0 2 3 5", "0 1 2 3 4 5", "same"}, {"store x 1, wait, load y | store y 1, wait, load x", nums(-1, -1), nil, "0 3 4 7", "0 1 3 4 5 7", "same"}, {three, nums(-1, -1, -1), nil, "0 2 3 5 6 8", "0 1 2 3 4 5 6 7 8", "same"}, {"store x 1, wall, wall, load y | store y 1, wall, load x", nums(-1, -1), nil, "0 3 4 6", "0 1 3 4 5 6", "same"},
		{"in, load y, load x, out | store x 1, wait, store y 1", nums(7, -1), nil, "1 2 4 7", "same", "no"}, {barredProg, nums(7, 1), nil, "no", "same", "same"}, {behindProg, nums(11, 1), nil, "no", "same", "same"}, {bothWaitProg, nil, nil, "no", "same", "same"},
		// several of one size: the first, second, third or last event decides
		{"store x 1, store x 2, store x 3", nil, inOrder(nums(2, 1, 0)), "0 1", "same", "no"}, {"store x 1, store x 2, store x 3", nil, inOrder(nums(1, 2, 0)), "0 1", "same", "no"}, {"store x 1, store x 2, store x 3", nil, inOrder(nums(2, 0, 1)), "0 2", "same", "no"}, {"store x 1, store x 2, store x 3", nil, inOrder(nums(0, 2, 1)), "1 2", "same", "no"},
		{"store x 1, store x 2 | store y 1, store y 2", nil, inOrder(nums(1, 0), nums(3, 2)), "0 1", "same", "no"}, {"store x 1, store x 2 | store y 1, store y 2", nil, inOrder(nums(0, 1), nums(3, 2)), "2 3", "same", "no"},
		{"store x 1, load y, load y | store y 1, load x", nums(-1, -1, -1), nil, "0 1 3 4", "no", "same"}, {"store x 1, load y | store y 1, store y 2, load x", nums(-1, -1), nil, "0 1 2 4", "no", "same"}, {"store x 1, load y | store y 1, load x, load x", nums(-1, -1, -1), nil, "0 1 2 3", "no", "same"}, {"store x 1, store x 2, load y | store y 1, load x", nums(-1, -1), nil, "0 2 3 4", "no", "same"},
		{"store x 1, wall, load y, load y | store y 1, wall, load x", nums(-1, -1, -1), nil, "0 2 4 6", "0 1 2 4 5 6", "same"}, {"store x 1, wall, wall, load y | store y 1, wall, wall, load x", nums(-1, -1), nil, "0 3 4 7", "0 1 3 4 5 7", "same"},
		// of several sizes: the shortest, wherever it begins
		{"store x 1, load y | store y 1, load x | load z, store z 1", nums(-1, -1, 5), nil, "4 5", "no", "same"}, {pass + " | store z 1, store z 2", nums(1, -1), inOrder(nums(0), nums(1), nums(5, 4)), "4 5", "same", "no"}, {"store x 1, give y 1 | take y, load x | store z 1, store z 2", nums(1, -1), inOrder(nums(0), nums(1), nums(5, 4)), "4 5", "same", "0 1 2 3"},
		{"store x 1, load y | store y 1 | take y, load y, load x", nums(-1, 2, -1, -1), nil, "2 3 4", "same", "same"}, {"store x 1, wall, load y | store y 1, load x | give z 1, wall, take z", nums(-1, -1, -1), nil, "5 7", "5 6 7", "no"}, {"load x, store y 1 | load y, load y, store x 1", nums(4, 1, -1), nil, "1 2 3", "same", "no"},
	} {
		c.check(t, ringText)
	}
}

// lineWays is many programs, each with some of its ways.
func lineWays(most int, each func(p impl.Prog, x impl.Exec)) {
	for i, p := range orderPrograms() {
		if i%2 != 0 && i > 200 && len(plainPairs(plainEvents(p))) == 0 { // the first are those at the edges
			continue
		}
		for _, x := range someWays(p, most) {
			each(p, x)
		}
	}
}

// P51, P52: of many programs, held against the second telling.
func TestLines(t *testing.T) {
	counts := map[string]int{}
	lineWays(6, func(p impl.Prog, x impl.Exec) {
		for _, kind := range orders() {
			got, want := lineText(p, x, kind), plainLine(p, x, kind)
			if got != want {
				t.Fatalf("%v, %s, order %d: %s, not %s", p, wayText(x), kind, got, want)
			}
			counts[fmt.Sprint(kind, got != "no")]++
		}
	})
	for _, name := range []string{"1 true", "1 false", "2 true", "2 false", "3 true", "3 false"} {
		if counts[name] < 1000 {
			t.Error(counts)
		}
	}
}

// pairKinds is, of a way that has a line, how each pair of who waits and a reader is put in order: "first", "second" or, where the first can be added by itself, but not with the pairs behind it, "behind".
func pairKinds(p impl.Prog, x impl.Exec, kind int) []string {
	events := plainEvents(p)
	links, pairs := plainOrder(p, x, kind), plainPairs(events)
	var list []string
	for i, pair := range pairs {
		first := links.and(plainLinks{{pair.out, pair.end}: true})
		_, ok := plainChosen(first, pairs[i+1:], len(events))
		switch {
		case ok:
			list, links = append(list, "first"), first
			continue
		case first.goesRound(len(events)):
			list = append(list, "second")
		default:
			list = append(list, "behind")
		}
		links = links.and(plainLinks{{pair.begin, pair.in}: true})
	}
	return list
}

// nestedProg is a program that is ok, of two readers of which one may begin what the other ends, and one who waits twice.
func nestedProg(r *rand.Rand) impl.Prog {
	one := slices.Concat(thread(in(), store(0, 1)), times(r.IntN(2), wall()), thread(load(1), out()))
	other := slices.Concat(thread(in()), times(r.IntN(2), load(2)), thread(load(0), out()))
	waits := slices.Concat(times(2+r.IntN(2), wait()), thread(store(1, 1)), times(r.IntN(2), store(2, 2)))
	list := [][]impl.Do{one, other, waits}
	r.Shuffle(len(list), func(i, j int) { list[i], list[j] = list[j], list[i] })
	return prog(list...)
}

// P51, P52, P54: pairs of who waits and a reader of each kind, all ways.
func TestPairsInLines(t *testing.T) {
	counts := map[string]int{}
	r := rand.New(rand.NewPCG(51, 52))
	list := []impl.Prog{read(t, behindProg), read(t, barredProg), read(t, bothWaitProg)}
	for range 60 {
		list = append(list, nestedProg(r), meetingProg(r))
	}
	for _, p := range list {
		for _, x := range someWays(p, 40) {
			for _, kind := range orders() {
				got, want := lineText(p, x, kind), plainLine(p, x, kind)
				if got != want {
					t.Fatalf("%v, %s, order %d: %s, not %s", p, wayText(x), kind, got, want)
				}
				if got == "no" {
					counts["no"]++
					continue
				}
				for _, name := range pairKinds(p, x, kind) {
					counts[name]++
				}
			}
		}
	}
	for _, name := range []string{"no", "first", "second", "behind"} {
		if counts[name] < 50 {
			t.Error(counts)
		}
	}
}

// P51, P52: in a line each event stands once, and behind none that must be behind it by itself; there is one just if it holds.
func TestInALineEachStandsOnce(t *testing.T) {
	lines := 0
	lineWays(5, func(p impl.Prog, x impl.Exec) {
		for _, kind := range orders() {
			line, ok := impl.OrderLine(p, x, kind)
			if ok != impl.OrderHolds(p, x, kind) || !ok && len(line) != 0 {
				t.Fatalf("%v, %s, order %d: %v, %v", p, wayText(x), kind, line, ok)
			}
			if !ok {
				continue
			}
			sorted := slices.Sorted(slices.Values(line))
			for i, at := range sorted {
				if i != at || len(sorted) != len(plainEvents(p)) {
					t.Fatalf("%v, %s, order %d: %v", p, wayText(x), kind, line)
				}
			}
			for i, b := range line {
				for _, a := range line[:i] {
					if impl.OrderHas(p, x, kind, b, a) {
						t.Fatalf("%v, %s, order %d: %d must be ahead of %d: %v", p, wayText(x), kind, b, a, line)
					}
				}
			}
			lines++
		}
	})
	if lines < 5000 {
		t.Error(lines)
	}
}

// turnsOf is the threads whose turn it is in a line.
func turnsOf(p impl.Prog, line []int) []int {
	var turns []int
	for _, at := range line {
		turns = append(turns, plainEvents(p)[at].Thread)
	}
	return turns
}

// P53: with turns as in a strict line the strict machine sees what the way does, over programs of all kinds of steps.
func TestTurnsAsInALine(t *testing.T) {
	kinds := map[int]int{}
	check := func(p impl.Prog, x impl.Exec) {
		line, ok := impl.OrderLine(p, x, impl.OrderStrict)
		if !ok {
			return
		}
		turns := turnsOf(p, line)
		want, _ := impl.ExecSeen(p, x)
		if got, ok := impl.MachSome(p, turns); !ok || !sameSeen(got, want) {
			t.Fatalf("%v, %s, turns %v: %v, %v, not %v", p, wayText(x), turns, got, ok, want)
		}
		if got, ok := plainRun(p, turns, false); !ok || !sameSeen(got, want) {
			t.Fatalf("%v, %s, turns %v of the second telling: %v, %v, not %v", p, wayText(x), turns, got, ok, want)
		}
		for _, e := range plainEvents(p) {
			kinds[e.do.Kind]++
		}
	}
	lineWays(40, check)
	r := rand.New(rand.NewPCG(53, 54))
	for range 300 {
		for _, p := range []impl.Prog{randomProg(r), waitingProg(r), nestedProg(r), copyingProg(r)} {
			for _, x := range someWays(p, 20) {
				check(p, x)
			}
		}
	}
	for kind := impl.DoStore; kind <= impl.DoWait; kind++ {
		if kinds[kind] < 1000 {
			t.Error(kinds)
		}
	}
}

// P54: in no line, by any order, a reader is in from ahead of the beginning of waiting to behind its end.
func TestNoReaderStaysInWhileOneWaits(t *testing.T) {
	before, since := 0, 0
	check := func(p impl.Prog, x impl.Exec) {
		pairs := plainPairs(plainEvents(p))
		for _, kind := range orders() {
			line, ok := impl.OrderLine(p, x, kind)
			if !ok {
				continue
			}
			for _, pair := range pairs {
				out, end := slices.Index(line, pair.out), slices.Index(line, pair.end)
				begin, in := slices.Index(line, pair.begin), slices.Index(line, pair.in)
				if in > out || begin > end || in < begin && end < out {
					t.Fatalf("%v, %s, order %d: a reader of %d to %d is in from ahead of %d to behind %d: %v", p, wayText(x), kind, pair.in, pair.out, pair.begin, pair.end, line)
				}
				if in < begin && begin < out {
					before++
				}
				if begin < in && in < end && end < out {
					since++
				}
			}
		}
	}
	for _, p := range orderPrograms() {
		if len(plainPairs(plainEvents(p))) > 0 {
			for _, x := range someWays(p, 25) {
				check(p, x)
			}
		}
	}
	r := rand.New(rand.NewPCG(55, 56))
	for range 300 {
		for _, p := range []impl.Prog{waitingProg(r), meetingProg(r), nestedProg(r)} {
			for _, x := range someWays(p, 15) {
				check(p, x)
			}
		}
	}
	if before < 100 || since < 100 {
		t.Error(before, since)
	}
}

// P55, P56: of many programs, held against the second telling.
func TestRings(t *testing.T) {
	sizes, several := map[int]int{}, 0
	lineWays(6, func(p impl.Prog, x impl.Exec) {
		for _, kind := range orders() {
			got, want := ringText(p, x, kind), plainRing(p, x, kind)
			if got != want {
				t.Fatalf("%v, %s, order %d: %s, not %s", p, wayText(x), kind, got, want)
			}
			if got != "no" {
				size := len(strings.Fields(got))
				sizes[size]++
				if len(plainRings(p, x, kind)) > size {
					several++
				}
			}
		}
	})
	if sizes[2] < 1000 || sizes[3] < 300 || sizes[4] < 100 || sizes[5] < 20 || sizes[6] < 20 || several < 500 {
		t.Error(sizes, several)
	}
}

// P55, P56: in a ring each must be ahead of the next by itself; it has two events at least, none twice, the least first; where there is one it does not hold, and by the strict order, if nobody waits, just then.
func TestWhereThereIsARing(t *testing.T) {
	rings, waits, none := 0, 0, 0
	lineWays(8, func(p impl.Prog, x impl.Exec) {
		waiting := slices.ContainsFunc(p.Threads, func(steps []impl.Do) bool { return has(steps, impl.DoWait) })
		for _, kind := range orders() {
			ring, ok := impl.OrderRing(p, x, kind)
			holds := impl.OrderHolds(p, x, kind)
			if ok && holds || !ok && len(ring) != 0 || kind == impl.OrderStrict && !waiting && ok == holds {
				t.Fatalf("%v, %s, order %d: %v, %v, and it holds: %v", p, wayText(x), kind, ring, ok, holds)
			}
			if !ok {
				if waiting && kind == impl.OrderStrict && !holds {
					waits++
				}
				none++
				continue
			}
			rings++
			if len(ring) < 2 || slices.Min(ring) != ring[0] || len(slices.Compact(slices.Sorted(slices.Values(ring)))) != len(ring) {
				t.Fatalf("%v, %s, order %d: %v", p, wayText(x), kind, ring)
			}
			for i, at := range ring {
				if next := ring[(i+1)%len(ring)]; !impl.OrderHas(p, x, kind, at, next) {
					t.Fatalf("%v, %s, order %d: %v: %d need not be ahead of %d", p, wayText(x), kind, ring, at, next)
				}
			}
		}
	})
	if rings < 3000 || none < 3000 || waits < 10 {
		t.Error(rings, none, waits)
	}
}

// wantNoLine says that there is neither a line nor a ring.
func wantNoLine(t *testing.T, name string, p impl.Prog, x impl.Exec, kind int) {
	t.Helper()
	if line, ring := lineText(p, x, kind), ringText(p, x, kind); line != "no" || ring != "no" {
		t.Errorf("%s: %v, %s, order %d: line %s, ring %s", name, p, wayText(x), kind, line, ring)
	}
}

// P52, P56: programs that are not ok, by each order and by none.
func TestLinesOfNoProgram(t *testing.T) {
	for name, p := range badPrograms() {
		for _, kind := range append(orders(), 0, -1, 4) {
			for _, x := range wouldBeWays(p) {
				wantNoLine(t, name, p, x, kind)
			}
		}
	}
	// a ring, if they were programs
	for _, kind := range orders() {
		wantNoLine(t, "four threads", prog(thread(store(0, 1), store(0, 2)), nil, nil, nil), way(nums(-2, -2), nums(1, 0), nil, nil), kind)
		wantNoLine(t, "seven writes", prog(times(7, store(0, 1))), way(slices.Repeat(nums(-2), 7), nums(6, 5, 4, 3, 2, 1, 0), nil, nil), kind)
		wantNoLine(t, "stays in", prog(thread(in(), store(0, 1), store(0, 2))), way(nums(-2, -2, -2), nums(2, 1), nil, nil), kind)
	}
}

// P52, P56: by what is no order there is neither.
func TestLinesByNoOrder(t *testing.T) {
	for _, text := range []string{"", "||", "wall", "wait", "store x 1, load x", "store x 1, store x 2", "store x 1, store y 1 | load y, load x", "in, load y, load x, out | store x 1, wait, store y 1", "load x, copy y | take y, give x 1"} {
		p := read(t, text)
		for _, x := range impl.ExecAll(p) {
			for _, kind := range noOrders() {
				wantNoLine(t, text, p, x, kind)
			}
		}
	}
}

// P52, P56: ways that are none.
func TestLinesOfNoWay(t *testing.T) {
	for name, c := range noWays(t) {
		for _, kind := range orders() {
			wantNoLine(t, name, c.p, c.x, kind)
		}
	}
	r := rand.New(rand.NewPCG(57, 58))
	refused := 0
	for i, p := range orderPrograms() {
		if i%3 != 0 {
			continue
		}
		list := impl.ExecAll(p)
		for range 4 {
			x := spoil(r, list[r.IntN(len(list))])
			if plainWayOk(p, x) {
				continue
			}
			refused++
			for _, kind := range orders() {
				wantNoLine(t, "changed", p, x, kind)
			}
		}
	}
	if refused < 1000 {
		t.Error(refused)
	}
}

// P51 to P56: each limit of the table met exactly; one more is refused (TestLinesOfNoProgram).
func TestLinesAtTheLimits(t *testing.T) {
	for _, p := range limitProgs() {
		for _, x := range someWays(p, 30) {
			for _, kind := range orders() {
				if got, want := lineText(p, x, kind), plainLine(p, x, kind); got != want {
					t.Errorf("%v, %s, order %d: line %s, not %s", p, wayText(x), kind, got, want)
				}
				if got, want := ringText(p, x, kind), plainRing(p, x, kind); got != want {
					t.Errorf("%v, %s, order %d: ring %s, not %s", p, wayText(x), kind, got, want)
				}
			}
		}
	}
	p := prog(times(7, wait()), times(7, wait()))
	for _, kind := range orders() {
		if got := lineText(p, impl.ExecAll(p)[0], kind); got != "0 1 2 3 4 5 6 7 8 9 10 11 12 13 14 15 16 17 18 19 20 21 22 23 24 25 26 27" {
			t.Errorf("28 events, order %d: %s", kind, got)
		}
	}
	q := prog(times(7, wait()), append(times(5, wait()), store(0, 1), store(0, 2)))
	for _, kind := range orders() {
		if got, want := ringText(q, wayOfReads(q, nil, nums(25, 24)), kind), []string{"24 25", "24 25", "no"}[kind-1]; got != want {
			t.Errorf("26 events, order %d: %s, not %s", kind, got, want)
		}
	}
}

// P51 to P54: as many who wait, and readers, as there may be, and found soon.
func TestLinesOfManyWhoWait(t *testing.T) {
	for _, text := range []string{
		"in, out, in, out, in, out, wait | wait, wait, wait, wait, wait, in, out",
		"wait, wait, wait, wait, wait, wait, wait | in, out, in, out, in, out, wait",
		"wait, wait, wait, wait, in, out | wait, wait, in, out, in, out | in, out",
		"in, out, in, out, in, out | in, out, wait, wait | wait, wait, wait, wait",
		"wait, in, out, in, out | wait, in, out, wait | wait, in, out, wait, wait",
		"wait, in, out, wait | wait, in, out, wait, in, out | in, out, wait, wait",
	} {
		p := read(t, text)
		x := wayOfReads(p, nil)
		for _, kind := range orders() {
			got, want := lineText(p, x, kind), plainLine(p, x, kind)
			if got != want || got == "no" {
				t.Errorf("%s, order %d: %s, not %s", text, kind, got, want)
			}
		}
		line, _ := impl.OrderLine(p, x, impl.OrderStrict)
		if got, ok := impl.MachSome(p, turnsOf(p, line)); !ok || !sameSeen(got, seen(nil, 0, 0, 0)) {
			t.Errorf("%s: %v: %v, %v", text, line, got, ok)
		}
	}
}

// What is said once: the empty list and the nil list are the same.
func TestLinesTakeEmptyForNil(t *testing.T) {
	empty := make([]int, 0, 4)
	for _, p := range []impl.Prog{{}, {Threads: [][]impl.Do{}}, prog(nil), prog(thread(), nil), prog(nil, make([]impl.Do, 0, 3), thread())} {
		for _, kind := range orders() {
			for _, from := range [][]int{nil, {}, empty} {
				for _, row := range [][]int{nil, {}, empty} {
					x := way(from, row, nil, empty)
					if line, ring := lineText(p, x, kind), ringText(p, x, kind); line != "" || ring != "no" {
						t.Errorf("%#v, %#v, order %d: line %s, ring %s", p, x, kind, line, ring)
					}
				}
				wantNoLine(t, "no order of writes", p, impl.Exec{From: from}, kind)
				wantNoLine(t, "an empty order of writes", p, impl.Exec{From: from, Order: [][]int{}}, kind)
			}
		}
	}
	a, b := prog(nil, thread(store(1, 1), store(1, 2)), nil), prog(thread(), thread(store(1, 1), store(1, 2)), make([]impl.Do, 0, 3))
	for _, p := range []impl.Prog{a, b} {
		for _, row := range [][]int{nil, {}, empty} {
			for _, kind := range orders() {
				if got := lineText(p, way(nums(-2, -2), row, nums(0, 1), row), kind); got != "0 1" {
					t.Errorf("%#v, %#v, order %d: line %s", p, row, kind, got)
				}
				if got := ringText(p, way(nums(-2, -2), row, nums(1, 0), row), kind); got != []string{"0 1", "0 1", "no"}[kind-1] {
					t.Errorf("%#v, %#v, order %d: ring %s", p, row, kind, got)
				}
			}
		}
	}
}

// What is said once: nothing is written into an argument or behind its end.
func TestLineArgumentsStay(t *testing.T) {
	r := rand.New(rand.NewPCG(59, 60))
	check := func(p impl.Prog, list []impl.Exec) {
		q := wideProg(p)
		for _, kind := range append(orders(), 0) {
			for _, x := range list {
				y := wideWay(x)
				impl.OrderLine(q, y, kind)
				impl.OrderRing(q, y, kind)
				if wayText(x) != wayText(y) || !wideWayOk(y) {
					t.Fatalf("%v: %s became %s", p, wayText(x), wayText(y))
				}
			}
		}
		if !sameProg(p, q) || !wideProgOk(q) {
			t.Fatalf("%v became %v", p, q)
		}
	}
	for _, p := range orderPrograms() {
		list := someWays(p, 4)
		check(p, append(list, impl.Exec{}, impl.Exec{From: list[0].From}, spoil(r, list[0])))
	}
	for _, p := range badPrograms() {
		check(p, []impl.Exec{{}, way(nums(-1), nil, nil, nil), way(nums(-2), nums(0), nil, nil)})
	}
}

// What is said once: an answer shares no memory with an argument or with another answer; nothing is kept.
func TestLineAnswersShareNothing(t *testing.T) {
	tells := []func(impl.Prog, impl.Exec, int) ([]int, bool){impl.OrderLine, impl.OrderRing}
	for _, p := range orderPrograms() {
		arg := copyProg(p)
		for _, x := range someWays(p, 2) {
			y := copyWay(x)
			for _, kind := range orders() {
				for _, tell := range tells {
					got, ok := tell(arg, y, kind)
					again, _ := tell(arg, y, kind)
					want := rowText(again, ok)
					if rowText(got, ok) != want {
						t.Fatalf("%v, %s, order %d: %v, then %v", p, wayText(x), kind, got, again)
					}
					spare := again[len(again):cap(again)]
					for i := range spare {
						spare[i] = 5
					}
					for i := range got[:cap(got)] {
						got[:cap(got)][i] = -9
					}
					third, ok := tell(arg, y, kind)
					if slices.Contains(spare, -9) || rowText(again, ok) != want || rowText(third, ok) != want || !sameProg(arg, p) || wayText(x) != wayText(y) {
						t.Fatalf("%v, %s, order %d: an answer shares memory, or something is kept", p, wayText(x), kind)
					}
				}
			}
		}
	}
}
