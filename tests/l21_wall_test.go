package tests

import (
	"fmt"
	"math"
	"math/rand/v2"
	"runtime"
	"slices"
	"strings"
	"sync"
	"testing"
	"time"

	"loop.example/fathomline/impl"
)

// putText is what WallPut and WallAll tell, a line for all; beside a false there must be nothing.
func putText(p impl.Prog, ok bool) string {
	switch {
	case !ok && len(p.Threads) == 0:
		return "no"
	case !ok:
		return fmt.Sprint("false, but ", p)
	}
	var threads []string
	for _, steps := range p.Threads {
		text := strings.TrimPrefix(plainText(prog(steps)), "thread\n")
		threads = append(threads, strings.ReplaceAll(strings.TrimSuffix(text, "\n"), "\n", ", "))
	}
	return strings.Join(threads, " | ")
}

func putWalls(p impl.Prog, gaps []int) string { return putText(impl.WallPut(p, gaps)) }

func putAll(p impl.Prog) string { return putText(impl.WallAll(p)) }

func fewWalls(p impl.Prog, kind int) string { return rowText(impl.WallFew(p, kind)) }

// gapAt is where a wall at a gap stands: in which thread, and ahead of which step.
func gapAt(p impl.Prog, gap int) (int, int) {
	for at, steps := range p.Threads {
		for i := 1; i < len(steps); i++ {
			if gap == 0 {
				return at, i
			}
			gap--
		}
	}
	return -1, -1
}

func plainGaps(p impl.Prog) int {
	n := 0
	for {
		if at, _ := gapAt(p, n); at < 0 {
			return n
		}
		n++
	}
}

// plainPut puts walls in one by one, the last first, so that the places of the others stay.
func plainPut(p impl.Prog, gaps []int) (impl.Prog, bool) {
	q := copyProg(p)
	for _, gap := range slices.Backward(gaps) {
		at, i := gapAt(p, gap)
		q.Threads[at] = slices.Insert(q.Threads[at], i, wall())
	}
	if !plainOk(q) {
		return impl.Prog{}, false
	}
	return q, true
}

// someGaps is all choices of that many gaps, in no order that matters.
func someGaps(n int) [][]int {
	var list [][]int
	for choice := range 1 << n {
		var gaps []int
		for gap := range n {
			if choice>>gap&1 == 1 {
				gaps = append(gaps, gap)
			}
		}
		list = append(list, gaps)
	}
	return list
}

// plainOrderAll is told by all ways counted through, and all rows of choices.
func plainOrderAll(p impl.Prog, kind int) []impl.Seen {
	var list []impl.Seen
	for _, x := range plainWays(p) {
		if plainHolds(p, x, kind) {
			list = append(list, plainSeenOf(p, x))
		}
	}
	return plainSort(list)
}

// plainFew goes through all choices of gaps, of whatever size, and tells the one that stands ahead of all others that are enough, and how many of its size are.
func plainFew(p impl.Prog, kind int, all func(impl.Prog, int) []impl.Seen) (string, int) {
	want := all(p, impl.OrderStrict)
	var enough [][]int
	for _, gaps := range someGaps(plainGaps(p)) {
		if q, ok := plainPut(p, gaps); ok && sameSeens(all(q, kind), want) {
			enough = append(enough, gaps)
		}
	}
	if len(enough) == 0 {
		return "no", 0
	}
	first := slices.MinFunc(enough, func(a, b []int) int {
		if len(a) != len(b) {
			return len(a) - len(b)
		}
		return slices.Compare(a, b)
	})
	as := 0
	for _, gaps := range enough {
		if len(gaps) == len(first) {
			as++
		}
	}
	return rowText(first, true), as
}

// shortProg is a program that is ok, with at most five gaps, of threads that use two places in turn, so that many walls are needed; here and there something else stands between.
func shortProg(r *rand.Rand) impl.Prog {
	for {
		var p impl.Prog
		sizes := [][]int{{2, 2}, {3, 2}, {3, 3}, {4, 2}, {2, 2, 2}, {3, 2, 1}, {2, 4}}[r.IntN(7)]
		for _, n := range sizes {
			var steps []impl.Do
			a, turns := r.IntN(2), r.IntN(2) == 0
			for i := range n {
				place, v := (a+i)%2, 1+r.IntN(3)
				if len(sizes) == 3 && r.IntN(4) == 0 {
					place = 2
				}
				pick := r.IntN(6)
				if turns { // a write and a read in turn, which the late order does not keep
					pick = 2*r.IntN(3) + (i+1)%2
				}
				steps = append(steps, []impl.Do{load(place), store(place, v), load(place), store(place, v), take(place), give(place, v)}[pick])
			}
			if at := r.IntN(len(steps) + 1); r.IntN(3) == 0 {
				steps = slices.Insert(steps, at, [][]impl.Do{{wall()}, {wait()}, {in(), out()}, {load(2)}}[r.IntN(4)]...)
			}
			p.Threads = append(p.Threads, steps)
		}
		if plainOk(p) && plainGaps(p) <= 5 {
			return p
		}
	}
}

// shortPrograms is programs that are ok, with at most five gaps: of all kinds, and those that need walls.
var shortPrograms = sync.OnceValue(func() []impl.Prog {
	list := slices.Clone(orderPrograms())
	list = slices.DeleteFunc(list, func(p impl.Prog) bool { return plainGaps(p) > 5 || mostWays(p) > 200 })
	r := rand.New(rand.NewPCG(71, 72))
	for range 900 {
		list = append(list, shortProg(r))
	}
	return list
})

// wallPrograms is programs that are ok, with any number of gaps: those at the edges, one in so many of all kinds, some of those that need walls, and these with all of them but one.
func wallPrograms(oneIn int) []impl.Prog {
	var list []impl.Prog
	for i, p := range orderPrograms() {
		if i < 200 || i%oneIn == 0 { // the first are those at the edges
			list = append(list, p)
		}
	}
	short := shortPrograms()
	for _, p := range short[len(short)-400:] {
		list = append(list, p)
		for _, kind := range nums(impl.OrderLate, impl.OrderLoose) {
			gaps, _ := impl.WallFew(p, kind)
			if q, ok := plainPut(p, gaps[:max(len(gaps)-1, 0)]); ok && len(gaps) > 1 {
				list = append(list, q)
			}
		}
	}
	return list
}

// P69: how many there are, told by hand.
func TestGapsAsTold(t *testing.T) {
	for text, want := range map[string]int{
		"": 0, "|": 0, "||": 0, "wall": 0, "wait": 0, "store x 1 | load x | wall": 0, "| take z |": 0,
		"store x 1, load x": 1, "in, out": 1, "| wait, wait": 1, "wall, wall || wall": 1, crossProg: 2, "store x 1, load y || store y 1, load x": 2, waitProg: 5,
		"store x 1, load y | wall | store y 1, load x, wall": 3, "wall, wall, wall, wall, wall, wall, wall": 6,
	} {
		if got := impl.WallGaps(read(t, text)); got != want {
			t.Errorf("%s: %d, not %d", text, got, want)
		}
	}
	if got := impl.WallGaps(impl.Prog{}); got != 0 {
		t.Errorf("no threads: %d", got)
	}
	for name, p := range badPrograms() {
		if got := impl.WallGaps(p); got != -1 {
			t.Errorf("%s: %d", name, got)
		}
	}
}

// P69: as many as steps, less threads that have any.
func TestGapsAreStepsLessThreads(t *testing.T) {
	counts := map[int]int{}
	for _, p := range append(somePrograms(), limitProgs()...) {
		threads := slices.DeleteFunc(slices.Clone(p.Threads), func(steps []impl.Do) bool { return len(steps) == 0 })
		want := len(slices.Concat(p.Threads...)) - len(threads)
		if got := impl.WallGaps(p); got != want || got != plainGaps(p) {
			t.Fatalf("%v: %d, not %d", p, got, want)
		}
		counts[want]++
	}
	for n := range 13 {
		if counts[n] == 0 {
			t.Error(n, counts)
		}
	}
}

// P70, P71: walls at no place, at the first, at the last, at some and at all, told by hand.
func TestWallsAsTold(t *testing.T) {
	const three = "store x 1, load y, copy z | wall | load z, give y 3"
	for _, c := range []struct {
		text string
		gaps []int
		want string
	}{
		{"", nil, ""}, {"||", nil, " |  | "}, {"wall", nil, "wall"}, {"wall", nums(0), "no"}, {"", nums(0), "no"}, {"load x | load y | load z", nums(0), "no"},
		{crossProg, nil, crossProg}, {crossProg, nums(0), "store x 1, wall, load y | store y 1, load x"}, {crossProg, nums(1), "store x 1, load y | store y 1, wall, load x"}, {crossProg, nums(0, 1), "store x 1, wall, load y | store y 1, wall, load x"}, {crossProg, nums(2), "no"},
		{three, nil, three}, {three, nums(0), "store x 1, wall, load y, copy z | wall | load z, give y 3"}, {three, nums(1), "store x 1, load y, wall, copy z | wall | load z, give y 3"}, {three, nums(2), "store x 1, load y, copy z | wall | load z, wall, give y 3"}, {three, nums(0, 2), "store x 1, wall, load y, copy z | wall | load z, wall, give y 3"}, {three, nums(0, 1, 2), "store x 1, wall, load y, wall, copy z | wall | load z, wall, give y 3"}, {three, nums(3), "no"},
		// a thread of no steps between, and threads between which there is no room
		{"store x 1, load y || store y 1, load x", nums(1), "store x 1, load y |  | store y 1, wall, load x"}, {"| store x 1, load y |", nums(0), " | store x 1, wall, load y | "}, {"wall | wait | in, out", nums(0), "wall | wait | in, wall, out"}, {"wall | wait | in, out", nums(1), "no"},
		// beside walls, beside waiting, and where a reader is in
		{"wall, wall", nums(0), "wall, wall, wall"}, {"store x 1, wall, load y", nums(0), "store x 1, wall, wall, load y"}, {"store x 1, wall, load y", nums(1), "store x 1, wall, wall, load y"}, {"store x 1, wall, load y", nums(0, 1), "store x 1, wall, wall, wall, load y"},
		{"store x 1, wait, load y", nums(0), "store x 1, wall, wait, load y"}, {"store x 1, wait, load y", nums(0, 1), "store x 1, wall, wait, wall, load y"}, {"wait, wait", nums(0), "wait, wall, wait"},
		{waitProg, nums(0, 2, 4), "in, wall, load y, load x, wall, out | store x 1, wait, wall, store y 1"}, {waitProg, nums(0, 1, 2, 3, 4), "in, wall, load y, wall, load x, wall, out | store x 1, wall, wait, wall, store y 1"}, {waitProg, nums(5), "no"},
	} {
		p := read(t, c.text)
		if got := putWalls(p, c.gaps); got != c.want {
			t.Errorf("%s, %v: %q, not %q", c.text, c.gaps, got, c.want)
		}
		if every := someGaps(plainGaps(p)); len(every[len(every)-1]) == len(c.gaps) && c.want != "no" && putAll(p) != c.want {
			t.Errorf("%s, all: %q, not %q", c.text, putAll(p), c.want)
		}
	}
	if got, ok := impl.WallPut(impl.Prog{}, nil); !ok || len(got.Threads) != 0 {
		t.Errorf("no threads: %v, %v", got, ok)
	}
	if got, ok := impl.WallAll(impl.Prog{}); !ok || len(got.Threads) != 0 {
		t.Errorf("no threads, all: %v, %v", got, ok)
	}
	if got, ok := impl.WallPut(impl.Prog{}, nums(0)); ok || len(got.Threads) != 0 {
		t.Errorf("no threads, a wall: %v, %v", got, ok)
	}
}

// P70, P71: all walls of many programs, held against the second telling.
func TestJustThoseWalls(t *testing.T) {
	r := rand.New(rand.NewPCG(73, 74))
	counts := map[string]int{}
	list := append(somePrograms(), limitProgs()...)
	for i, p := range append(list, shortPrograms()...) {
		if got := putWalls(p, nil); got != putText(p, true) {
			t.Fatalf("%v, no walls: %s", p, got)
		}
		choices := someGaps(plainGaps(p))
		if every := choices[len(choices)-1]; putAll(p) != putText(plainPut(p, every)) {
			t.Fatalf("%v, all: %s", p, putAll(p))
		}
		counts[fmt.Sprint("all ", putAll(p) != "no")]++
		if len(choices) > 32 && i%4 != 0 {
			choices = [][]int{choices[r.IntN(len(choices))], choices[1<<r.IntN(6)]}
		}
		for _, gaps := range choices {
			got, ok := impl.WallPut(p, gaps)
			if want, wantOk := plainPut(p, gaps); ok != wantOk || !sameProg(got, want) {
				t.Fatalf("%v, %v: %v, %v, not %v, %v", p, gaps, got, ok, want, wantOk)
			}
			counts[fmt.Sprint("some ", ok)]++
		}
	}
	for _, name := range []string{"all true", "all false", "some true", "some false"} {
		if counts[name] < 500 {
			t.Error(counts)
		}
	}
}

// P70: a program that with its walls has just as many steps as there may be, in a thread or together, and one that has one more.
func TestWallsUpToTheLimits(t *testing.T) {
	steps := func(sizes ...int) impl.Prog {
		var p impl.Prog
		for _, n := range sizes {
			p.Threads = append(p.Threads, times(n, wait()))
		}
		return p
	}
	for _, c := range []struct {
		p    impl.Prog
		most int // as many walls may be put, wherever they are
		all  bool
	}{
		{steps(7), 0, false}, {steps(6), 1, false}, {steps(5), 2, false}, {steps(4), 3, true}, {steps(1, 6), 1, false}, {steps(6, 1, 7), 0, false}, {steps(4, 1, 1), 3, true},
		{steps(7, 7), 0, false}, {steps(5, 5, 4), 0, false}, {steps(5, 5, 3), 1, false}, {steps(4, 4, 4), 2, false}, {steps(5, 4, 4), 1, false}, {steps(4, 4), 6, true}, {steps(4, 3, 2), 5, false}, {steps(3, 3, 3), 5, false}, {steps(3, 3, 2), 5, true}, {steps(4, 2, 2), 5, true},
	} {
		if ok := putAll(c.p) != "no"; ok != c.all {
			t.Errorf("%v, all: %v", c.p, ok)
		}
		for _, gaps := range someGaps(plainGaps(c.p)) {
			q, ok := impl.WallPut(c.p, gaps)
			if ok != (len(gaps) <= c.most) || ok != (len(q.Threads) > 0) {
				t.Errorf("%v, %v: %v, %v", c.p, gaps, q, ok)
			}
		}
	}
	full := read(t, "store x 1, load y, store x 2, load y, wall | store y 1, load x")
	for gaps, want := range map[[2]int]string{{0, 2}: "store x 1, wall, load y, store x 2, wall, load y, wall | store y 1, load x", {3, 4}: "store x 1, load y, store x 2, load y, wall, wall | store y 1, wall, load x"} {
		if got := putWalls(full, gaps[:]); got != want {
			t.Errorf("%v: %s", gaps, got)
		}
	}
	if got := putWalls(full, nums(0, 1, 2)); got != "no" {
		t.Errorf("eight steps: %s", got)
	}
}

// P70: gaps below 0, past the last, twice and not ascending: all rows of small numbers, and some of great ones.
func TestGapsThatAreNone(t *testing.T) {
	list := rows(4, -1, 0, 1, 2, 3, 4)
	for _, text := range []string{"", "||", "wall", "store x 1 | load x", "store x 1, load x", crossProg, passProg, "load x, copy y, wall", "in, out | wait | load x, store y 1, wall"} {
		p := read(t, text)
		n := plainGaps(p)
		for _, gaps := range list {
			ok := true
			for i, gap := range gaps {
				ok = ok && gap >= 0 && gap < n && !slices.Contains(gaps[:i], gap)
			}
			ok = ok && slices.IsSorted(gaps)
			if got := putWalls(p, gaps); (got != "no") != ok || strings.HasPrefix(got, "false") {
				t.Errorf("%s, %v: %s", text, gaps, got)
			}
		}
		for _, far := range append(farNumbers(), n, n+1, -n-1, 256, 257, 1<<32, 1<<32+1, 1<<63-1, math.MinInt, math.MinInt+1) {
			if far >= 0 && far < n {
				continue
			}
			for _, gaps := range [][]int{{far}, {0, far}, {far, 0}, {0, 1, far}, {far, far}, {-1, far}} {
				if got := putWalls(p, gaps); got != "no" {
					t.Errorf("%s, %v: %s", text, gaps, got)
				}
			}
		}
		if got := putWalls(p, make([]int, 100000)); got != "no" {
			t.Errorf("%s, very many: %s", text, got)
		}
	}
}

// P70, P72: programs that are not ok, with gaps of any kind, and by any order.
func TestWallsOfNoProgram(t *testing.T) {
	for name, p := range badPrograms() {
		if got := putAll(p); got != "no" {
			t.Errorf("%s, all: %s", name, got)
		}
		for _, gaps := range [][]int{nil, {}, {0}, {1}, {-1}, {0, 1}, {1, 0}, {5}} {
			if got := putWalls(p, gaps); got != "no" {
				t.Errorf("%s, %v: %s", name, gaps, got)
			}
		}
		for _, kind := range append(orders(), noOrders()...) {
			if got := fewWalls(p, kind); got != "no" {
				t.Errorf("%s, order %d: %s", name, kind, got)
			}
		}
	}
}

// P68: with walls everywhere, between all steps or also at both ends, each order allows just what the strict one does, with them and without.
func TestWithWallsEverywhere(t *testing.T) {
	kinds, ended, loose, late, refused := map[int]int{}, 0, 0, 0, 0
	for _, p := range slices.Concat(orderPrograms(), shortPrograms()) {
		q, ok := impl.WallAll(p)
		if !ok {
			refused++
			continue
		}
		ends := copyProg(q)
		for at, steps := range q.Threads {
			ends.Threads[at] = slices.Concat(thread(wall()), steps, thread(wall()))
		}
		want := impl.MachStrict(p)
		list := []impl.Prog{q}
		if plainOk(ends) {
			list = append(list, ends)
			ended++
		}
		for _, q := range list {
			for _, kind := range orders() {
				if got := impl.OrderAll(q, kind); !sameSeens(got, want) {
					t.Fatalf("%v, order %d: %s, not %s", q, kind, seenTexts(got), seenTexts(want))
				}
			}
			if got := impl.MachLate(q); !sameSeens(got, want) {
				t.Fatalf("%v, late: %s, not %s", q, seenTexts(got), seenTexts(want))
			}
		}
		if len(impl.OrderAll(p, impl.OrderLoose)) > len(want) {
			loose++
		}
		if len(impl.OrderAll(p, impl.OrderLate)) > len(want) {
			late++
		}
		for _, e := range plainEvents(p) {
			kinds[e.do.Kind]++
		}
	}
	for kind := impl.DoStore; kind <= impl.DoWait; kind++ {
		if kinds[kind] < 300 {
			t.Error(kinds)
		}
	}
	if ended < 300 || loose < 300 || late < 150 || refused < 300 {
		t.Error(ended, loose, late, refused)
	}
}

// fewCase is the fewest walls by the late order and by the loose one, "same" where they are those of the late one; by the strict one there are none, but where all say no.
type fewCase struct{ text, late, loose string }

func (c fewCase) check(t *testing.T) {
	t.Helper()
	if c.loose == "same" {
		c.loose = c.late
	}
	strict := ""
	if c.late == "no" {
		strict = "no"
	}
	p := read(t, c.text)
	for i, want := range []string{strict, c.late, c.loose} {
		if got := fewWalls(p, i+1); got != want {
			t.Errorf("%s, order %d: %q, not %q", c.text, i+1, got, want)
		}
	}
}

// P72 to P76: told by hand: programs that need no wall, one, two, and more.
func TestFewWallsAsTold(t *testing.T) {
	for _, c := range []fewCase{
		{"", "", "same"}, {"||", "", "same"}, {"wall", "", "same"}, {"wait | in, out", "", "same"}, {"store x 1 | load x | load y", "", "same"}, {"store x 1, load x", "", "same"}, {"store x 1, load y, load z", "", "same"}, {"store x 1 | load x, load x", "", "same"},
		{crossProg, "0 1", "same"}, {"give x 1, take y | give y 1, take x", "0 1", "same"}, {"store x 1, load y || store y 1, load x", "0 1", "same"}, {"store x 1, load y | load x | store y 1, load x", "0 1", "same"}, {"store x 1, load y | store y 1, load z | store z 1, load x", "0 1 2", "same"},
		{passProg, "", "0 1"}, {"store x 1, give y 1 | load y, load x", "", "1"}, {"store x 1, store y 1 | take y, load x", "", "0"}, {"store x 1, give y 1 | take y, load x", "", "same"}, {"give x 1, store y 1 | load y, take x", "", "0 1"},
		{"load x, store y 1 | load y, store x 1", "", "0 1"}, {"load x, copy y | load y, store x 1", "", "1"}, {"load x, copy y | take y, store x 1", "", "same"}, {"load x, copy y | load y, copy x", "", "same"},
		{"store x 2, store y 1 | store y 2, store x 1", "", "0 1"}, {"give x 2, give y 1 | store y 2, store x 1", "", "1"}, {"give x 2, give y 1 | give y 2, give x 1", "", "same"}, {"store x 1 | load x, store y 1 | load y, load x", "", "0 1"}, {"store x 1 | load x, copy y | load y, load x", "", "1"},
		// more than two
		{"store x 1, load y, store x 2, load y | store y 1, load x", "0 2 3", "same"}, {"load x, load y, load x | store y 1, store x 1, store y 2", "", "0 1 2 3"}, {"store x 1, load y, load x | store y 1, store x 2, load y", "0", "0 2"},
		// of several that are as few the first, number by number
		{"store x 1, load z, load y | store y 1, load z, load x", "0 2", "same"}, {"store x 1, load z, load y | store y 1, load x", "0 2", "same"}, {"load z, store x 1, load z, load y | store y 1, wall, load x", "1", "same"}, {"store x 1, store z 1, load z, store y 1 | take y, load x", "", "0"},
	} {
		c.check(t)
	}
	if got := fewWalls(impl.Prog{}, impl.OrderLoose); got != "" {
		t.Errorf("no threads: %s", got)
	}
}

// P72 to P76: walls, waiting and readers that are there already, told by hand.
func TestFewWallsBesideOthers(t *testing.T) {
	for _, c := range []fewCase{
		{"store x 1, wall, load y | store y 1, load x", "2", "same"}, {"store x 1, wait, load y | store y 1, load x", "2", "same"}, {"store x 1, load y | store y 1, wall, load x", "0", "same"}, {"store x 1, wall, load y | store y 1, wait, load x", "", "same"}, {"store x 1, wall, wall, load y | store y 1, load x", "3", "same"}, {"wall, store x 1, load y, wall | store y 1, load x", "1 3", "same"}, {"store x 1, wall, load y, load y | store y 1, wait, load x", "", "same"},
		// going in and out keeps in order late, but not loosely
		{"store x 1, in, out, load y | store y 1, load x", "3", "0 3"}, {"store x 1, in, out, load y | store y 1, wall, load x", "", "0"}, {"in, store x 1, out, load y | store y 1, wall, load x", "", "1"}, {"store x 1, load y | store y 1, in, load x, out", "0", "0 1"}, {"in, store x 1, load y, out | store y 1, wall, load x", "1", "same"},
		// readers that are in, and one who waits
		{waitProg, "", "same"}, {"in, load y, out, load x | store x 1, wait, store y 1", "", "0"}, {"load y, in, load x, out | store x 1, wait, store y 1", "", "0"}, {"load y, load x | store x 1, wait, store y 1", "", "0"}, {"in, load x, load y, out | store x 1, wait, store y 1", "", "same"}, {"in, load y, load x, out | store x 1, store y 1", "", "1 3"}, {"in, load y, load x, out | store x 1, wall, store y 1", "", "1"},
		{"in, out, load y, load x | store x 1, wait, store y 1", "", "2"}, {"wait, load y, load x | store x 1, wait, store y 1", "", "1"}, {"in, store x 1, out, store y 1 | take y, load x", "", "1"},
	} {
		c.check(t)
	}
}

// P72, P76: programs with just five gaps, and with six, with walls that are needed at the first and at the last, and with none.
func TestFiveGapsAndSix(t *testing.T) {
	for _, c := range []fewCase{
		{"wall, wall, store x 1, load y | wall, store y 1, load x", "2 4", "same"}, {"store x 1, load y, wall | store y 1, load x, wall, wall", "0 2", "same"}, {"store x 1, wall, load y, wall | store y 1, wall, load x", "", "same"}, {"wall, wall, wall, wall, wall, wall", "", "same"}, {"wait, wait, wait | wait, wait, wait | wait, wait", "", "same"}, {"load x, load x, load x, load x, load x, load x", "", "same"}, {"wall, store x 1, load y | wall, store y 1, load x | wall, wall", "1 3", "same"},
		{"load x, load y, load x | store y 1, store x 1, store y 2, wall", "", "0 1 2 3"}, {"wall, load x, load y, load x | store y 1, store x 1, store y 2", "", "1 2 3 4"}, {"load x, load y, load x, wall | store y 1, store x 1, store y 2", "", "0 1 3 4"}, {"load x, load y, load x | wall, store y 1, store x 1, store y 2", "", "0 1 3 4"}, {"load x, load y, load x | store y 1, store x 1, store y 2 | wall, wall", "", "0 1 2 3"},
		{"wall, wall, wall, store x 1, load y | wall, store y 1, load x", "no", "same"}, {"store x 1, load y, wall, wall | store y 1, load x, wall, wall", "no", "same"}, {"store x 1, wall, load y, wall | store y 1, wall, load x, wall", "no", "same"}, {"wall, wall, wall, wall, wall, wall, wall", "no", "same"}, {"wait, wait, wait | wait, wait, wait | wait, wait, wait", "no", "same"}, {"load x, load x, load x, load x, load x, load x, wall", "no", "same"}, {"wall, store x 1, load y | wall, store y 1, load x | wall, wall, wall", "no", "same"}, {"in, load y, out, in, load x, out | store x 1, wait, store y 1", "no", "same"},
	} {
		c.check(t)
	}
	for _, p := range orderPrograms() {
		if plainGaps(p) <= 5 {
			continue
		}
		for _, kind := range orders() {
			if got := fewWalls(p, kind); got != "no" {
				t.Fatalf("%v, order %d, %d gaps: %s", p, kind, plainGaps(p), got)
			}
		}
	}
}

// P72, P76: programs whose walls cannot all be put: those that can be are enough.
func TestFewWallsWhereNotAllCanBe(t *testing.T) {
	for _, c := range []fewCase{
		{"load y, load x, load y, load x, wall | store x 1, store y 1", "", "0 2 4"}, {"store x 1, load y, store x 2, load y, wall | store y 1, load x", "0 2 4", "same"}, {"wall, load y, load x, load y, load x | store x 1, store y 1", "", "1 3 4"}, {"in, out, load y, store z 1, load x | store x 1, give y 1", "", "2"}, {"wall, wait, in, load x, out, wall | store x 1", "", "same"},
	} {
		if got := putAll(read(t, c.text)); got != "no" {
			t.Errorf("%s: all can be put: %s", c.text, got)
		}
		c.check(t)
	}
	// if no walls made a program strict it would be one of these: a thread has more gaps than there is room for walls
	r := rand.New(rand.NewPCG(75, 76))
	needs := map[int]int{}
	for range 400 {
		a := randomThread(r, 5, 4)
		x := usesOf(a)
		b := []impl.Do{[]impl.Do{load(0), store(0, 1), take(0)}[r.IntN(3)], []impl.Do{load(1), store(1, 2), give(1, 1)}[r.IntN(3)]}
		for i := range a {
			a[i].Place = min(a[i].Place, 1)
		}
		p := prog(a, b)
		if r.IntN(2) == 0 {
			p = prog(b, a)
		}
		if x+2 < impl.ProgUses && r.IntN(2) == 0 {
			p.Threads = append(p.Threads, thread(store(r.IntN(2), 3)))
		}
		for _, kind := range nums(impl.OrderLate, impl.OrderLoose) {
			want, _ := plainFew(p, kind, impl.OrderAll)
			if got := fewWalls(p, kind); got != want || got == "no" {
				t.Fatalf("%v, order %d: %s, not %s", p, kind, got, want)
			}
			needs[len(strings.Fields(want))]++
		}
	}
	if needs[0] < 300 || needs[1] < 20 || needs[2] < 5 {
		t.Error(needs)
	}
}

// P72, P73, P76: of many programs, held against the second telling, which goes through all choices of gaps.
func TestFewWalls(t *testing.T) {
	counts, kinds := map[string]int{}, map[int]int{}
	for _, p := range shortPrograms() {
		for _, kind := range orders() {
			want, as := plainFew(p, kind, impl.OrderAll)
			if got := fewWalls(p, kind); got != want {
				t.Fatalf("%v, order %d: %q, not %q", p, kind, got, want)
			}
			n := len(strings.Fields(want))
			counts[fmt.Sprint("order ", kind, ", walls ", n)]++
			if as > 1 {
				counts["several"]++
			}
			if n > 0 {
				for _, e := range plainEvents(p) {
					kinds[e.do.Kind]++
				}
			}
		}
	}
	for name, least := range map[string]int{"order 1, walls 0": 1000, "order 2, walls 0": 500, "order 2, walls 1": 50, "order 2, walls 2": 30, "order 2, walls 3": 3, "order 3, walls 0": 500, "order 3, walls 1": 100, "order 3, walls 2": 100, "order 3, walls 3": 10, "order 3, walls 4": 3, "several": 30} {
		if counts[name] < least {
			t.Errorf("%s: %d only", name, counts[name])
		}
	}
	for kind := impl.DoStore; kind <= impl.DoWait; kind++ {
		if kinds[kind] < 20 {
			t.Error(kinds)
		}
	}
}

// P72, P73: a few programs, held against a telling that takes nothing of the program: all ways counted through, and all rows of choices.
func TestFewWallsOfAllWays(t *testing.T) {
	r := rand.New(rand.NewPCG(77, 78))
	var list []impl.Prog
	for _, text := range []string{"", "wall", crossProg, passProg, waitProg, "load x, store y 1 | load y, store x 1", "load x, copy y | load y, store x 1", "in, load y, out, load x | store x 1, wait, store y 1", "store x 1, in, out, load y | store y 1, load x", "store x 1, load z, load y | store y 1, load z, load x", "store x 1, load y | store y 1, load z | store z 1, load x"} {
		list = append(list, read(t, text))
	}
	for len(list) < 90 {
		for _, p := range []impl.Prog{shortProg(r), crossingProg(r), smallProg(r, 6)} {
			if plainGaps(p) <= 5 && mostWays(p) <= 24 {
				list = append(list, p)
			}
		}
	}
	sizes := map[int]int{}
	for _, p := range list {
		for _, kind := range orders() {
			want, _ := plainFew(p, kind, plainOrderAll)
			if got := fewWalls(p, kind); got != want {
				t.Fatalf("%v, order %d: %q, not %q", p, kind, got, want)
			}
			sizes[len(strings.Fields(want))]++
		}
	}
	if sizes[0] < 50 || sizes[1] < 10 || sizes[2] < 10 {
		t.Error(sizes)
	}
}

// P72 to P76: what is told is enough, some of the gaps, and ascending; without any of them it is not enough; strictly there are none, late no more than loosely.
func TestWhatFewWallsAre(t *testing.T) {
	fewer := 0
	for _, p := range shortPrograms() {
		strict := impl.OrderAll(p, impl.OrderStrict)
		var told [][]int
		for _, kind := range orders() {
			gaps, ok := impl.WallFew(p, kind)
			q, put := impl.WallPut(p, gaps)
			if !ok || !put || !sameSeens(impl.OrderAll(q, kind), strict) {
				t.Fatalf("%v, order %d: %v, %v are not enough", p, kind, gaps, ok)
			}
			for i, gap := range gaps {
				if gap < 0 || gap >= impl.WallGaps(p) || i > 0 && gap <= gaps[i-1] {
					t.Fatalf("%v, order %d: %v", p, kind, gaps)
				}
			}
			for _, left := range someGaps(len(gaps)) {
				var some []int
				for _, i := range left {
					some = append(some, gaps[i])
				}
				if q, _ := impl.WallPut(p, some); len(left) < len(gaps) && sameSeens(impl.OrderAll(q, kind), strict) {
					t.Fatalf("%v, order %d: %v, but %v are enough", p, kind, gaps, some)
				}
			}
			told = append(told, gaps)
		}
		if len(told[0]) > 0 || len(told[1]) > len(told[2]) {
			t.Fatalf("%v: %v", p, told)
		}
		if len(told[1]) < len(told[2]) {
			fewer++
		}
	}
	if fewer < 100 {
		t.Error(fewer)
	}
}

// withWall is all programs that have a wall more, wherever it is, at an end of a thread too.
func withWall(p impl.Prog) []impl.Prog {
	var list []impl.Prog
	for at, steps := range p.Threads {
		for i := range len(steps) + 1 {
			q := copyProg(p)
			q.Threads[at] = slices.Insert(q.Threads[at], i, wall())
			if plainOk(q) {
				list = append(list, q)
			}
		}
	}
	return list
}

// P77, P78: with a wall more, between two steps or at an end, no more is seen, strictly just as much.
func TestAWallMore(t *testing.T) {
	asked, less := 0, map[int]int{}
	for _, p := range wallPrograms(6) {
		late, strict := impl.MachLate(p), impl.MachStrict(p)
		all := make([][]impl.Seen, 4)
		for _, kind := range orders() {
			all[kind] = impl.OrderAll(p, kind)
		}
		list := withWall(p)
		for gap := range impl.WallGaps(p) {
			if q, ok := impl.WallPut(p, nums(gap)); ok {
				if !slices.ContainsFunc(list, func(o impl.Prog) bool { return sameProg(o, q) }) {
					t.Fatalf("%v, %d: %v has no wall more", p, gap, q)
				}
			}
		}
		for _, q := range list {
			asked++
			if got := impl.MachStrict(q); !sameSeens(got, strict) {
				t.Fatalf("%v, strictly: %s, not %s", q, seenTexts(got), seenTexts(strict))
			}
			if got := impl.MachLate(q); !among(got, late) {
				t.Fatalf("%v, late: %s, not only %s", q, seenTexts(got), seenTexts(late))
			}
			for _, kind := range orders() {
				got := impl.OrderAll(q, kind)
				if !among(got, all[kind]) || !among(strict, got) {
					t.Fatalf("%v, order %d: %s, not only %s", q, kind, seenTexts(got), seenTexts(all[kind]))
				}
				if len(got) < len(all[kind]) {
					less[kind]++
				}
			}
		}
	}
	if asked < 3000 || less[1] > 0 || less[2] < 50 || less[3] < 200 {
		t.Error(asked, less)
	}
}

// P79: a wall beside a wall, or beside one who waits, changes nothing, by the machines and by each order; nor do the fewest walls change but in their numbers.
func TestTwoWallsAreAsOne(t *testing.T) {
	walls, waits, loose := 0, 0, 0
	same := func(p, q impl.Prog) {
		t.Helper()
		for _, m := range machines() {
			if got, want := m.all(q), m.all(p); !sameSeens(got, want) {
				t.Fatalf("%v, %s: %s, not %s", q, m.name, seenTexts(got), seenTexts(want))
			}
		}
		if got, want := orderTexts(q), orderTexts(p); !slices.Equal(got, want) {
			t.Fatalf("%v: %q, not %q", q, got, want)
		}
	}
	for _, p := range wallPrograms(8) {
		for at, steps := range p.Threads {
			for j, d := range steps {
				q := copyProg(p)
				q.Threads[at] = slices.Insert(q.Threads[at], j, wall())
				if !plainOk(q) || !has(thread(d), impl.DoWall, impl.DoWait) {
					continue
				}
				same(p, q)
				if d.Kind == impl.DoWait {
					waits++
				} else {
					walls++
				}
			}
		}
		for gap := range plainGaps(p) {
			one, ok := impl.WallPut(p, nums(gap))
			if !ok {
				continue
			}
			ahead, ok := impl.WallPut(one, nums(gap))
			behind, _ := impl.WallPut(one, nums(gap+1))
			both, okBoth := impl.WallPut(one, nums(gap, gap+1))
			if !ok {
				continue
			}
			if !sameProg(ahead, behind) || sameProg(ahead, one) {
				t.Fatalf("%v: %v, and %v", one, ahead, behind)
			}
			same(one, ahead)
			if okBoth {
				same(one, both)
			}
			walls++
			if got := orderTexts(one); got[0] != got[2] {
				loose++
			}
		}
	}
	if walls < 1000 || waits < 200 || loose < 50 {
		t.Error(walls, waits, loose)
	}
}

// P72, P74: orders that are none.
func TestFewWallsByNoOrder(t *testing.T) {
	for _, text := range []string{"", "||", "wall", "store x 1, load x", crossProg, passProg, waitProg, "store x 1, wall, load y | store y 1, wall, load x"} {
		p := read(t, text)
		for _, kind := range noOrders() {
			if got := fewWalls(p, kind); got != "no" {
				t.Errorf("%s, order %d: %s", text, kind, got)
			}
		}
		for _, kind := range orders() {
			if got := fewWalls(p, kind); got == "no" {
				t.Errorf("%s, order %d: %s", text, kind, got)
			}
		}
	}
}

// P69 to P76: each limit of the table met exactly; one more is refused (TestWallsOfNoProgram).
func TestWallsAtTheLimits(t *testing.T) {
	for i, want := range []struct {
		gaps int
		all  bool
		few  string
	}{
		{0, true, ""}, {6, false, "no"}, {6, false, "no"}, {12, false, "no"}, {11, false, "no"}, {12, false, "no"}, {5, false, ""}, {5, false, ""}, {4, true, ""}, {3, true, ""}, {12, false, "no"}, {4, false, ""}, {4, true, "1"},
	} {
		p := limitProgs()[i]
		if got := impl.WallGaps(p); got != want.gaps {
			t.Errorf("%v: %d gaps", p, got)
		}
		if got := putAll(p); (got != "no") != want.all {
			t.Errorf("%v, all: %s", p, got)
		}
		if got := putWalls(p, nil); got != putText(p, true) {
			t.Errorf("%v, none: %s", p, got)
		}
		late := want.few
		if late == "1" {
			late = ""
		}
		if got := fewWalls(p, impl.OrderLoose); got != want.few {
			t.Errorf("%v, loosely: %s", p, got)
		}
		if got := fewWalls(p, impl.OrderLate); got != late {
			t.Errorf("%v, late: %s", p, got)
		}
		if got := fewWalls(p, impl.OrderStrict); got != late {
			t.Errorf("%v, strictly: %s", p, got)
		}
	}
}

// What is said once: the empty list and the nil list are the same.
func TestWallsTakeEmptyForNil(t *testing.T) {
	empty := make([]int, 0, 4)
	steps := thread(store(1, 1), load(1))
	for _, p := range []impl.Prog{{}, {Threads: [][]impl.Do{}}, prog(nil), prog(thread(), nil), prog(nil, make([]impl.Do, 0, 3), thread()), prog(nil, steps, nil), prog(thread(), steps, make([]impl.Do, 0, 3)), prog(steps, steps)} {
		for _, gaps := range [][]int{nil, {}, empty} {
			if q, ok := impl.WallPut(p, gaps); !ok || !sameProg(p, q) {
				t.Errorf("%#v, %#v: %v, %v", p, gaps, q, ok)
			}
		}
		for _, kind := range orders() {
			if got := fewWalls(p, kind); got != "" {
				t.Errorf("%#v, order %d: %s", p, kind, got)
			}
		}
	}
	a, b := prog(nil, steps, nil), prog(thread(), steps, make([]impl.Do, 0, 3))
	if impl.WallGaps(a) != 1 || impl.WallGaps(b) != 1 || putAll(a) != putAll(b) || putWalls(a, nums(0)) != putWalls(b, nums(0)) {
		t.Error(putAll(a), putAll(b))
	}
}

// What is said once: nothing is written into an argument or behind its end.
func TestWallArgumentsStay(t *testing.T) {
	check := func(p impl.Prog, list [][]int) {
		q := wideProg(p)
		impl.WallGaps(q)
		impl.WallAll(q)
		for _, gaps := range list {
			row := wide(gaps)
			impl.WallPut(q, row)
			if !slices.Equal(row, gaps) || !wideOk(row) {
				t.Fatalf("%v: %v became %v", p, gaps, row)
			}
		}
		for _, kind := range append(orders(), 0) {
			impl.WallFew(q, kind)
		}
		if !sameProg(p, q) || !wideProgOk(q) {
			t.Fatalf("%v became %v", p, q)
		}
	}
	for i, p := range slices.Concat(orderPrograms(), shortPrograms()) {
		if i%3 == 0 {
			list := someGaps(min(plainGaps(p), 5))
			check(p, append(list, nums(-1), nums(1, 0), nums(0, 0), nums(0, 99)))
		}
	}
	for _, p := range badPrograms() {
		check(p, [][]int{nil, {0}, {0, 1}, {-1}})
	}
}

// scribbleProg writes over all of a program, spare room included, each thread with a kind of its own, and says whether each kept its own and nothing stood in the spare room.
func scribbleProg(p impl.Prog) bool {
	n := len(p.Threads)
	for _, steps := range p.Threads[n:cap(p.Threads)] {
		if steps != nil {
			return false
		}
	}
	for at, steps := range p.Threads {
		room := steps[:cap(steps)]
		for i := range room {
			room[i] = impl.Do{Kind: 100 + at, Place: -1, Val: -1}
		}
	}
	own := true
	for at, steps := range p.Threads {
		for _, d := range steps[:cap(steps)] {
			own = own && d.Kind == 100+at
		}
	}
	clear(p.Threads[:cap(p.Threads)])
	return own
}

// What is said once: an answer shares no memory with an argument or with another answer, and no two lists of one answer share any; nothing is kept.
func TestWallAnswersShareNothing(t *testing.T) {
	list := slices.Clone(shortPrograms())
	list = append(list, limitProgs()...)
	ground := thread(store(0, 1), load(1), load(0), store(1, 2))
	list = append(list, prog(ground[:2], ground[1:3], ground[2:]), prog(ground[:3], ground[:3]), prog(ground[:0], ground[1:1], ground)) // threads that lie in one piece of memory
	for i, p := range list {
		if i%3 != 0 && i < len(list)-20 {
			continue
		}
		arg := prog(slices.Clone(p.Threads)...)
		want := copyProg(p)
		choices := someGaps(min(plainGaps(p), 4))
		for _, gaps := range choices {
			row := slices.Clone(gaps)
			wantText := putWalls(arg, row)
			got, _ := impl.WallPut(arg, row)
			again, ok := impl.WallPut(arg, row)
			if !scribbleProg(got) {
				t.Fatalf("%v, %v: lists of an answer share memory", p, gaps)
			}
			if putText(again, ok) != wantText || putWalls(arg, row) != wantText || !slices.Equal(row, gaps) {
				t.Fatalf("%v, %v: answers share memory, or something is kept", p, gaps)
			}
		}
		wantText := putAll(arg)
		got, _ := impl.WallAll(arg)
		again, ok := impl.WallAll(arg)
		if !scribbleProg(got) || putText(again, ok) != wantText || putAll(arg) != wantText {
			t.Fatalf("%v, all: answers share memory, or something is kept", p)
		}
		for _, kind := range orders() {
			wantText := fewWalls(arg, kind)
			got, _ := impl.WallFew(arg, kind)
			again, ok := impl.WallFew(arg, kind)
			fillSeen(got, -9)
			if spare := again[len(again):cap(again)]; slices.Contains(spare, -9) || rowText(again, ok) != wantText || fewWalls(arg, kind) != wantText {
				t.Fatalf("%v, order %d: answers share memory, or something is kept", p, kind)
			}
		}
		if !sameProg(arg, want) {
			t.Fatalf("%v became %v: an answer shares memory with an argument", want, arg)
		}
	}
}

// P76: the answers are the same however often the call is made, on one processor or on many, and by many at once; and nobody is left at work behind an answer.
func TestFewWallsAreTheSameEachTime(t *testing.T) {
	texts := []string{"store x 1, load z, load y | store y 1, load z, load x", "store x 1, in, out, load y | store y 1, load x", crossProg, passProg, "in, load y, out, load x | store x 1, wait, store y 1", "load x, load y, load x | store y 1, store x 1, store y 2"}
	want := map[string]string{}
	for _, text := range texts {
		want[text] = fmt.Sprint(fewWalls(read(t, text), impl.OrderLate), ";", fewWalls(read(t, text), impl.OrderLoose))
	}
	before := runtime.NumGoroutine()
	defer runtime.GOMAXPROCS(runtime.GOMAXPROCS(0))
	for _, n := range nums(1, 2, 3, 8) {
		runtime.GOMAXPROCS(n)
		for _, text := range texts {
			p := read(t, text)
			for range 30 {
				if got := fmt.Sprint(fewWalls(p, impl.OrderLate), ";", fewWalls(p, impl.OrderLoose)); got != want[text] {
					t.Fatalf("%s, on %d: %s, not %s", text, n, got, want[text])
				}
			}
		}
	}
	var all sync.WaitGroup
	for _, text := range texts {
		p := read(t, text)
		for range 8 {
			all.Go(func() {
				for range 5 {
					if got := fmt.Sprint(fewWalls(p, impl.OrderLate), ";", fewWalls(p, impl.OrderLoose)); got != want[text] {
						t.Errorf("%s, at once: %s, not %s", text, got, want[text])
					}
				}
			})
		}
	}
	all.Wait()
	for range 200 { // who is done may take a moment to be gone
		if runtime.NumGoroutine() <= before {
			return
		}
		time.Sleep(10 * time.Millisecond)
	}
	t.Errorf("%d are still at work", runtime.NumGoroutine()-before)
}
