package tests

import (
	"fmt"
	"math"
	"slices"
	"strings"
	"sync"
	"testing"

	"loop.example/fathomline/impl"
)

func allShapes() []int {
	return nums(impl.ShapeCross, impl.ShapePass, impl.ShapeRound, impl.ShapeTwice, impl.ShapeFour, impl.ShapeWait)
}

func allHows() []int { return nums(impl.HowPlain, impl.HowWalls, impl.HowGive, impl.HowCopy) }

// shapeTexts is all shapes, told by hand from the document's table: plain, with walls, given and taken, and copied.
func shapeTexts() map[int][4]string {
	const four, wait = "store x 2, store y 1 | store y 2, store x 1", "in, load y, load x, out | store x 1, wait, store y 1"
	return map[int][4]string{
		1: {"store x 1, load y | store y 1, load x", "store x 1, wall, load y | store y 1, wall, load x", "give x 1, take y | give y 1, take x", "store x 1, load y | store y 1, load x"},
		2: {"store x 1, store y 1 | load y, load x", "store x 1, wall, store y 1 | load y, wall, load x", "store x 1, give y 1 | take y, load x", "store x 1, store y 1 | load y, load x"},
		3: {"load x, store y 1 | load y, store x 1", "load x, wall, store y 1 | load y, wall, store x 1", "take x, give y 1 | take y, give x 1", "load x, copy y | load y, copy x"},
		4: {"store x 1 | load x, load x", "store x 1 | load x, wall, load x", "give x 1 | take x, take x", "store x 1 | load x, load x"},
		5: {four, "store x 2, wall, store y 1 | store y 2, wall, store x 1", "give x 2, give y 1 | give y 2, give x 1", four},
		6: {wait, wait, "in, load y, load x, out | store x 1, wait, give y 1", wait},
	}
}

// oddTexts is what is odd of each shape, told by hand.
func oddTexts() map[int]string {
	return map[int]string{1: "0 0 / 1 1 0", 2: "1 0 / 1 1 0", 3: "1 1 / 1 1 0", 4: "1 0 / 1 0 0", 5: "/ 2 2 0", 6: "1 0 / 1 1 0"}
}

func shapeOf(t *testing.T, shape, how int) impl.Prog {
	t.Helper()
	p, ok := impl.ShapeOf(shape, how)
	if !ok {
		t.Fatalf("shape %d, how %d is refused", shape, how)
	}
	return p
}

func oddOf(t *testing.T, shape int) impl.Seen {
	t.Helper()
	s, ok := impl.ShapeOdd(shape)
	if !ok {
		t.Fatalf("nothing is odd of shape %d", shape)
	}
	return s
}

// eachShape goes through all shapes, in each way.
func eachShape(t *testing.T, ask func(shape, how int, p impl.Prog)) {
	t.Helper()
	for _, shape := range allShapes() {
		for _, how := range allHows() {
			ask(shape, how, shapeOf(t, shape, how))
		}
	}
}

// P97: the names of the shapes, and of how they are made, are the document's numbers.
func TestNamesOfShapes(t *testing.T) {
	if got := allShapes(); !slices.Equal(got, nums(1, 2, 3, 4, 5, 6)) {
		t.Error(got)
	}
	if got := allHows(); !slices.Equal(got, nums(0, 1, 2, 3)) {
		t.Error(got)
	}
}

// P97: each shape in each way, told by hand: two threads, ok, and with the reads of what is odd.
func TestShapesAsTold(t *testing.T) {
	for shape, texts := range shapeTexts() {
		for how, text := range texts {
			p, ok := impl.ShapeOf(shape, how)
			if got, want := progText(p, ok), plainText(read(t, text)); got != want || !sameProg(p, read(t, text)) {
				t.Errorf("shape %d, how %d: %q, not %q", shape, how, got, want)
			}
			if len(p.Threads) != 2 || !impl.ProgOk(p) || impl.ProgReads(p) != len(seenOf(t, oddTexts()[shape]).Reads) {
				t.Errorf("shape %d, how %d: %v", shape, how, p)
			}
		}
	}
}

// P98, P104: what is odd of each shape, told by hand; it is of the shape, in whatever way that is made.
func TestOddAsTold(t *testing.T) {
	for shape, text := range oddTexts() {
		s, ok := impl.ShapeOdd(shape)
		if got := seenText(s, ok); got != text || !sameSeen(s, seenOf(t, text)) || impl.SeenText(s) != text {
			t.Errorf("shape %d: %s, not %s", shape, got, text)
		}
		for _, how := range allHows() {
			if !impl.SeenOk(shapeOf(t, shape, how), s) {
				t.Errorf("shape %d, how %d: %v is not of it", shape, how, s)
			}
		}
	}
}

// tableShape makes a shape from the words of the document's table, word by word, and not from steps.
func tableShape(shape, how int) string {
	rows := []string{"store x 1; read y | store y 1; read x", "store x 1, plain; store y 1 | read y; read x, plain", "read x; store y 1 | read y; store x 1", "store x 1 | read x; read x", "store x 2; store y 1 | store y 2; store x 1", "in; read y, plain; read x, plain; out | store x 1, plain; wait; store y 1"}
	text := ""
	for _, part := range strings.Split(rows[shape-1], " | ") {
		text += "thread\n"
		steps := strings.Split(part, "; ")
		for i, step := range steps {
			word, isPlain := strings.CutSuffix(step, ", plain")
			if how == impl.HowGive && !isPlain {
				word = strings.NewReplacer("store", "give", "read", "take").Replace(word)
			}
			if how == impl.HowCopy && len(steps) == 2 && i == 1 && strings.HasPrefix(steps[0], "read") && strings.HasPrefix(word, "store") {
				word = "copy " + word[len("store "):][:1]
			}
			if how == impl.HowWalls && len(steps) == 2 && i == 1 {
				word = "wall\n" + word
			}
			text += strings.Replace(word, "read", "load", 1) + "\n"
		}
	}
	return text
}

// P97: each shape in each way is what the words of the table come to.
func TestShapesAreTheTable(t *testing.T) {
	texts := map[string]int{}
	eachShape(t, func(shape, how int, p impl.Prog) {
		if got, want := plainText(p), tableShape(shape, how); got != want {
			t.Errorf("shape %d, how %d: %q, not %q", shape, how, got, want)
		}
		texts[plainText(p)]++
	})
	// A copy is a plain shape but in ShapeRound; with walls only ShapeWait is the plain one.
	if want := 6*4 - 5 - 1; len(texts) != want {
		t.Errorf("%d programs, not %d", len(texts), want)
	}
}

// P97: walls stand between both steps of each thread of two, and nowhere else.
func TestWallsOfShapes(t *testing.T) {
	walls := map[int]int{}
	eachShape(t, func(shape, how int, p impl.Prog) {
		plain := shapeOf(t, shape, impl.HowPlain)
		for at, steps := range p.Threads {
			two := len(plain.Threads[at]) == 2
			if wants := how == impl.HowWalls && two; has(steps, impl.DoWall) != wants || wants && (len(steps) != 3 || steps[1] != wall()) || !wants && len(steps) != len(plain.Threads[at]) {
				t.Errorf("shape %d, how %d: %v", shape, how, p)
			}
			if has(steps, impl.DoWall) {
				walls[shape]++
			}
		}
	})
	if got := fmt.Sprint(walls); got != "map[1:2 2:2 3:2 4:1 5:2]" {
		t.Error(got)
	}
}

// P97: what is given, taken and copied, of each shape, told by hand: nothing that the table calls plain, no copy but behind a read in a thread of two.
func TestKindsOfShapes(t *testing.T) {
	given := map[int]string{1: "6 5 | 6 5", 2: "1 6 | 5 2", 3: "5 6 | 5 6", 4: "6 | 5 5", 5: "6 6 | 6 6", 6: "7 2 2 8 | 1 9 6"}
	copied := map[int]string{1: "1 2 | 1 2", 2: "1 1 | 2 2", 3: "2 3 | 2 3", 4: "1 | 2 2", 5: "1 1 | 1 1", 6: "7 2 2 8 | 1 9 1"}
	eachShape(t, func(shape, how int, p impl.Prog) {
		var threads []string
		for _, steps := range p.Threads {
			var kinds []int
			for _, d := range steps {
				kinds = append(kinds, d.Kind)
			}
			threads = append(threads, strings.Trim(fmt.Sprint(kinds), "[]"))
		}
		got := strings.Join(threads, " | ")
		if how == impl.HowGive && got != given[shape] || how == impl.HowCopy && got != copied[shape] {
			t.Errorf("shape %d, how %d: %s", shape, how, got)
		}
		all := slices.Concat(p.Threads...)
		if has(all, impl.DoGive, impl.DoTake) != (how == impl.HowGive) || has(all, impl.DoCopy) != (how == impl.HowCopy && shape == impl.ShapeRound) {
			t.Errorf("shape %d, how %d: %v", shape, how, p)
		}
	})
}

// P97: values are 1, but 2 in what each thread of ShapeFour stores first; a copy has none.
func TestValuesOfShapes(t *testing.T) {
	eachShape(t, func(shape, how int, p impl.Prog) {
		for _, steps := range p.Threads {
			for i, d := range steps {
				want := 0
				switch {
				case !isWrite(d) || d.Kind == impl.DoCopy:
				case shape == impl.ShapeFour && i == 0:
					want = 2
				default:
					want = 1
				}
				if d.Val != want {
					t.Errorf("shape %d, how %d: %v", shape, how, p)
				}
			}
		}
	})
}

// noShapes is numbers of no shape, also such as would be one if bits were lost.
func noShapes() []int {
	return nums(0, -1, 7, -2, -6, 8, 9, 10, 12, 13, 16, 60, 100, 255, 256, 257, 262, 1<<16+1, 1<<31, 1<<32, 1<<32+1, 1<<32+6, math.MinInt, math.MinInt+1, math.MinInt+6, math.MaxInt-5, math.MaxInt)
}

func noHows() []int {
	return nums(-1, 4, -2, -3, -4, 5, 6, 7, 8, 10, 255, 256, 257, 259, 1<<16, 1<<31, 1<<32, 1<<32+1, 1<<32+3, math.MinInt, math.MinInt+1, math.MinInt+3, math.MaxInt-3, math.MaxInt)
}

// P97: what is no shape, no way of making one, or neither, is nothing and false.
func TestShapesThatAreNone(t *testing.T) {
	check := func(shape, how int) {
		t.Helper()
		if got := progText(impl.ShapeOf(shape, how)); got != "no" {
			t.Errorf("shape %d, how %d: %s", shape, how, got)
		}
	}
	for _, shape := range noShapes() {
		for _, how := range slices.Concat(allHows(), noHows()) {
			check(shape, how)
		}
		if got := seenText(impl.ShapeOdd(shape)); got != "no" {
			t.Errorf("odd of shape %d: %s", shape, got)
		}
	}
	for _, how := range noHows() {
		for _, shape := range allShapes() {
			check(shape, how)
		}
	}
}

// P97: of all numbers round about just six shapes are there, in four ways, and something is odd of just six.
func TestJustSixShapesInFourWays(t *testing.T) {
	made, odd := 0, 0
	for shape := -300; shape <= 300; shape++ {
		for how := -300; how <= 300; how++ {
			p, ok := impl.ShapeOf(shape, how)
			if want := 1 <= shape && shape <= 6 && 0 <= how && how <= 3; ok != want || !ok && len(p.Threads) > 0 {
				t.Fatalf("shape %d, how %d: %v, %v", shape, how, p, ok)
			}
			if ok {
				made++
			}
		}
		s, ok := impl.ShapeOdd(shape)
		if want := 1 <= shape && shape <= 6; ok != want || !ok && len(s.Reads)+len(s.Last) > 0 {
			t.Fatalf("odd of shape %d: %v, %v", shape, s, ok)
		}
		if ok {
			odd++
		}
	}
	if made != 24 || odd != 6 {
		t.Error(made, odd)
	}
}

// oddOrders is, of each shape, made in each way, the first order by which what is odd is seen, as the promises say; 0: by none.
func oddOrders() map[int][4]int {
	return map[int][4]int{
		impl.ShapeCross: {impl.OrderLate, 0, impl.OrderLate, impl.OrderLate},
		impl.ShapePass:  {impl.OrderLoose, 0, 0, impl.OrderLoose},
		impl.ShapeRound: {impl.OrderLoose, 0, 0, 0},
		impl.ShapeTwice: {0, 0, 0, 0},
		impl.ShapeFour:  {impl.OrderLoose, 0, 0, impl.OrderLoose},
		impl.ShapeWait:  {0, 0, 0, 0},
	}
}

// seenByOf is all that tells what is seen by an order: it, its machine, and a second telling of both.
func seenByOf(kind int) []seenBy {
	list := []seenBy{
		{fmt.Sprint("order ", kind), func(p impl.Prog) []impl.Seen { return impl.OrderAll(p, kind) }},
		{fmt.Sprint("all ways, order ", kind), func(p impl.Prog) []impl.Seen { return plainOrderAll(p, kind) }},
	}
	switch kind {
	case impl.OrderStrict:
		list = append(list, seenBy{"strict machine", impl.MachStrict}, seenBy{"all strict turns", func(p impl.Prog) []impl.Seen { return plainAll(p, false, false) }})
	case impl.OrderLate:
		list = append(list, seenBy{"late machine", impl.MachLate}, seenBy{"all late turns", func(p impl.Prog) []impl.Seen { return plainAll(p, true, false) }})
	}
	return list
}

// P98, P99, P100, P103: what is odd is seen, or not, by each order and by each machine, just as the promises say.
func TestWhereOddIsSeen(t *testing.T) {
	seenOdd := map[int]int{}
	eachShape(t, func(shape, how int, p impl.Prog) {
		odd, first := oddOf(t, shape), oddOrders()[shape][how]
		for _, kind := range orders() {
			want := first != 0 && kind >= first
			for _, by := range seenByOf(kind) {
				list := by.all(p)
				if got := impl.SeenIn(list, odd); got != want || len(list) == 0 {
					t.Errorf("shape %d, how %d, %s: odd is seen: %v; %s", shape, how, by.name, got, seenTexts(list))
				}
			}
			if want {
				seenOdd[kind]++
			}
		}
	})
	// ShapeCross in three ways; by the loose order ShapePass and ShapeFour in two ways and ShapeRound in one besides.
	if seenOdd[impl.OrderStrict] != 0 || seenOdd[impl.OrderLate] != 3 || seenOdd[impl.OrderLoose] != 8 {
		t.Error(seenOdd)
	}
}

// P98, P99, P100: why what is odd is seen: the strictest order, a way by just those from it on, turns of just the machines that come to it.
func TestWhyOddIsSeen(t *testing.T) {
	eachShape(t, func(shape, how int, p impl.Prog) {
		odd, first := oddOf(t, shape), oddOrders()[shape][how]
		if got := impl.WhyOrder(p, odd); got != first {
			t.Errorf("shape %d, how %d: order %d, not %d", shape, how, got, first)
		}
		for _, kind := range orders() {
			x, ok := impl.WhyExec(p, odd, kind)
			if want := first != 0 && kind >= first; ok != want || ok && !impl.OrderHolds(p, x, kind) {
				t.Errorf("shape %d, how %d, order %d: %s, %v", shape, how, kind, wayText(x), ok)
			}
		}
		if turns, ok := impl.WhyTurns(p, odd); ok {
			t.Errorf("shape %d, how %d: turns %v", shape, how, turns)
		}
		turns, ok := impl.WhyLate(p, odd)
		if ok != (first == impl.OrderLate) {
			t.Errorf("shape %d, how %d: late turns %v, %v", shape, how, turns, ok)
		}
		if s, led := impl.MachTurns(p, turns); ok && (!led || !sameSeen(s, odd)) {
			t.Errorf("shape %d, how %d: late turns %v lead to %v", shape, how, turns, s)
		}
	})
}

// neverSees says of each that is seen of a shape, by each order, by its machine, and by a second telling of both, that it is not so; and that all is seen just as told.
func neverSees(t *testing.T, shape int, want string, never func(s impl.Seen) bool) {
	t.Helper()
	if odd := oddOf(t, shape); !never(odd) {
		t.Errorf("shape %d: %v is not odd", shape, odd)
	}
	for _, how := range allHows() {
		p := shapeOf(t, shape, how)
		for _, kind := range orders() {
			for _, by := range seenByOf(kind) {
				list := by.all(p)
				if got := seenTexts(list); got != want || slices.ContainsFunc(list, never) {
					t.Errorf("shape %d, how %d, %s: %s, not %s", shape, how, by.name, got, want)
				}
			}
			for _, x := range impl.ExecAll(p) {
				if s, ok := impl.ExecSeen(p, x); !ok || never(s) && impl.OrderHolds(p, x, kind) {
					t.Errorf("shape %d, how %d, order %d: %s holds: %v", shape, how, kind, wayText(x), s)
				}
			}
		}
	}
}

// P101: who sees what was stored behind waiting sees what was stored ahead of it, by each order.
func TestWhoSeesBehindWaitingSeesAheadOfIt(t *testing.T) {
	neverSees(t, impl.ShapeWait, "0 0 / 1 1 0; 0 1 / 1 1 0; 1 1 / 1 1 0", func(s impl.Seen) bool { return s.Reads[0] == 1 && s.Reads[1] != 1 })
	// Without the waiting, and without the reader, it may be otherwise.
	for _, text := range []string{"in, load y, load x, out | store x 1, store y 1", "load y, load x | store x 1, wait, store y 1"} {
		if !impl.SeenIn(impl.OrderAll(read(t, text), impl.OrderLoose), oddOf(t, impl.ShapeWait)) {
			t.Errorf("%s: nothing odd is seen", text)
		}
	}
}

// P102: the second read is not of what is older, by each order.
func TestSecondReadIsNotOlder(t *testing.T) {
	neverSees(t, impl.ShapeTwice, "0 0 / 1 0 0; 0 1 / 1 0 0; 1 1 / 1 0 0", func(s impl.Seen) bool { return s.Reads[0] == 1 && s.Reads[1] == 0 })
}

// P103: with walls nothing odd is seen by any order; each allows just what the strict one does.
func TestShapesWithWallsAreStrict(t *testing.T) {
	for _, shape := range allShapes() {
		p := shapeOf(t, shape, impl.HowWalls)
		want := impl.MachStrict(p)
		for _, kind := range orders() {
			list := impl.OrderAll(p, kind)
			if impl.SeenIn(list, oddOf(t, shape)) || !sameSeens(list, want) {
				t.Errorf("shape %d, order %d: %s, not %s", shape, kind, seenTexts(list), seenTexts(want))
			}
		}
	}
}

// P104: what is odd is seen in some way of the plain shape, and in some of each other but the copies of ShapeRound, which would go back to themselves.
func TestOddIsSeenInSomeWay(t *testing.T) {
	eachShape(t, func(shape, how int, p impl.Prog) {
		want := shape != impl.ShapeRound || how != impl.HowCopy
		got, again := false, false
		for _, x := range impl.ExecAll(p) {
			s, ok := impl.ExecSeen(p, x)
			got = got || ok && sameSeen(s, oddOf(t, shape))
		}
		for _, x := range plainWays(p) {
			again = again || sameSeen(plainSeenOf(p, x), oddOf(t, shape))
		}
		if got != want || again != want {
			t.Errorf("shape %d, how %d: %v, %v", shape, how, got, again)
		}
	})
	// The way of each plain shape, told by hand: from whom each reads, and who wrote behind whom.
	for shape, x := range map[int]impl.Exec{
		1: way(nums(-2, -1, -2, -1), nums(0), nums(2), nil), 2: way(nums(-2, -2, 1, -1), nums(0), nums(1), nil), 3: way(nums(3, -2, 1, -2), nums(3), nums(1), nil),
		4: way(nums(-2, 0, -1), nums(0), nil, nil), 5: way(nums(-2, -2, -2, -2), nums(3, 0), nums(1, 2), nil), 6: way(nums(-2, 7, -1, -2, -2, -2, -2, -2), nums(4), nums(7), nil),
	} {
		if s, ok := impl.ExecSeen(shapeOf(t, shape, impl.HowPlain), x); !ok || !sameSeen(s, oddOf(t, shape)) {
			t.Errorf("shape %d: %v, %v", shape, s, ok)
		}
	}
}

// P105: a shape that gives and takes, made plain, is the plain one; the others stay.
func TestPlainShapes(t *testing.T) {
	eachShape(t, func(shape, how int, p impl.Prog) {
		want := p
		if how == impl.HowGive {
			want = shapeOf(t, shape, impl.HowPlain)
			if sameProg(p, want) {
				t.Errorf("shape %d gives nothing: %v", shape, p)
			}
		}
		if got := impl.TurnPlain(p); !sameProg(got, want) {
			t.Errorf("shape %d, how %d: %v", shape, how, got)
		}
	})
}

// P106: a plain shape with walls everywhere is the one with walls, but of ShapeWait, which stays plain.
func TestShapesWithWallsEverywhere(t *testing.T) {
	for _, shape := range allShapes() {
		plain, walled := shapeOf(t, shape, impl.HowPlain), shapeOf(t, shape, impl.HowWalls)
		all, ok := impl.WallAll(plain)
		if !ok || sameProg(all, walled) != (shape != impl.ShapeWait) {
			t.Errorf("shape %d: %v, %v, not %v", shape, all, ok, walled)
		}
		if sameProg(plain, walled) != (shape == impl.ShapeWait) {
			t.Errorf("shape %d: plain %v, with walls %v", shape, plain, walled)
		}
	}
}

// What is said once: no two answers share memory, nor two lists of one answer; nothing is kept.
func TestShapeAnswersShareNothing(t *testing.T) {
	eachShape(t, func(shape, how int, p impl.Prog) {
		want := tableShape(shape, how)
		again, ok := impl.ShapeOf(shape, how)
		if !scribbleProg(p) {
			t.Errorf("shape %d, how %d: lists of an answer share memory", shape, how)
		}
		if progText(again, ok) != want || progText(impl.ShapeOf(shape, how)) != want {
			t.Errorf("shape %d, how %d: answers share memory, or something is kept", shape, how)
		}
	})
	// All at once: writing over one changes no other, in whatever shape and way.
	for at := range 24 {
		var all []impl.Prog
		eachShape(t, func(shape, how int, p impl.Prog) { all = append(all, p) })
		scribbleProg(all[at])
		for i, p := range all {
			if want := tableShape(1+i/4, i%4); i != at && plainText(p) != want {
				t.Errorf("%d shares memory with %d: %v", i, at, p)
			}
		}
	}
	var odds []impl.Seen
	for range 2 {
		for _, shape := range allShapes() {
			odds = append(odds, oddOf(t, shape))
		}
	}
	if !scribble(odds) {
		t.Error("what is odd shares memory:", odds)
	}
	for shape, text := range oddTexts() {
		if got := seenText(impl.ShapeOdd(shape)); got != text {
			t.Errorf("odd of shape %d: something is kept: %s", shape, got)
		}
	}
}

// What is said once: the answers are the same however often the call is made, whatever was asked ahead of it, and by many at once.
func TestShapesAreTheSameEachTime(t *testing.T) {
	ask := func(at int) string {
		shape, how := at/6-1, at%6-1 // those that are none, too
		return progText(impl.ShapeOf(shape, how)) + ";" + seenText(impl.ShapeOdd(shape))
	}
	var want []string
	for at := range 54 {
		want = append(want, ask(at))
	}
	for step := 1; step < 54; step += 2 {
		for i := range 54 {
			if at := i * step % 54; ask(at) != want[at] {
				t.Fatalf("%d: %s, not %s", at, ask(at), want[at])
			}
		}
	}
	var all sync.WaitGroup
	for range 8 {
		all.Go(func() {
			for i := range 54 * 20 {
				if got := ask(i % 54); got != want[i%54] {
					t.Errorf("%d, at once: %s, not %s", i%54, got, want[i%54])
				}
			}
		})
	}
	all.Wait()
}
