package tests

import (
	"fmt"
	"math"
	"math/rand/v2"
	"slices"
	"strings"
	"sync"
	"testing"

	"loop.example/fathomline/impl"
)

func orders() []int { return nums(impl.OrderStrict, impl.OrderLate, impl.OrderLoose) }

// noOrders is numbers of no order.
func noOrders() []int {
	return nums(0, -1, 4, 5, 10, -2, -3, 255, 256, 257, 259, 1<<32, 1<<32+1, 1<<32+3, math.MinInt, math.MinInt+1, math.MaxInt)
}

// plainLinks is events, two by two, of which the first must be ahead of the second.
type plainLinks map[[2]int]bool

// text writes all with two figures, so that they stand in order.
func (l plainLinks) text() string {
	var list []string
	for link := range l {
		list = append(list, fmt.Sprintf("%02d>%02d", link[0], link[1]))
	}
	slices.Sort(list)
	return strings.Join(list, " ")
}

// plainRead and plainOver go through what the way tells, and not through pairs of events.
func plainRead(x impl.Exec) plainLinks {
	list := plainLinks{}
	for at, from := range x.From {
		if from >= 0 {
			list[[2]int{from, at}] = true
		}
	}
	return list
}

func plainOver(events []plainEvent, x impl.Exec) plainLinks {
	list := plainLinks{}
	for _, row := range x.Order {
		for i := range row {
			for _, behind := range row[i+1:] {
				list[[2]int{row[i], behind}] = true
			}
		}
	}
	for at, e := range events {
		if !isRead(e.do) {
			continue
		}
		row := x.Order[e.do.Place]
		if x.From[at] >= 0 {
			row = row[slices.Index(row, x.From[at])+1:]
		}
		for _, behind := range row {
			list[[2]int{at, behind}] = true
		}
	}
	return list
}

func plainOwn(events []plainEvent) plainLinks {
	list := plainLinks{}
	for a, first := range events {
		for b, second := range events[:a] {
			if first.Thread == second.Thread {
				list[[2]int{b, a}] = true
			}
		}
	}
	return list
}

// only leaves those out that are not so.
func (l plainLinks) only(events []plainEvent, so func(a, b plainEvent) bool) plainLinks {
	list := plainLinks{}
	for link := range l {
		if so(events[link[0]], events[link[1]]) {
			list[link] = true
		}
	}
	return list
}

func (l plainLinks) and(others ...plainLinks) plainLinks {
	list := plainLinks{}
	for _, each := range append(others, l) {
		for link := range each {
			list[link] = true
		}
	}
	return list
}

func ofTwo(a, b plainEvent) bool { return a.Thread != b.Thread }

func atOnePlace(a, b plainEvent) bool {
	return usesOf(thread(a.do, b.do)) == 2 && a.do.Place == b.do.Place
}

// plainKept is what of own the loose order keeps: each thread is gone through once, and of each event is told what it stays behind.
func plainKept(events []plainEvent) plainLinks {
	list := plainLinks{}
	var mine, inside, held []int // all of the thread; the reader that is in, and what it did; what all stays behind
	read := -1
	for at, e := range events {
		if at == 0 || events[at-1].Thread != e.Thread {
			mine, inside, held, read = nil, nil, nil, -1
		}
		behind := slices.Clone(held)
		if len(inside) > 0 {
			behind = append(behind, inside[0])
		}
		switch e.do.Kind {
		case impl.DoWall, impl.DoWait:
			behind = mine
			held = append(held, at)
		case impl.DoTake:
			held = append(held, at)
		case impl.DoGive:
			behind = mine
		case impl.DoCopy:
			behind = append(behind, read)
		case impl.DoOut:
			behind = append(behind, inside...)
			inside = nil
		}
		for _, a := range behind {
			list[[2]int{a, at}] = true
		}
		if isRead(e.do) {
			read = at
		}
		if e.do.Kind == impl.DoIn || len(inside) > 0 {
			inside = append(inside, at)
		}
		mine = append(mine, at)
	}
	return list
}

// plainOrder is all that must be ahead of something by itself, by an order.
func plainOrder(p impl.Prog, x impl.Exec, kind int) plainLinks {
	events := plainEvents(p)
	own, read, over := plainOwn(events), plainRead(x), plainOver(events, x)
	switch kind {
	case impl.OrderStrict:
		return own.and(read, over)
	case impl.OrderLate:
		kept := own.only(events, func(a, b plainEvent) bool { return !isWrite(a.do) || !isRead(b.do) })
		return kept.and(read.only(events, ofTwo), over)
	case impl.OrderLoose:
		return plainKept(events).and(read.only(events, ofTwo), over.only(events, ofTwo))
	}
	return plainLinks{}
}

// goesRound takes away, as long as there is one, an event that none is ahead of.
func (l plainLinks) goesRound(n int) bool {
	left := map[int]bool{}
	for at := range n {
		left[at] = true
	}
	for {
		held := map[int]bool{}
		for link := range l {
			if left[link[0]] {
				held[link[1]] = true
			}
		}
		before := len(left)
		for at := range n {
			if !held[at] {
				delete(left, at)
			}
		}
		if len(left) == before {
			return before > 0
		}
	}
}

// plainPair is one who waits and one reader, each with both its events.
type plainPair struct{ begin, end, in, out int }

func plainPairs(events []plainEvent) []plainPair {
	var list []plainPair
	for end, e := range events {
		if !e.Last {
			continue
		}
		in := -1
		for at, r := range events {
			if r.do.Kind == impl.DoIn {
				in = at
			}
			if r.do.Kind == impl.DoOut {
				list = append(list, plainPair{end - 1, end, in, at})
			}
		}
	}
	return list
}

// plainPlacesOk says whether at each place all is in order.
func plainPlacesOk(events []plainEvent, x impl.Exec) bool {
	return !plainOwn(events).only(events, atOnePlace).and(plainRead(x), plainOver(events, x)).goesRound(len(events))
}

// plainHolds is told in the document's words: all rows of choices are gone through.
func plainHolds(p impl.Prog, x impl.Exec, kind int) bool {
	events := plainEvents(p)
	order, pairs := plainOrder(p, x, kind), plainPairs(events)
	if !plainPlacesOk(events, x) || order.goesRound(len(events)) {
		return false
	}
	for choice := range 1 << len(pairs) {
		added := plainLinks{}
		for i, pair := range pairs {
			if choice>>i&1 == 0 {
				added[[2]int{pair.out, pair.end}] = true
			} else {
				added[[2]int{pair.begin, pair.in}] = true
			}
		}
		if !order.and(added).goesRound(len(events)) {
			return true
		}
	}
	return false
}

// lineHolds tells it in another way: all events can be done one behind the other, so that no reader is in from ahead of the beginning of waiting to behind its end.
func lineHolds(p impl.Prog, x impl.Exec, kind int) bool {
	events := plainEvents(p)
	if !plainPlacesOk(events, x) {
		return false
	}
	ahead := make([]uint32, len(events))
	for link := range plainOrder(p, x, kind) {
		ahead[link[1]] |= 1 << link[0]
	}
	pairs := plainPairs(events)
	late := map[uint64]bool{} // what was done, and who has been in since ahead of which beginning: it led nowhere
	var more func(done uint32, held uint32) bool
	more = func(done, held uint32) bool {
		if done == 1<<len(events)-1 {
			return true
		}
		mark := uint64(done)<<32 | uint64(held)
		if late[mark] {
			return false
		}
		late[mark] = true
		for at := range events {
			if done>>at&1 == 1 || ahead[at]&^done != 0 {
				continue
			}
			now, ok := held, true
			for i, pair := range pairs {
				switch at {
				case pair.begin:
					if done>>pair.in&1 == 1 && done>>pair.out&1 == 0 {
						now |= 1 << i
					}
				case pair.out:
					now &^= 1 << i
				case pair.end:
					ok = ok && held>>i&1 == 0
				}
			}
			if ok && more(done|1<<at, now) {
				return true
			}
		}
		return false
	}
	return more(0, 0)
}

// waitingProg is a program that is ok, of threads that go in and out and wait.
func waitingProg(r *rand.Rand) impl.Prog {
	for {
		var p impl.Prog
		for range 2 + r.IntN(2) {
			var steps []impl.Do
			for range 1 + r.IntN(3) {
				a, b, v := r.IntN(2), r.IntN(3), 1+r.IntN(3)
				steps = append(steps, [][]impl.Do{
					{in(), load(a), load(1 - a), out()}, {in(), load(b), out()}, {in(), store(a, v), out()}, {in(), out()}, {store(a, v), wait(), store(1-a, v)}, {store(b, v), wait()}, {wait()}, {wait(), load(a)}, {in(), take(a), give(b, v), out()}, {wait(), wait(), store(a, v)},
				}[r.IntN(10)]...)
			}
			p.Threads = append(p.Threads, steps)
		}
		if plainOk(p) {
			return p
		}
	}
}

// meetingProg is a program that is ok, of two readers that meet each other and one who waits, once or more often, so that what must be of one reader may bar what must be of the other.
func meetingProg(r *rand.Rand) impl.Prog {
	one := func(place int) []impl.Do {
		return thread([]impl.Do{load(place), load(place), store(place, 1+r.IntN(2)), take(place), give(place, 3)}[r.IntN(5)])
	}
	a, b, c := one(0), one(1), one(1)
	d, e, f := one(2), one(0), one(2)
	if r.IntN(3) == 0 {
		a, b = b, a
	}
	if r.IntN(3) == 0 {
		c, d = d, c
	}
	waits := slices.Repeat(thread(wait()), 1+r.IntN(3))
	list := [][]impl.Do{slices.Concat(thread(in()), a, b, thread(out())), slices.Concat(thread(in()), c, d, thread(out())), slices.Concat(e, waits, f)}
	r.Shuffle(len(list), func(i, j int) { list[i], list[j] = list[j], list[i] })
	return prog(list...)
}

// crossingProg is a program that is ok, of threads that use two places each, one behind the other, with something between or around that may keep them in order.
func crossingProg(r *rand.Rand) impl.Prog {
	for {
		var p impl.Prog
		for range 2 + r.IntN(2) {
			a, v := r.IntN(2), 1+r.IntN(2)
			forms := func(place int) impl.Do {
				return []impl.Do{load(place), store(place, v), load(place), store(place, 3-v), take(place), give(place, v)}[r.IntN(6)]
			}
			one, other := forms(a), forms(1-a)
			p.Threads = append(p.Threads, [][]impl.Do{
				{one, other}, {one, other}, {one, wall(), other}, {load(a), copyTo(1 - a)}, {load(a), load(1 - a), copyTo(2 * r.IntN(2))}, {in(), one, other, out()}, {in(), one, out(), other}, {one, in(), other, out()}, {one, wait(), other}, {one},
			}[r.IntN(10)])
		}
		if plainOk(p) {
			return p
		}
	}
}

// orderPrograms is programs that are ok: some of those of other layers, those in which one waits for readers, and those that orders tell apart. They are made once: no test changes them.
var orderPrograms = sync.OnceValue(func() []impl.Prog {
	var list []impl.Prog
	for i, p := range execPrograms() {
		if i < 200 || i%3 == 0 { // the first are those at the edges
			list = append(list, p)
		}
	}
	r := rand.New(rand.NewPCG(41, 42))
	for range 400 {
		list = append(list, waitingProg(r), meetingProg(r), crossingProg(r), crossingProg(r))
	}
	return append(list, limitProgs()...)
})

// someWays is all ways of a program, or as many as that, spread over them.
func someWays(p impl.Prog, most int) []impl.Exec {
	all := impl.ExecAll(p)
	if len(all) <= most {
		return all
	}
	var list []impl.Exec
	for i := range most {
		list = append(list, all[i*len(all)/most])
	}
	return list
}

// hasLinks is what OrderHas says of all numbers of events, and of some that are none.
func hasLinks(p impl.Prog, x impl.Exec, kind int) plainLinks {
	list := plainLinks{}
	n := len(plainEvents(p))
	for a := -1; a < n+1; a++ {
		for b := -1; b < n+1; b++ {
			if impl.OrderHas(p, x, kind, a, b) {
				list[[2]int{a, b}] = true
			}
		}
	}
	return list
}

// shortLinks writes the same without needless zeros.
func shortLinks(l plainLinks) string {
	text := strings.ReplaceAll(" "+l.text(), " 0", " ")
	return strings.TrimSpace(strings.ReplaceAll(text, ">0", ">"))
}

// P33, P34, P49: what must be ahead of what by itself, told by hand; no late one, where it is that of the strict order, and no loose one, where it is the late one.
func TestMustBeAheadAsTold(t *testing.T) {
	const same = "same"
	for _, c := range []struct {
		text                string
		x                   impl.Exec
		strict, late, loose string
	}{
		{"", way(nil, nil, nil, nil), "", same, same},
		{"||", way(nil, nil, nil, nil), "", same, same},
		{"wall", way(nums(-2), nil, nil, nil), "", same, same},
		{"wait", way(nums(-2, -2), nil, nil, nil), "0>1", same, same},
		{"| store x 1 | load y", way(nums(-2, -1), nums(0), nil, nil), "", same, same},
		{"store x 1, store y 1 | load y, load x", way(nums(-2, -2, 1, -1), nums(0), nums(1), nil), "0>1 1>2 2>3 3>0", same, "1>2 3>0"},
		{"store x 1, load y | store y 1, load x", way(nums(-2, -1, -2, -1), nums(0), nums(2), nil), "0>1 1>2 2>3 3>0", "1>2 3>0", same},
		{"load x, store y 1 | load y, store x 1", way(nums(3, -2, 1, -2), nums(3), nums(1), nil), "0>1 1>2 2>3 3>0", same, "1>2 3>0"},
		// two writes of one place, and more, in one thread and in two
		{"store x 1, store x 2", way(nums(-2, -2), nums(0, 1), nil, nil), "0>1", same, ""},
		{"store x 1, store x 2", way(nums(-2, -2), nums(1, 0), nil, nil), "0>1 1>0", same, ""},
		{"store x 1 | store x 2", way(nums(-2, -2), nums(0, 1), nil, nil), "0>1", same, same},
		{"store x 1 | store x 2", way(nums(-2, -2), nums(1, 0), nil, nil), "1>0", same, same},
		{"store x 1 | store y 2", way(nums(-2, -2), nums(0), nums(1), nil), "", same, same},
		{"store x 1, store x 2 | store x 3", way(nums(-2, -2, -2), nums(0, 1, 2), nil, nil), "0>1 0>2 1>2", same, "0>2 1>2"},
		{"store x 1, store x 2 | store x 3", way(nums(-2, -2, -2), nums(1, 2, 0), nil, nil), "0>1 1>0 1>2 2>0", same, "1>2 2>0"},
		{"store z 1 | store z 2 | store z 3", way(nums(-2, -2, -2), nil, nil, nums(2, 0, 1)), "0>1 2>0 2>1", same, same},
		{"load x, copy x | store x 1", way(nums(-1, -2, -2), nums(2, 1), nil, nil), "0>1 0>2 2>1", same, same},
		// a read from a write of its own thread, ahead of it and behind it
		{"store x 1, load x", way(nums(-2, 0), nums(0), nil, nil), "0>1", "", same},
		{"store x 1, load x", way(nums(-2, -1), nums(0), nil, nil), "0>1 1>0", "1>0", ""},
		{"load x, store x 1", way(nums(-1, -2), nums(1), nil, nil), "0>1", same, ""},
		{"load x, store x 1", way(nums(1, -2), nums(1), nil, nil), "0>1 1>0", "0>1", ""},
		{"give x 1, take x", way(nums(-2, 0), nums(0), nil, nil), "0>1", "", same},
		{"take x, give x 1", way(nums(1, -2), nums(1), nil, nil), "0>1 1>0", "0>1", same},
		// a read, and who wrote there behind what it read
		{"load x | store x 1", way(nums(-1, -2), nums(1), nil, nil), "0>1", same, same},
		{"load x | store x 1", way(nums(1, -2), nums(1), nil, nil), "1>0", same, same},
		{"load y | store x 1", way(nums(-1, -2), nums(1), nil, nil), "", same, same},
		{"load x | store x 1, store x 2", way(nums(-1, -2, -2), nums(1, 2), nil, nil), "0>1 0>2 1>2", same, "0>1 0>2"},
		{"load x | store x 1, store x 2", way(nums(1, -2, -2), nums(1, 2), nil, nil), "0>2 1>0 1>2", same, "0>2 1>0"},
		{"load x | store x 1, store x 2", way(nums(2, -2, -2), nums(1, 2), nil, nil), "1>2 2>0", same, "2>0"},
		{"load x | store x 1, store x 2", way(nums(2, -2, -2), nums(2, 1), nil, nil), "0>1 1>2 2>0 2>1", same, "0>1 2>0"},
		{"load x | store x 1 | store x 2", way(nums(1, -2, -2), nums(1, 2), nil, nil), "0>2 1>0 1>2", same, same},
		{"load z | store z 1 | store z 2", way(nums(1, -2, -2), nil, nil, nums(2, 1)), "1>0 2>1", same, same},
		{"store x 1, load x | store x 2", way(nums(-2, 0, -2), nums(0, 2), nil, nil), "0>1 0>2 1>2", "0>2 1>2", same},
		{"store x 1, load x | store x 2", way(nums(-2, 2, -2), nums(0, 2), nil, nil), "0>1 0>2 2>1", "0>2 2>1", same},
		{"store x 1, load x | store x 2", way(nums(-2, 2, -2), nums(2, 0), nil, nil), "0>1 1>0 2>0 2>1", "1>0 2>0 2>1", "2>0 2>1"},
		// walls, and who waits, on either side
		{"store x 1, wall, load y", way(nums(-2, -2, -1), nums(0), nil, nil), "0>1 0>2 1>2", "0>1 1>2", same},
		{"load x, wall, load y", way(nums(-1, -2, -1), nil, nil, nil), "0>1 0>2 1>2", same, "0>1 1>2"},
		{"load x, wall, wall, store y 1", way(nums(-1, -2, -2, -2), nil, nums(3), nil), "0>1 0>2 0>3 1>2 1>3 2>3", same, "0>1 0>2 1>2 1>3 2>3"},
		{"load x, wait, store y 1", way(nums(-1, -2, -2, -2), nil, nums(3), nil), "0>1 0>2 0>3 1>2 1>3 2>3", same, "0>1 0>2 1>2 1>3 2>3"},
		{"store x 1, wait, load y", way(nums(-2, -2, -2, -1), nums(0), nil, nil), "0>1 0>2 0>3 1>2 1>3 2>3", "0>1 0>2 1>2 1>3 2>3", same},
		{"wall, in, wall, out, wall", way(nums(-2, -2, -2, -2, -2), nil, nil, nil), "0>1 0>2 0>3 0>4 1>2 1>3 1>4 2>3 2>4 3>4", same, same},
		{"load x | wall | load y", way(nums(-1, -2, -1), nil, nil, nil), "", same, same},
		// what is taken and given, on either side of a read and of a write
		{"load x, store y 1, take z, load x, store x 1", way(nums(-1, -2, -1, -1, -2), nums(4), nums(1), nil), "0>1 0>2 0>3 0>4 1>2 1>3 1>4 2>3 2>4 3>4", "0>1 0>2 0>3 0>4 1>4 2>3 2>4 3>4", "2>3 2>4"},
		{"load x, store y 1, give z 1, load x, store x 1", way(nums(-1, -2, -2, -1, -2), nums(4), nums(1), nums(2)), "0>1 0>2 0>3 0>4 1>2 1>3 1>4 2>3 2>4 3>4", "0>1 0>2 0>3 0>4 1>2 1>4 2>4 3>4", "0>2 1>2"},
		{"take x, take y", way(nums(-1, -1), nil, nil, nil), "0>1", same, same},
		{"give x 1, give y 1", way(nums(-2, -2), nums(0), nums(1), nil), "0>1", same, same},
		{"give x 1, take y", way(nums(-2, -1), nums(0), nil, nil), "0>1", "", same},
		{"take x, give y 1", way(nums(-1, -2), nil, nums(1), nil), "0>1", same, same},
		{"load x, take y", way(nums(-1, -1), nil, nil, nil), "0>1", same, ""},
		{"give x 1, store y 1", way(nums(-2, -2), nums(0), nums(1), nil), "0>1", same, ""},
		{"take x | give x 1", way(nums(1, -2), nums(1), nil, nil), "1>0", same, same},
		{"in, out, give x 1 | take y, in, out", way(nums(-2, -2, -2, -1, -2, -2), nums(2), nil, nil), "0>1 0>2 1>2 3>4 3>5 4>5", same, same},
		// what is copied, and the last read ahead of it
		{"load x, copy y", way(nums(-1, -2), nil, nums(1), nil), "0>1", same, same},
		{"load x, load y, copy z, load x, copy y", way(nums(-1, -1, -2, -1, -2), nil, nums(4), nums(2)), "0>1 0>2 0>3 0>4 1>2 1>3 1>4 2>3 2>4 3>4", "0>1 0>2 0>3 0>4 1>2 1>3 1>4 2>4 3>4", "1>2 3>4"},
		{"load x, copy y, copy z", way(nums(-1, -2, -2), nil, nums(1), nums(2)), "0>1 0>2 1>2", same, "0>1 0>2"},
		{"load x, store y 1, copy z", way(nums(-1, -2, -2), nil, nums(1), nums(2)), "0>1 0>2 1>2", same, "0>2"},
		{"take x, load y, copy z", way(nums(-1, -1, -2), nil, nil, nums(2)), "0>1 0>2 1>2", same, same},
		{"load x, take y, copy z", way(nums(-1, -1, -2), nil, nil, nums(2)), "0>1 0>2 1>2", same, "1>2"},
		// readers, and what stands between, ahead of and behind
		{"in, out", way(nums(-2, -2), nil, nil, nil), "0>1", same, same},
		{"load x, in, load y, store x 1, out, load z", way(nums(-1, -2, -1, -2, -2, -1), nums(3), nil, nil), "0>1 0>2 0>3 0>4 0>5 1>2 1>3 1>4 1>5 2>3 2>4 2>5 3>4 3>5 4>5", "0>1 0>2 0>3 0>4 0>5 1>2 1>3 1>4 1>5 2>3 2>4 2>5 3>4 4>5", "1>2 1>3 1>4 2>4 3>4"},
		{"in, out, in, load x, out", way(nums(-2, -2, -2, -1, -2), nil, nil, nil), "0>1 0>2 0>3 0>4 1>2 1>3 1>4 2>3 2>4 3>4", same, "0>1 2>3 2>4 3>4"},
		{"in, load x, out, load y, in, out", way(nums(-2, -1, -2, -1, -2, -2), nil, nil, nil), "0>1 0>2 0>3 0>4 0>5 1>2 1>3 1>4 1>5 2>3 2>4 2>5 3>4 3>5 4>5", same, "0>1 0>2 1>2 4>5"},
		{"in, out | in, out", way(nums(-2, -2, -2, -2), nil, nil, nil), "0>1 2>3", same, same},
		{"in, out | wait", way(nums(-2, -2, -2, -2), nil, nil, nil), "0>1 2>3", same, same},
	} {
		p := read(t, c.text)
		if c.late == same {
			c.late = c.strict
		}
		if c.loose == same {
			c.loose = c.late
		}
		for i, want := range []string{c.strict, c.late, c.loose} {
			if got := shortLinks(hasLinks(p, c.x, i+1)); got != want {
				t.Errorf("%s, %s, order %d: %s, not %s", c.text, wayText(c.x), i+1, got, want)
			}
		}
	}
}

// P33, P34, P49: of many programs, held against the second telling and against the promises themselves.
func TestMustBeAhead(t *testing.T) {
	for i, p := range orderPrograms() {
		if i%2 != 0 && i > 200 { // the first are those at the edges
			continue
		}
		events := plainEvents(p)
		for _, x := range someWays(p, 3) {
			var found []plainLinks
			for _, kind := range orders() {
				got, want := hasLinks(p, x, kind), plainOrder(p, x, kind)
				if got.text() != want.text() {
					t.Fatalf("%v, %s, order %d: %s, not %s", p, wayText(x), kind, got.text(), want.text())
				}
				found = append(found, got)
			}
			for at := range events {
				for _, got := range found {
					if got[[2]int{at, at}] {
						t.Fatalf("%v, %s: %d is ahead of itself", p, wayText(x), at)
					}
				}
				for b := at + 1; b < len(events) && events[b].Thread == events[at].Thread; b++ {
					behind := isWrite(events[at].do) && isRead(events[b].do)
					if !found[0][[2]int{at, b}] || found[1][[2]int{at, b}] == behind {
						t.Fatalf("%v, %s: %d and %d are not in order", p, wayText(x), at, b)
					}
				}
			}
			for link := range found[2] {
				if !found[1][link] {
					t.Fatalf("%v, %s: %v is loose, but not late", p, wayText(x), link)
				}
			}
			for link := range found[1] {
				if !found[0][link] {
					t.Fatalf("%v, %s: %v is late, but not strict", p, wayText(x), link)
				}
			}
		}
	}
}

// holdsText is the numbers of the orders by which a way holds.
func holdsText(p impl.Prog, x impl.Exec) string {
	text := ""
	for _, kind := range orders() {
		if impl.OrderHolds(p, x, kind) {
			text += fmt.Sprint(kind)
		}
	}
	return text
}

// P35: ways that are told by hand, and by which orders they hold.
func TestHoldsAsTold(t *testing.T) {
	rcu, swapped := "in, load y, load x, out | store x 1, wait, store y 1", "in, load x, load y, out | store x 1, wait, store y 1"
	early, late := "load y, in, load x, out | store x 1, wait, store y 1", "in, load y, out, load x | store x 1, wait, store y 1"
	meanwhile := "in, load x, load z, out | in, store z 1, load y, out | store x 1, wait, store y 1"
	twoWait := "in, load y, load x, out | store x 1, wait | wait, store y 1"
	for _, c := range []struct {
		text string
		x    impl.Exec
		want string
	}{
		{"", way(nil, nil, nil, nil), "123"}, {"||", way(nil, nil, nil, nil), "123"}, {"wall | wait | in, out", way(nums(-2, -2, -2, -2, -2), nil, nil, nil), "123"},
		{"store x 1, load y | store y 1, load x", way(nums(-2, -1, -2, -1), nums(0), nums(2), nil), "23"}, {"store x 1, load y | store y 1, load x", way(nums(-2, 2, -2, -1), nums(0), nums(2), nil), "123"},
		{"store x 1, wall, load y | store y 1, wall, load x", way(nums(-2, -2, -1, -2, -2, -1), nums(0), nums(3), nil), ""}, {"store x 1, wall, load y | store y 1, load x", way(nums(-2, -2, -1, -2, -1), nums(0), nums(3), nil), "23"},
		{"store x 1, store y 1 | load y, load x", way(nums(-2, -2, 1, -1), nums(0), nums(1), nil), "3"}, {"store x 1, give y 1 | take y, load x", way(nums(-2, -2, 1, -1), nums(0), nums(1), nil), ""},
		{"store x 1, give y 1 | load y, load x", way(nums(-2, -2, 1, -1), nums(0), nums(1), nil), "3"}, {"store x 1, store y 1 | take y, load x", way(nums(-2, -2, 1, -1), nums(0), nums(1), nil), "3"},
		{"store x 1, give y 1 | load y, take x", way(nums(-2, -2, 1, -1), nums(0), nums(1), nil), "3"}, {"give x 1, store y 1 | take y, load x", way(nums(-2, -2, 1, -1), nums(0), nums(1), nil), "3"},
		{"load x, store y 1 | load y, store x 1", way(nums(3, -2, 1, -2), nums(3), nums(1), nil), "3"}, {"load x, copy y | load y, store x 1", way(nums(3, -2, 1, -2), nums(3), nums(1), nil), "3"}, {"load x, copy y | take y, store x 1", way(nums(3, -2, 1, -2), nums(3), nums(1), nil), ""},
		{"load x, load z, copy y | take y, store x 1", way(nums(4, -1, -2, 2, -2), nums(4), nums(2), nil), "3"}, {"load z, load x, copy y | take y, store x 1", way(nums(-1, 4, -2, 2, -2), nums(4), nums(2), nil), ""},
		// at one place all is in order by each of them
		{"store x 1, store x 2", way(nums(-2, -2), nums(0, 1), nil, nil), "123"}, {"store x 1, store x 2", way(nums(-2, -2), nums(1, 0), nil, nil), ""}, {"store x 1 | store x 2", way(nums(-2, -2), nums(1, 0), nil, nil), "123"},
		{"store x 1, load x", way(nums(-2, 0), nums(0), nil, nil), "123"}, {"store x 1, load x", way(nums(-2, -1), nums(0), nil, nil), ""}, {"load x, store x 1", way(nums(-1, -2), nums(1), nil, nil), "123"}, {"load x, store x 1", way(nums(1, -2), nums(1), nil, nil), ""},
		{"store x 1 | load x, load x", way(nums(-2, -1, 0), nums(0), nil, nil), "123"}, {"store x 1 | load x, load x", way(nums(-2, 0, -1), nums(0), nil, nil), ""}, {"store x 1, store x 2 | load x, load x", way(nums(-2, -2, 1, 0), nums(0, 1), nil, nil), ""},
		{"load x, store x 1 | store x 2", way(nums(2, -2, -2), nums(1, 2), nil, nil), ""}, {"load x, store x 1 | store x 2", way(nums(2, -2, -2), nums(2, 1), nil, nil), "123"}, {"store x 1, load x | store x 2", way(nums(-2, 2, -2), nums(2, 0), nil, nil), ""}, {"store x 1, load x | store x 2", way(nums(-2, 2, -2), nums(0, 2), nil, nil), "123"},
		{"store x 1 | load x, load x | load x, load x", way(nums(-2, -1, 0, -1, 0), nums(0), nil, nil), "123"}, {"store x 1 | store x 2 | load x, load x", way(nums(-2, -2, 0, 1), nums(1, 0), nil, nil), ""},
		{"store x 1, load x, load y | store y 1, load y, load x", way(nums(-2, 0, -1, -2, 3, -1), nums(0), nums(3), nil), "23"},
		{"store x 2, store y 1 | store y 2, store x 1", way(nums(-2, -2, -2, -2), nums(3, 0), nums(1, 2), nil), "3"}, {"give x 2, give y 1 | give y 2, give x 1", way(nums(-2, -2, -2, -2), nums(3, 0), nums(1, 2), nil), ""},
		{"store x 1 | load x, store y 1 | load y, load x", way(nums(-2, 0, -2, 2, -1), nums(0), nums(2), nil), "3"}, {"store x 1 | load x, copy y | take y, load x", way(nums(-2, 0, -2, 2, -1), nums(0), nums(2), nil), ""},
		// one who waits and one reader
		{rcu, way(nums(-2, -1, -1, -2, -2, -2, -2, -2), nums(4), nums(7), nil), "123"}, {rcu, way(nums(-2, -1, 4, -2, -2, -2, -2, -2), nums(4), nums(7), nil), "123"}, {rcu, way(nums(-2, 7, 4, -2, -2, -2, -2, -2), nums(4), nums(7), nil), "123"}, {rcu, way(nums(-2, 7, -1, -2, -2, -2, -2, -2), nums(4), nums(7), nil), ""},
		{swapped, way(nums(-2, 4, -1, -2, -2, -2, -2, -2), nums(4), nums(7), nil), "123"}, {swapped, way(nums(-2, -1, 7, -2, -2, -2, -2, -2), nums(4), nums(7), nil), ""},
		{early, way(nums(7, -2, -1, -2, -2, -2, -2, -2), nums(4), nums(7), nil), "3"}, {late, way(nums(-2, 7, -2, -1, -2, -2, -2, -2), nums(4), nums(7), nil), "3"},
		{"load y, load x | store x 1, wait, store y 1", way(nums(5, -1, -2, -2, -2, -2), nums(2), nums(5), nil), "3"}, {"load x, load y | store x 1, wait, store y 1", way(nums(-1, 5, -2, -2, -2, -2), nums(2), nums(5), nil), "123"},
		{"in, load x, out, in, load y, out | store x 1, wait, store y 1", way(nums(-2, -1, -2, -2, 9, -2, -2, -2, -2, -2), nums(6), nums(9), nil), "123"}, {"in, load y, out, in, load x, out | store x 1, wait, store y 1", way(nums(-2, 9, -2, -2, -1, -2, -2, -2, -2, -2), nums(6), nums(9), nil), "3"},
		// a reader goes in while one waits for another one
		{meanwhile, way(nums(-2, -1, 5, -2, -2, -2, 11, -2, -2, -2, -2, -2), nums(8), nums(11), nums(5)), "123"}, {meanwhile, way(nums(-2, 8, 5, -2, -2, -2, -1, -2, -2, -2, -2, -2), nums(8), nums(11), nums(5)), "123"},
		{"in, load x, store z 1, out | in, load z, load y, out | store x 1, wait, store y 1", way(nums(-2, -1, -2, -2, -2, 2, 11, -2, -2, -2, -2, -2), nums(8), nums(11), nums(2)), "123"},
		{"in, load x, out, store z 1 | in, load z, load y, out | store x 1, wait, store y 1", way(nums(-2, -1, -2, -2, -2, 3, 11, -2, -2, -2, -2, -2), nums(8), nums(11), nums(3)), "123"},
		{"in, load x, load z, out | in, load x, load y, out | store x 1, wait, store y 1", way(nums(-2, -1, -1, -2, -2, -1, 11, -2, -2, -2, -2, -2), nums(8), nums(11), nil), ""},
		// what must be of one reader bars what must be of another one
		{"in, load x, load y, out | in, store y 1, load z, out | store x 1, wait, store z 1", way(nums(-2, -1, 5, -2, -2, -2, 11, -2, -2, -2, -2, -2), nums(8), nums(5), nums(11)), "123"}, {"in, load x, load y, out | in, store y 1, load z, out | store x 1, wait, wait, store z 1", way(nums(-2, -1, 5, -2, -2, -2, 13, -2, -2, -2, -2, -2, -2, -2), nums(8), nums(5), nums(13)), ""},
		{"in, load x, out, load y | in, store y 1, load z, out | store x 1, wait, wait, store z 1", way(nums(-2, -1, -2, 5, -2, -2, 13, -2, -2, -2, -2, -2, -2, -2), nums(8), nums(5), nums(13)), "123"}, {"in, load y, out, load x | in, store y 1, load z, out | store x 1, wait, wait, store z 1", way(nums(-2, 5, -2, -1, -2, -2, 13, -2, -2, -2, -2, -2, -2, -2), nums(8), nums(5), nums(13)), "3"},
		{"in, load x, load y, out | store y 1, in, load z, out | store x 1, wait, wait, store z 1", way(nums(-2, -1, 4, -2, -2, -2, 13, -2, -2, -2, -2, -2, -2, -2), nums(8), nums(4), nums(13)), "123"},
		// two who wait
		{twoWait, way(nums(-2, 9, -1, -2, -2, -2, -2, -2, -2, -2), nums(4), nums(9), nil), "123"},
		{"in, load y, load x, out | store x 1, wait, wait, store y 1", way(nums(-2, 9, -1, -2, -2, -2, -2, -2, -2, -2), nums(4), nums(9), nil), ""},
		{"in, load x, load y, out, wait | in, load z, load x, out | wait, store x 1", way(nums(-2, -1, -1, -2, -2, -2, -2, -1, -1, -2, -2, -2, -2), nums(12), nil, nil), "123"},
		{"store x 1, wait, load y | store y 1, wait, load x", way(nums(-2, -2, -2, -1, -2, -2, -2, -1), nums(0), nums(4), nil), ""},
	} {
		p := read(t, c.text)
		if got := holdsText(p, c.x); got != c.want || !impl.ExecOk(p, c.x) {
			t.Errorf("%s, %s: %q, not %q", c.text, wayText(c.x), got, c.want)
		}
	}
}

// P35: all ways of many programs, held against both other tellings.
func TestHolds(t *testing.T) {
	held := map[string]int{}
	chosen := 0
	for i, p := range orderPrograms() {
		pairs := len(plainPairs(plainEvents(p)))
		for _, x := range someWays(p, 12) {
			text := holdsText(p, x)
			if !slices.Contains([]string{"", "3", "23", "123"}, text) {
				t.Fatalf("%v, %s: it holds by %s alone", p, wayText(x), text)
			}
			held[text]++
			if i%2 == 0 && pairs == 0 {
				continue
			}
			want, line := "", ""
			for _, kind := range orders() {
				if pairs <= 6 && plainHolds(p, x, kind) {
					want += fmt.Sprint(kind)
				}
				if pairs > 0 && lineHolds(p, x, kind) {
					line += fmt.Sprint(kind)
				}
			}
			if pairs <= 6 && text != want || pairs > 0 && text != line {
				t.Fatalf("%v, %s: it holds by %q, not by %q, in a line by %q", p, wayText(x), text, want, line)
			}
			if pairs > 0 {
				chosen++
			}
		}
	}
	if held[""] < 1000 || held["3"] < 200 || held["23"] < 50 || held["123"] < 1000 || chosen < 1000 {
		t.Error(held, chosen)
	}
}

// orderTexts is what is seen by each of the orders.
func orderTexts(p impl.Prog) []string {
	var list []string
	for _, kind := range orders() {
		list = append(list, seenTexts(impl.OrderAll(p, kind)))
	}
	return list
}

// P30 to P32, P37: what is seen of programs that are told by hand: strictly, and what is more late, and loosely.
func TestAllAsTold(t *testing.T) {
	three, passed := "0 1 / 1 1 0; 1 0 / 1 1 0; 1 1 / 1 1 0", "0 0 / 1 1 0; 0 1 / 1 1 0; 1 1 / 1 1 0"
	round, twice := "0 0 / 1 1 0; 0 1 / 1 1 0; 1 0 / 1 1 0", "0 0 / 1 0 0; 0 1 / 1 0 0; 1 1 / 1 0 0"
	for _, c := range []struct{ text, strict, late, loose string }{
		{"", "/ 0 0 0", "", ""}, {"||", "/ 0 0 0", "", ""}, {"wait | in, out | wall", "/ 0 0 0", "", ""},
		{"store x 1, load y | store y 1, load x", three, "0 0 / 1 1 0", ""},
		{"give x 1, take y | give y 1, take x", three, "0 0 / 1 1 0", ""},
		{"store x 1, load y | store y 1, wall, load x", three, "0 0 / 1 1 0", ""},
		{"store x 1, wall, load y | store y 1, wall, load x", three, "", ""},
		{"store x 1, wait, load y | store y 1, wall, load x", three, "", ""},
		{"store x 1, in, out, load y | store y 1, in, out, load x", three, "", "0 0 / 1 1 0"},
		{"store x 1, in, load y, out | store y 1, in, load x, out", three, "", "0 0 / 1 1 0"},
		{"in, store x 1, out, load y | in, store y 1, out, load x", three, "", "0 0 / 1 1 0"},
		{"store x 1, load x, load y | store y 1, load y, load x", "1 0 1 1 / 1 1 0; 1 1 1 0 / 1 1 0; 1 1 1 1 / 1 1 0", "1 0 1 0 / 1 1 0", ""},
		{"store x 1, store y 1 | load y, load x", passed, "", "1 0 / 1 1 0"},
		{"store x 1, give y 1 | take y, load x", passed, "", ""},
		{"store x 1, give y 1 | load y, load x", passed, "", "1 0 / 1 1 0"},
		{"store x 1, store y 1 | take y, load x", passed, "", "1 0 / 1 1 0"},
		{"give x 1, store y 1 | load y, take x", passed, "", "1 0 / 1 1 0"},
		{"store x 1, wall, store y 1 | load y, wall, load x", passed, "", ""},
		{"store x 1, wall, store y 1 | load y, load x", passed, "", "1 0 / 1 1 0"},
		{"store x 1, wait, store y 1 | load y, load x", passed, "", "1 0 / 1 1 0"},
		{"store x 1, in, store y 1, out | in, load y, out, load x", passed, "", "1 0 / 1 1 0"},
		{"load x, store y 1 | load y, store x 1", round, "", "1 1 / 1 1 0"},
		{"load x, store y 1 | take y, store x 1", round, "", "1 1 / 1 1 0"},
		{"load x, give y 1 | take y, store x 1", round, "", ""},
		{"load x, wall, store y 1 | load y, wait, store x 1", round, "", ""},
		{"load x, copy y | load y, copy x", "0 0 / 0 0 0", "", ""},
		{"load x, copy y | load y, store x 1", "0 0 / 1 0 0; 1 0 / 1 1 0", "", "1 1 / 1 1 0"},
		{"load x, copy y | take y, store x 1", "0 0 / 1 0 0; 1 0 / 1 1 0", "", ""},
		{"store x 1 | load x, load x", twice, "", ""},
		{"give x 1 | take x, take x", twice, "", ""},
		{"store x 2, store y 1 | store y 2, store x 1", "/ 1 1 0; / 1 2 0; / 2 1 0", "", "/ 2 2 0"},
		{"give x 2, give y 1 | give y 2, give x 1", "/ 1 1 0; / 1 2 0; / 2 1 0", "", ""},
		{"store x 1, store x 2 | store x 3", "/ 2 0 0; / 3 0 0", "", ""},
		{"in, load y, load x, out | store x 1, wait, store y 1", passed, "", ""},
		{"in, load y, load x, out | give x 1, wait, give y 1", passed, "", ""},
		{"in, load x, load y, out | store x 1, wait, store y 1", "0 0 / 1 1 0; 1 0 / 1 1 0; 1 1 / 1 1 0", "", ""},
		{"in, load y, out, load x | store x 1, wait, store y 1", passed, "", "1 0 / 1 1 0"},
		{"load y, in, load x, out | store x 1, wait, store y 1", passed, "", "1 0 / 1 1 0"},
		{"in, load y, out, in, load x, out | store x 1, wait, store y 1", passed, "", "1 0 / 1 1 0"},
		{"in, load x, out, in, load y, out | store x 1, wait, store y 1", "0 0 / 1 1 0; 0 1 / 1 1 0; 1 0 / 1 1 0; 1 1 / 1 1 0", "", ""},
		{"store x 1 | load x, store y 1 | load y, load x", "0 0 0 / 1 1 0; 0 0 1 / 1 1 0; 0 1 0 / 1 1 0; 0 1 1 / 1 1 0; 1 0 0 / 1 1 0; 1 0 1 / 1 1 0; 1 1 1 / 1 1 0", "", "1 1 0 / 1 1 0"},
		{"store x 1 | load x, copy y | take y, load x", "0 0 0 / 1 0 0; 0 0 1 / 1 0 0; 1 0 0 / 1 1 0; 1 0 1 / 1 1 0; 1 1 1 / 1 1 0", "", ""},
		{"store z 3 | load z, copy x | take x, copy y", "0 0 / 0 0 3; 3 0 / 3 0 3; 3 3 / 3 3 3", "", ""},
	} {
		p := read(t, c.text)
		want := c.strict
		got := orderTexts(p)
		for i, more := range []string{"", c.late, c.loose} {
			parts := append(strings.Split(want, "; "), strings.Split(more, "; ")...)
			parts = slices.DeleteFunc(parts, func(part string) bool { return part == "" })
			slices.Sort(parts) // all values are of one figure
			want = strings.Join(parts, "; ")
			if got[i] != want {
				t.Errorf("%s, order %d: %s, not %s", c.text, i+1, got[i], want)
			}
		}
	}
}

// P30, P31.
func TestOrdersAreTheirMachines(t *testing.T) {
	kinds := map[int]int{}
	more, waited := 0, 0
	list := slices.Clip(orderPrograms())
	r := rand.New(rand.NewPCG(43, 44))
	for range 1200 {
		list = append(list, randomProg(r), smallProg(r, 10), piecesProg(r), waitingProg(r), copyingProg(r), crossingProg(r), meetingProg(r))
	}
	for _, p := range list {
		if !plainOk(p) {
			continue
		}
		strict, late := impl.OrderAll(p, impl.OrderStrict), impl.OrderAll(p, impl.OrderLate)
		if want := impl.MachStrict(p); !sameSeens(strict, want) {
			t.Fatalf("%v, strictly: %s, not %s", p, seenTexts(strict), seenTexts(want))
		}
		if want := impl.MachLate(p); !sameSeens(late, want) {
			t.Fatalf("%v, late: %s, not %s", p, seenTexts(late), seenTexts(want))
		}
		if len(late) > len(strict) {
			more++
		}
		if len(plainPairs(plainEvents(p))) > 0 && len(strict) > 1 {
			waited++
		}
		for _, e := range plainEvents(p) {
			kinds[e.do.Kind]++
		}
	}
	for kind := impl.DoStore; kind <= impl.DoWait; kind++ {
		if kinds[kind] < 1000 {
			t.Errorf("kind %d: %d steps only", kind, kinds[kind])
		}
	}
	if more < 200 || waited < 200 {
		t.Error(more, waited)
	}
}

// P30, P31: a few small programs, held against all turns that there are.
func TestOrdersAreAllTurns(t *testing.T) {
	for _, text := range []string{"store x 1, load y | store y 1, load x", "in, load y, load x, out | store x 1, wait, store y 1", "store x 1, load x, load y | store y 1, load x", "in, out, load x | store x 1, wait", "in, store x 1, out | wait, load x", "load x, copy y | load y, copy x | store x 2", "give x 1, wall, take y | give y 1, take x"} {
		p := read(t, text)
		for _, late := range []bool{false, true} {
			kind := impl.OrderStrict
			if late {
				kind = impl.OrderLate
			}
			if got, want := impl.OrderAll(p, kind), plainAll(p, late, true); !sameSeens(got, want) {
				t.Errorf("%s, order %d: %s, not %s", text, kind, seenTexts(got), seenTexts(want))
			}
		}
	}
}

// among says whether all of the first is among the second.
func among(list, others []impl.Seen) bool {
	return !slices.ContainsFunc(list, func(s impl.Seen) bool {
		return !slices.ContainsFunc(others, func(o impl.Seen) bool { return sameSeen(s, o) })
	})
}

// P32, P36, P37: what is seen in all ways that hold, and nothing else, in order, each once; and no looser order allows less.
func TestAllThatMayBeSeen(t *testing.T) {
	later, looser, often := 0, 0, 0
	for _, p := range orderPrograms() {
		held := make([][]impl.Seen, 4)
		for _, x := range impl.ExecAll(p) {
			s := plainSeenOf(p, x)
			for _, kind := range orders() {
				if impl.OrderHolds(p, x, kind) {
					held[kind] = append(held[kind], s)
				}
			}
		}
		all := make([][]impl.Seen, 4)
		for _, kind := range orders() {
			all[kind] = impl.OrderAll(p, kind)
			if want := plainSort(held[kind]); !sameSeens(all[kind], want) || len(want) == 0 {
				t.Fatalf("%v, order %d: %s, not %s", p, kind, seenTexts(all[kind]), seenTexts(want))
			}
			for i, s := range all[kind] {
				if !impl.SeenOk(p, s) || i > 0 && !plainLess(all[kind][i-1], s) {
					t.Fatalf("%v, order %d: not of it, in order, each once: %s", p, kind, seenTexts(all[kind]))
				}
			}
			if len(held[kind]) > len(all[kind]) {
				often++
			}
		}
		if !among(all[1], all[2]) || !among(all[2], all[3]) {
			t.Fatalf("%v: a looser order allows less: %q", p, orderTexts(p))
		}
		if len(all[1]) < len(all[2]) {
			later++
		}
		if len(all[2]) < len(all[3]) {
			looser++
		}
	}
	if later < 25 || looser < 100 || often < 100 {
		t.Error(later, looser, often)
	}
}

// P38.
func TestOnePlaceIsStrict(t *testing.T) {
	more := 0
	for i, p := range orderPrograms() {
		if i%2 != 0 && i > 200 { // the first are those at the edges
			continue
		}
		q := copyProg(p)
		for i, steps := range q.Threads {
			q.Threads[i] = slices.DeleteFunc(steps, func(d impl.Do) bool {
				return d.Kind == impl.DoIn || d.Kind == impl.DoOut || d.Kind == impl.DoWait
			})
			for j := range q.Threads[i] {
				q.Threads[i][j].Place = 0
			}
		}
		want := impl.OrderAll(q, impl.OrderStrict)
		for _, kind := range orders() {
			if got := impl.OrderAll(q, kind); !sameSeens(got, want) {
				t.Fatalf("%v, order %d: %s, not %s", q, kind, seenTexts(got), seenTexts(want))
			}
		}
		if len(want) > 2 {
			more++
		}
	}
	if more < 500 {
		t.Error("more than two things are seen of", more, "programs only")
	}
}

// P39.
func TestThreadWithoutStepsChangesNoOrder(t *testing.T) {
	for _, p := range orderPrograms() {
		if len(p.Threads) == impl.ProgThreads {
			continue
		}
		for _, kind := range orders() {
			want := impl.OrderAll(p, kind)
			for at := range len(p.Threads) + 1 {
				q := impl.Prog{Threads: slices.Insert(slices.Clone(p.Threads), at, []impl.Do(nil))}
				if got := impl.OrderAll(q, kind); !sameSeens(got, want) {
					t.Fatalf("%v, order %d: %s, not %s", q, kind, seenTexts(got), seenTexts(want))
				}
			}
		}
	}
}

// P40.
func TestThreadAloneByEachOrder(t *testing.T) {
	r := rand.New(rand.NewPCG(45, 46))
	list := [][]impl.Do{
		nil, times(7, wait()), times(7, wall()), times(6, store(0, 1)), times(6, load(2)), {in(), out(), in(), out(), wait(), in(), out()},
		{store(0, 1), store(0, 2), store(0, 3), store(0, 2), store(0, 1), load(0)}, {load(0), store(0, 1), load(0), store(0, 2), load(0), load(0)},
		{store(0, 1), load(0), store(0, 2), load(0), copyTo(1), load(1)}, {store(0, 2), store(0, 3), load(0), wall(), load(0)},
		{load(0), copyTo(1), store(0, 2), load(0), copyTo(2), in(), out()}, {in(), give(1, 3), take(1), out(), wait(), copyTo(0)},
	}
	for range 600 {
		list = append(list, randomThread(r, r.IntN(impl.ProgSteps+1), impl.ProgUses))
	}
	for _, steps := range list {
		want := []impl.Seen{alone(steps)}
		for _, p := range []impl.Prog{prog(steps), prog(nil, steps, nil)} {
			for _, kind := range orders() {
				if got := impl.OrderAll(p, kind); !sameSeens(got, want) {
					t.Fatalf("%v, order %d: %s, not %s", p, kind, seenTexts(got), seenTexts(want))
				}
			}
		}
	}
}

// without is what is seen, in order, if one of the reads is left out.
func without(list []impl.Seen, read int) []impl.Seen {
	rest := copySeens(list)
	for i, s := range rest {
		rest[i].Reads = slices.Delete(s.Reads, read, read+1)
	}
	return plainSort(rest)
}

// withLast is a program with one more step at the end of a thread.
func withLast(p impl.Prog, at int, d impl.Do) impl.Prog {
	q := copyProg(p)
	q.Threads[at] = append(q.Threads[at], d)
	return q
}

// P41, P43: a DoLoad at the end of the last thread, and one in a thread of its own, wherever that stands.
func TestOneLoadMoreChangesNoOrder(t *testing.T) {
	atEnd, beside := 0, 0
	for i, p := range orderPrograms() {
		place := i % impl.ProgPlaces
		for _, kind := range orders() {
			want := impl.OrderAll(p, kind)
			if last := len(p.Threads) - 1; last >= 0 {
				if q := withLast(p, last, load(place)); plainOk(q) {
					atEnd++
					if got := without(impl.OrderAll(q, kind), impl.ProgReads(p)); !sameSeens(got, want) {
						t.Fatalf("%v, order %d: of the rest %s, not %s", q, kind, seenTexts(got), seenTexts(want))
					}
				}
			}
			for at := range len(p.Threads) + 1 {
				q := impl.Prog{Threads: slices.Insert(slices.Clone(p.Threads), at, thread(load(place)))}
				if plainOk(q) {
					beside++
					if got := without(impl.OrderAll(q, kind), impl.ProgReads(impl.Prog{Threads: p.Threads[:at]})); !sameSeens(got, want) {
						t.Fatalf("%v, order %d: of the rest %s, not %s", q, kind, seenTexts(got), seenTexts(want))
					}
				}
			}
		}
	}
	if atEnd < 1000 || beside < 1000 {
		t.Error(atEnd, beside)
	}
}

// P44: at the end of each thread.
func TestStoreToAPlaceThatIsNotUsed(t *testing.T) {
	asked := 0
	for i, p := range orderPrograms() {
		text := plainText(p)
		for place := range impl.ProgPlaces {
			if strings.Contains(text, " "+"xyz"[place:place+1]) {
				continue
			}
			for at := range p.Threads {
				val := 1 + (i+at)%impl.ProgVals
				q := withLast(p, at, store(place, val))
				if !plainOk(q) {
					continue
				}
				asked++
				for _, kind := range orders() {
					want := copySeens(impl.OrderAll(p, kind))
					for _, s := range want {
						s.Last[place] = val
					}
					if got := impl.OrderAll(q, kind); !sameSeens(got, want) {
						t.Fatalf("%v, order %d: %s, not %s", q, kind, seenTexts(got), seenTexts(want))
					}
				}
			}
		}
	}
	if asked < 1000 {
		t.Error(asked)
	}
}

// P45, P46: one step at a time, and all of them.
func TestWhatIsGivenAndTakenAllowsNoMore(t *testing.T) {
	fewer := map[int]int{}
	for i, p := range orderPrograms() {
		if i%2 != 0 && i > 200 { // the first are those at the edges
			continue
		}
		for from, to := range map[int]int{impl.DoStore: impl.DoGive, impl.DoLoad: impl.DoTake} {
			every := copyProg(p)
			list := []impl.Prog{every}
			for at, steps := range p.Threads {
				for j, d := range steps {
					if d.Kind == from {
						q := copyProg(p)
						q.Threads[at][j].Kind, every.Threads[at][j].Kind = to, to
						list = append(list, q)
					}
				}
			}
			for _, kind := range orders() {
				most := impl.OrderAll(p, kind)
				for _, q := range list {
					got := impl.OrderAll(q, kind)
					if !among(got, most) || kind != impl.OrderLoose && len(got) != len(most) {
						t.Fatalf("%v, order %d: %s, not of %s", q, kind, seenTexts(got), seenTexts(most))
					}
					if len(got) < len(most) {
						fewer[from]++
					}
				}
			}
		}
	}
	if fewer[impl.DoStore] < 10 || fewer[impl.DoLoad] < 10 {
		t.Error(fewer)
	}
}

func has(steps []impl.Do, kinds ...int) bool {
	return slices.ContainsFunc(steps, func(d impl.Do) bool { return slices.Contains(kinds, d.Kind) })
}

// P47: one thread goes in first and out last, and all that can. (By the late order it is the same: nothing is ahead of going in, and nothing behind going out.)
func TestInFirstAndOutLast(t *testing.T) {
	asked, loose := 0, 0
	for _, p := range orderPrograms() {
		if has(slices.Concat(p.Threads...), impl.DoWait) {
			continue
		}
		every := copyProg(p)
		list := []impl.Prog{every}
		for at, steps := range p.Threads {
			if !has(steps, impl.DoIn) {
				q := copyProg(p)
				q.Threads[at] = slices.Concat(thread(in()), steps, thread(out()))
				every.Threads[at] = q.Threads[at]
				list = append(list, q)
			}
		}
		for _, kind := range orders() {
			want := impl.OrderAll(p, kind)
			for _, q := range list {
				if !plainOk(q) {
					continue
				}
				asked++
				if got := impl.OrderAll(q, kind); !sameSeens(got, want) {
					t.Fatalf("%v, order %d: %s, not %s", q, kind, seenTexts(got), seenTexts(want))
				}
				if kind == impl.OrderLoose && len(want) > len(impl.OrderAll(p, impl.OrderStrict)) {
					loose++
				}
			}
		}
	}
	if asked < 1000 || loose < 50 {
		t.Error(asked, loose)
	}
}

// P48: one step at a time, and all of them.
func TestWithoutReadersToWaitIsAWall(t *testing.T) {
	asked := 0
	for _, p := range orderPrograms() {
		every := copyProg(p)
		for at, steps := range p.Threads {
			every.Threads[at] = slices.DeleteFunc(slices.Clone(steps), func(d impl.Do) bool { return d.Kind == impl.DoIn || d.Kind == impl.DoOut })
		}
		p = copyProg(every)
		var list []impl.Prog
		for at, steps := range p.Threads {
			for j, d := range steps {
				if d.Kind == impl.DoWall || d.Kind == impl.DoWait {
					q := copyProg(p)
					q.Threads[at][j] = impl.Do{Kind: impl.DoWall + impl.DoWait - d.Kind}
					every.Threads[at][j] = wait()
					list = append(list, q)
				}
			}
		}
		for _, kind := range orders() {
			want := impl.OrderAll(p, kind)
			for _, q := range append(list, every) {
				asked++
				if got := impl.OrderAll(q, kind); !sameSeens(got, want) {
					t.Fatalf("%v, order %d: %s, not %s", q, kind, seenTexts(got), seenTexts(want))
				}
			}
		}
	}
	if asked < 1000 {
		t.Error(asked)
	}
}

// P50: all programs of such threads, of two places and of two values.
func TestOneStepEachIsStrict(t *testing.T) {
	var steps [][]impl.Do
	for _, d := range allSteps() {
		if plainOk(prog(thread(d))) && d.Place < 2 && d.Val < 3 {
			steps = append(steps, thread(d))
		}
	}
	steps = append(steps, nil)
	list := []impl.Prog{{}}
	for _, a := range steps {
		list = append(list, prog(a))
		for _, b := range steps {
			list = append(list, prog(a, b))
			for _, c := range steps {
				list = append(list, prog(a, b, c))
			}
		}
	}
	for _, p := range list {
		got := orderTexts(p)
		if got[0] != got[1] || got[0] != got[2] || got[0] == "" {
			t.Fatalf("%v: %q", p, got)
		}
	}
}

// wantNoOrder says that of all this nothing is so, by that order.
func wantNoOrder(t *testing.T, name string, p impl.Prog, x impl.Exec, kind int) {
	t.Helper()
	if impl.OrderHolds(p, x, kind) {
		t.Errorf("%s: %v, %s, order %d: it holds", name, p, wayText(x), kind)
	}
	for _, a := range nums(-1, 0, 1, 2, 3) {
		for _, b := range nums(-1, 0, 1, 2, 3) {
			if impl.OrderHas(p, x, kind, a, b) {
				t.Errorf("%s: %v, %s, order %d: %d is ahead of %d", name, p, wayText(x), kind, a, b)
			}
		}
	}
}

// wouldBeWays is what might be taken for ways of what is no program.
func wouldBeWays(p impl.Prog) []impl.Exec {
	events := plainEvents(p)
	would := impl.Exec{Order: [][]int{plainWriters(events, 0), plainWriters(events, 1), plainWriters(events, 2)}}
	for _, e := range events {
		from := -2
		if isRead(e.do) {
			from = -1
		}
		would.From = append(would.From, from)
	}
	return []impl.Exec{would, {}, {Order: make([][]int, 3)}, {From: would.From, Order: make([][]int, 3)}}
}

// P37, P42: programs that are not ok, by each order and by none, with all ways that might be of them.
func TestOrdersOfNoProgram(t *testing.T) {
	for name, p := range badPrograms() {
		for _, kind := range append(orders(), 0, -1, 4) {
			if got := impl.OrderAll(p, kind); len(got) != 0 {
				t.Errorf("%s, order %d: %s", name, kind, seenTexts(got))
			}
			for _, x := range wouldBeWays(p) {
				wantNoOrder(t, name, p, x, kind)
			}
		}
	}
}

// P37, P42: by what is no order nothing is seen, nothing holds, and none must be ahead.
func TestWhatIsNoOrder(t *testing.T) {
	for _, text := range []string{"", "||", "wall", "wait", "store x 1, load x", "store x 1, store x 2", "store x 1, store y 1 | load y, load x", "in, load y, load x, out | store x 1, wait, store y 1", "load x, copy y | take y, give x 1"} {
		p := read(t, text)
		for _, kind := range noOrders() {
			if got := impl.OrderAll(p, kind); len(got) != 0 {
				t.Errorf("%s, order %d: %s", text, kind, seenTexts(got))
			}
			for _, x := range impl.ExecAll(p) {
				wantNoOrder(t, text, p, x, kind)
			}
		}
	}
}

// P33: events below 0, past the last, and the same twice.
func TestWhatIsNoEvent(t *testing.T) {
	for _, text := range []string{"", "wall", "wait, wall", "store x 1, load x", "store x 1, store y 1 | load y, load x", "in, load y, load x, out | store x 1, wait, store y 1", "take x, give y 1, wait | load y, copy x"} {
		p := read(t, text)
		n := len(plainEvents(p))
		far := append(farNumbers(), n, n+1, -n, math.MaxInt-1, math.MinInt+1, 31, 32, 33, 63, 64, 65)
		for _, x := range impl.ExecAll(p) {
			for _, kind := range orders() {
				for _, a := range far {
					for b := range n {
						none := a < 0 || a >= n || a == b
						if none && (impl.OrderHas(p, x, kind, a, b) || impl.OrderHas(p, x, kind, b, a) || impl.OrderHas(p, x, kind, a, a)) {
							t.Errorf("%s, %s, order %d: events %d, %d", text, wayText(x), kind, a, b)
						}
					}
					for _, b := range far {
						if (a < 0 || a >= n) && impl.OrderHas(p, x, kind, a, b) {
							t.Errorf("%s, %s, order %d: events %d, %d", text, wayText(x), kind, a, b)
						}
					}
				}
			}
		}
	}
}

// wayOf is a program and what is told of it.
type wayOf struct {
	p impl.Prog
	x impl.Exec
}

// noWays is, of programs that are ok, what is no way of them.
func noWays(t *testing.T) map[string]wayOf {
	p := read(t, "store x 1, store y 1 | load y, load x")
	q := read(t, "load x, copy y | load y, copy x")
	list := map[string]wayOf{"copied goes back to itself": {q, way(nums(3, -2, 1, -2), nums(3), nums(1), nil)}}
	for name, x := range map[string]impl.Exec{
		"nothing": {}, "no From": way(nil, nums(0), nums(1), nil), "no Order": {From: nums(-2, -2, 1, -1)}, "two places": way(nums(-2, -2, 1, -1), nums(0), nums(1)), "four places": way(nums(-2, -2, 1, -1), nums(0), nums(1), nil, nil),
		"from another place": way(nums(-2, -2, 0, -1), nums(0), nums(1), nil), "from a read": way(nums(-2, -2, 3, -1), nums(0), nums(1), nil), "from itself": way(nums(-2, -2, 2, -1), nums(0), nums(1), nil), "from past the last": way(nums(-2, -2, 4, -1), nums(0), nums(1), nil), "from -3": way(nums(-2, -2, -3, -1), nums(0), nums(1), nil),
		"a write that reads": way(nums(-1, -2, 1, -1), nums(0), nums(1), nil), "a read that does not": way(nums(-2, -2, -2, -1), nums(0), nums(1), nil), "one too many": way(nums(-2, -2, 1, -1, -2), nums(0), nums(1), nil), "one is lacking": way(nums(-2, -2, 1), nums(0), nums(1), nil),
		"rows exchanged": way(nums(-2, -2, 1, -1), nums(1), nums(0), nil), "a row lacks one": way(nums(-2, -2, 1, -1), nil, nums(1), nil), "one twice": way(nums(-2, -2, 1, -1), nums(0, 0), nums(1), nil), "a row of a place that nobody writes": way(nums(-2, -2, 1, -1), nums(0), nums(1), nums(0)),
	} {
		list[name] = wayOf{p, x}
	}
	return list
}

// P35, P36: ways that are changed, so that they may be none; just those that are still ways hold, and have what is ahead.
func TestOrdersOfNoWay(t *testing.T) {
	r := rand.New(rand.NewPCG(47, 48))
	refused := 0
	for i, p := range orderPrograms() {
		if i%3 != 0 {
			continue
		}
		list := impl.ExecAll(p)
		for range 6 {
			x := spoil(r, list[r.IntN(len(list))])
			if plainWayOk(p, x) {
				for _, kind := range orders() {
					if s, _ := impl.ExecSeen(p, x); impl.OrderHolds(p, x, kind) && !impl.SeenIn(impl.OrderAll(p, kind), s) {
						t.Fatalf("%v, %s, order %d: %v holds, but is not seen", p, wayText(x), kind, s)
					}
				}
				continue
			}
			refused++
			for _, kind := range orders() {
				wantNoOrder(t, "changed", p, x, kind)
			}
		}
	}
	for name, c := range noWays(t) {
		for _, kind := range orders() {
			wantNoOrder(t, name, c.p, c.x, kind)
		}
	}
	if refused < 1000 {
		t.Error(refused)
	}
}

// P30, P31, P37: each limit met exactly; one more is refused (TestOrdersOfNoProgram).
func TestOrdersAtTheLimits(t *testing.T) {
	loose := map[int]string{12: "0 0 / 3 3 0; 0 3 / 3 3 3; 3 0 / 3 3 0; 3 3 / 3 3 3"}
	for i, p := range limitProgs() {
		got := orderTexts(p)
		if want := seenTexts(impl.MachStrict(p)); got[0] != want {
			t.Errorf("%v, strictly: %s, not %s", p, got[0], want)
		}
		if want := seenTexts(impl.MachLate(p)); got[1] != want {
			t.Errorf("%v, late: %s, not %s", p, got[1], want)
		}
		want := got[0]
		if loose[i] != "" {
			want = loose[i]
		}
		if got[2] != want {
			t.Errorf("%v, loosely: %s, not %s", p, got[2], want)
		}
	}
	p := prog(times(7, wait()), times(7, wait()))
	x := impl.ExecAll(p)[0]
	for _, kind := range orders() {
		if !impl.OrderHas(p, x, kind, 0, 13) || !impl.OrderHas(p, x, kind, 26, 27) || impl.OrderHas(p, x, kind, 27, 26) || impl.OrderHas(p, x, kind, 13, 14) || impl.OrderHas(p, x, kind, 27, 28) || !impl.OrderHolds(p, x, kind) {
			t.Errorf("28 events, order %d", kind)
		}
	}
}

// P35, P37: as many who wait, and readers, as there may be; one of them decides, wherever it stands, and is found soon.
func TestManyWhoWaitAndReaders(t *testing.T) {
	for text, want := range map[string]string{
		"in, out, in, out, in, out, wait | wait, wait, wait, wait, wait, in, out":                      "123",
		"wait, wait, wait, wait, wait, wait, wait | in, out, in, out, in, out, wait":                   "123",
		"in, out, in, out, in, out | in, out, wait, wait | wait, wait, wait, wait":                     "123",
		"in, load y, load x, out, in, out | store x 1, wait, store y 1, wait, wait, wait, wait | wait": "",
		"in, out, in, load y, load x, out | wait, wait, wait, store x 1, wait, store y 1 | wait, wait": "",
		"in, out, in, load y, load x, out | in, out, store x 1, wait, store y 1 | wait, wait, wait":    "",
		"wait, in, load y, load x, out, wait | in, out, store x 1, wait, store y 1 | in, out, wait":    "",
		"in, out, in, load y, out, load x | wait, wait, store x 1, wait, store y 1, wait, wait | wait": "3",
		"in, out, in, load y, out, wait, load x | wait, wait, store x 1, wait, store y 1, wait, wait":  "",
		"in, load y, out, in, load x, out | in, out, in, out | wait, store x 1, wait, store y 1":       "3",
		"in, load y, out, wall, in, load x, out | in, out, in, out | store x 1, wait, store y 1":       "",
		"in, load y, out, in, out, load x | store x 1, wait, in, out, wait, store y 1 | wait, wait":    "3",
	} {
		p := read(t, text)
		events := plainEvents(p)
		x := impl.Exec{Order: [][]int{plainWriters(events, 0), plainWriters(events, 1), nil}}
		for _, e := range events { // what is read of y is new, what is read of x is old
			from := -2
			if isRead(e.do) {
				from = -1
			}
			if isRead(e.do) && e.do.Place == 1 {
				from = x.Order[1][0]
			}
			x.From = append(x.From, from)
		}
		if got := holdsText(p, x); got != want {
			t.Errorf("%s, %s: %q, not %q", text, wayText(x), got, want)
		}
	}
}

// What is said once: the empty list and the nil list are the same.
func TestOrdersTakeEmptyForNil(t *testing.T) {
	empty := make([]int, 0, 4)
	for _, p := range []impl.Prog{{}, {Threads: [][]impl.Do{}}, prog(nil), prog(thread(), nil), prog(nil, make([]impl.Do, 0, 3), thread())} {
		for _, kind := range orders() {
			if got := seenTexts(impl.OrderAll(p, kind)); got != "/ 0 0 0" {
				t.Errorf("%#v, order %d: %s", p, kind, got)
			}
			for _, from := range [][]int{nil, {}, empty} {
				for _, row := range [][]int{nil, {}, empty} {
					x := way(from, row, nil, empty)
					if !impl.OrderHolds(p, x, kind) || impl.OrderHas(p, x, kind, 0, 0) || impl.OrderHas(p, x, kind, 0, 1) {
						t.Errorf("%#v, %#v, order %d", p, x, kind)
					}
				}
				wantNoOrder(t, "no order of writes", p, impl.Exec{From: from}, kind)
				wantNoOrder(t, "an empty order of writes", p, impl.Exec{From: from, Order: [][]int{}}, kind)
			}
		}
	}
	a, b := prog(nil, thread(load(1), store(1, 2)), nil), prog(thread(), thread(load(1), store(1, 2)), make([]impl.Do, 0, 3))
	for _, kind := range orders() {
		if one, two := impl.OrderAll(a, kind), impl.OrderAll(b, kind); !sameSeens(one, two) || seenTexts(one) != "0 / 0 2 0" {
			t.Errorf("order %d: %v, %v", kind, one, two)
		}
		for _, row := range [][]int{nil, {}, empty} {
			x := way(nums(-1, -2), row, nums(1), row)
			if !impl.OrderHolds(a, x, kind) || !impl.OrderHolds(b, x, kind) || impl.OrderHas(a, x, kind, 0, 1) != impl.OrderHas(b, x, kind, 0, 1) {
				t.Errorf("%#v, order %d", x, kind)
			}
		}
	}
}

// What is said once: nothing is written into an argument or behind its end.
func TestOrderArgumentsStay(t *testing.T) {
	r := rand.New(rand.NewPCG(49, 50))
	check := func(p impl.Prog, list []impl.Exec) {
		q := wideProg(p)
		for _, kind := range append(orders(), 0) {
			impl.OrderAll(q, kind)
			for _, x := range list {
				y := wideWay(x)
				impl.OrderHolds(q, y, kind)
				for a := -1; a <= len(x.From); a += 2 {
					impl.OrderHas(q, y, kind, a, a+1)
					impl.OrderHas(q, y, kind, a+1, 0)
				}
				if wayText(x) != wayText(y) || !wideWayOk(y) {
					t.Fatalf("%v: %s became %s", p, wayText(x), wayText(y))
				}
			}
		}
		if !sameProg(p, q) || !wideProgOk(q) {
			t.Fatalf("%v became %v", p, q)
		}
	}
	for i, p := range orderPrograms() {
		if i%3 == 0 {
			list := someWays(p, 4)
			check(p, append(list, impl.Exec{}, impl.Exec{From: list[0].From}, spoil(r, list[0])))
		}
	}
	for _, p := range badPrograms() {
		check(p, []impl.Exec{{}, way(nums(-1), nil, nil, nil), way(nums(-2), nums(0), nil, nil)})
	}
}

// What is said once: an answer shares no memory with an argument or with another answer, and no two lists of one answer share any; nothing is kept.
func TestOrderAnswersShareNothing(t *testing.T) {
	for i, p := range orderPrograms() {
		if i%3 != 0 {
			continue
		}
		arg := copyProg(p)
		for _, kind := range orders() {
			got, again := impl.OrderAll(arg, kind), impl.OrderAll(arg, kind)
			want := copySeens(again)
			if !sameSeens(got, want) {
				t.Fatalf("%v, order %d: %s, then %s", p, kind, seenTexts(got), seenTexts(again))
			}
			for _, s := range got[len(got):cap(got)] {
				if s.Reads != nil || s.Last != nil {
					t.Fatalf("%v, order %d: %v stands in the spare room", p, kind, s)
				}
			}
			if !scribble(got) {
				t.Fatalf("%v, order %d: lists of an answer share memory", p, kind)
			}
			clear(got[:cap(got)])
			if !sameProg(arg, p) || !sameSeens(again, want) || !sameSeens(impl.OrderAll(arg, kind), want) {
				t.Fatalf("%v, order %d: an answer shares memory, or something is kept", p, kind)
			}
		}
	}
}
