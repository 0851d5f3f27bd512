package tests

import (
	"math/rand/v2"
	"slices"
	"testing"

	"loop.example/fathomline/impl"
)

// Short names of steps, so that programs can be read in the tests.
func store(place, val int) impl.Do {
	return impl.Do{Kind: impl.DoStore, Place: place, Val: val}
}
func give(place, val int) impl.Do { return impl.Do{Kind: impl.DoGive, Place: place, Val: val} }
func load(place int) impl.Do      { return impl.Do{Kind: impl.DoLoad, Place: place} }
func take(place int) impl.Do      { return impl.Do{Kind: impl.DoTake, Place: place} }
func copyTo(place int) impl.Do    { return impl.Do{Kind: impl.DoCopy, Place: place} }
func wall() impl.Do               { return impl.Do{Kind: impl.DoWall} }
func in() impl.Do                 { return impl.Do{Kind: impl.DoIn} }
func out() impl.Do                { return impl.Do{Kind: impl.DoOut} }
func wait() impl.Do               { return impl.Do{Kind: impl.DoWait} }

func thread(steps ...impl.Do) []impl.Do { return steps }

func prog(threads ...[]impl.Do) impl.Prog { return impl.Prog{Threads: threads} }

// times is a step, that many times.
func times(n int, d impl.Do) []impl.Do { return slices.Repeat([]impl.Do{d}, n) }

// sameProg holds the empty list and the nil list to be the same.
func sameProg(a, b impl.Prog) bool {
	return slices.EqualFunc(a.Threads, b.Threads, func(s, t []impl.Do) bool { return slices.Equal(s, t) })
}

func copyProg(p impl.Prog) impl.Prog {
	var q impl.Prog
	for _, steps := range p.Threads {
		q.Threads = append(q.Threads, slices.Clone(steps))
	}
	return q
}

// allSteps is all steps that are in form.
func allSteps() []impl.Do {
	list := []impl.Do{wall(), in(), out(), wait()}
	for place := range impl.ProgPlaces {
		list = append(list, load(place), copyTo(place), take(place))
		for val := 1; val <= impl.ProgVals; val++ {
			list = append(list, store(place, val), give(place, val))
		}
	}
	return list
}

// randomThread is a thread that is ok, of at most that many steps, of which at most that many read or write.
func randomThread(r *rand.Rand, steps, uses int) []impl.Do {
	var list []impl.Do
	read, inside := false, false
	forms := allSteps()
	for len(list) < steps {
		d := forms[r.IntN(len(forms))]
		if inside && len(list) == steps-1 {
			d = out()
		}
		switch d.Kind {
		case impl.DoIn:
			if inside || len(list) == steps-1 {
				continue
			}
			inside = true
		case impl.DoOut:
			if !inside {
				continue
			}
			inside = false
		case impl.DoWait:
			if inside {
				continue
			}
		case impl.DoWall:
		default:
			if uses == 0 || d.Kind == impl.DoCopy && !read {
				continue
			}
			uses--
			read = read || d.Kind == impl.DoLoad || d.Kind == impl.DoTake
		}
		list = append(list, d)
	}
	return list
}

// usesOf counts the reads and writes of a thread.
func usesOf(steps []impl.Do) int {
	n := 0
	for _, d := range steps {
		if d.Kind <= impl.DoCopy || d.Kind == impl.DoTake || d.Kind == impl.DoGive {
			n++
		}
	}
	return n
}

// randomProg is a program that is ok; how many threads and steps it has reaches up to each limit.
func randomProg(r *rand.Rand) impl.Prog {
	var p impl.Prog
	left, uses := impl.ProgAll, impl.ProgUses
	for range r.IntN(impl.ProgThreads + 1) {
		steps := randomThread(r, r.IntN(min(left, impl.ProgSteps)+1), uses)
		left -= len(steps)
		uses -= usesOf(steps)
		p.Threads = append(p.Threads, steps)
	}
	return p
}

// somePrograms is programs that are ok: those of one or two steps, all of them; some at the edges; and many more, the same at each run.
func somePrograms() []impl.Prog {
	list := []impl.Prog{
		{}, prog(nil), prog(nil, nil, nil),
		prog(thread(store(0, 1), load(1)), thread(store(1, 1), load(0))),
		prog(thread(in(), load(0), copyTo(1), out()), nil, thread(store(0, 3), wait(), give(1, 2))),
		prog(times(7, wall()), times(7, wait())),
		prog(times(6, take(2))),
	}
	for _, d := range allSteps() {
		list = append(list, prog(thread(load(0), d)), prog(thread(in(), d)), prog(thread(in(), d, out())), prog(thread(d)), prog(thread(d), nil))
	}
	r := rand.New(rand.NewPCG(1, 2))
	for range 3000 {
		list = append(list, randomProg(r))
	}
	return slices.DeleteFunc(list, func(p impl.Prog) bool { return !plainOk(p) })
}

// wantNone says that a program is refused in all three ways.
func wantNone(t *testing.T, name string, p impl.Prog) {
	t.Helper()
	if impl.ProgOk(p) || impl.ProgReads(p) != -1 || impl.ProgText(p) != "" {
		t.Errorf("%s: taken for a program: %v, %d reads, text %q", name, p, impl.ProgReads(p), impl.ProgText(p))
	}
}
