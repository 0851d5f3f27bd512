package tests

import (
	"fmt"
	"math"
	"math/rand/v2"
	"slices"
	"strings"
	"testing"

	"loop.example/fathomline/impl"
)

func seen(reads []int, last ...int) impl.Seen { return impl.Seen{Reads: reads, Last: last} }

func nums(list ...int) []int { return list }

// sameSeen holds the empty list and the nil list to be the same.
func sameSeen(a, b impl.Seen) bool {
	return slices.Equal(a.Reads, b.Reads) && slices.Equal(a.Last, b.Last)
}

func sameSeens(a, b []impl.Seen) bool { return slices.EqualFunc(a, b, sameSeen) }

func copySeens(list []impl.Seen) []impl.Seen {
	var out []impl.Seen
	for _, s := range list {
		out = append(out, impl.Seen{Reads: slices.Clone(s.Reads), Last: slices.Clone(s.Last)})
	}
	return out
}

// plainAhead tells the order of two lists of numbers in the document's words: -1, 0 or 1.
func plainAhead(a, b []int) int {
	for i := 0; i < len(a) && i < len(b); i++ {
		if a[i] < b[i] {
			return -1
		}
		if a[i] > b[i] {
			return 1
		}
	}
	switch {
	case len(a) < len(b):
		return -1
	case len(a) > len(b):
		return 1
	}
	return 0
}

func plainLess(a, b impl.Seen) bool {
	reads := plainAhead(a.Reads, b.Reads)
	return reads < 0 || reads == 0 && plainAhead(a.Last, b.Last) < 0
}

// plainSort puts one in behind the other, each at its place, if it is not there.
func plainSort(list []impl.Seen) []impl.Seen {
	var out []impl.Seen
	for _, s := range list {
		at := 0
		for at < len(out) && plainLess(out[at], s) {
			at++
		}
		if at == len(out) || plainLess(s, out[at]) {
			out = slices.Insert(out, at, s)
		}
	}
	return out
}

func plainSeenText(s impl.Seen) string {
	text := ""
	for _, v := range s.Reads {
		text += fmt.Sprintf("%d ", v)
	}
	text += "/"
	for _, v := range s.Last {
		text += fmt.Sprintf(" %d", v)
	}
	return text
}

// rows is all lists of at most that many of these numbers.
func rows(most int, from ...int) [][]int {
	list := [][]int{nil}
	for at := 0; at < len(list) && len(list[at]) < most; at++ {
		for _, v := range from {
			list = append(list, append(slices.Clip(list[at]), v))
		}
	}
	return list
}

// someSeen is what was seen in all ways of these rows, each once, in no order.
func someSeen() []impl.Seen {
	var list []impl.Seen
	for _, reads := range rows(2, 0, 3, 1) {
		for _, last := range rows(2, 0, 3, 1) {
			list = append(list, impl.Seen{Reads: reads, Last: last})
		}
	}
	for _, v := range []int{math.MinInt, math.MinInt32, -10, -1, 4, 9, 10, 11, 100, math.MaxInt32, math.MaxInt} {
		list = append(list, seen(nums(v)), seen(nil, v), seen(nums(0, v), 0), seen(nums(0), 0, v), seen(nums(v, v), v, v, v))
	}
	for n := 3; n < 6; n++ {
		for v := range 2 {
			many := slices.Repeat([]int{v}, n)
			list = append(list, seen(many), seen(nil, many...), seen(many, many...))
		}
	}
	rand.New(rand.NewPCG(5, 6)).Shuffle(len(list), func(i, j int) { list[i], list[j] = list[j], list[i] })
	return list
}

// someLists is lists of what was seen: of nothing, of one, in order, turned about, the same twice and more often, and many more.
func someLists() [][]impl.Seen {
	all := someSeen()
	sorted := plainSort(all)
	turned := slices.Clone(sorted)
	slices.Reverse(turned)
	lists := [][]impl.Seen{
		nil, {}, all[:1], {all[0], all[0]}, {all[0], all[1], all[0]}, {all[1], all[0], all[0], all[1], all[1]}, {{}}, {{}, {}, {}},
		all, sorted, turned, slices.Concat(all, all), slices.Concat(sorted, sorted), slices.Concat(sorted, turned, all), slices.Repeat(all[3:4], 1000),
	}
	r := rand.New(rand.NewPCG(7, 8))
	for n := range 400 {
		from := all[:1+r.IntN(len(all))]
		var list []impl.Seen
		for range n % 60 {
			list = append(list, from[r.IntN(len(from))])
		}
		lists = append(lists, list)
	}
	return lists
}

// P7.
func TestOneStandsAheadOfAnother(t *testing.T) {
	all := someSeen()
	for i, a := range all {
		for j, b := range all {
			ab, ba := impl.SeenLess(a, b), impl.SeenLess(b, a)
			if ab && ba || (ab || ba) == (i == j) {
				t.Fatalf("%v and %v: ahead %v, behind %v", a, b, ab, ba)
			}
			if ab != plainLess(a, b) {
				t.Fatalf("%v ahead of %v: %v", a, b, ab)
			}
		}
	}
}

// P7: Reads first, then Last, each number by number, then by how many there are.
func TestOrderInTheDocumentsWords(t *testing.T) {
	row := []impl.Seen{
		seen(nil), seen(nil, 0), seen(nil, 0, 0, 0), seen(nil, 0, 0, 1), seen(nil, 3),
		seen(nums(-1), 3), seen(nums(0)), seen(nums(0), 3, 3, 3), seen(nums(0, 0)), seen(nums(0, 0, 3)), seen(nums(0, 1)), seen(nums(0, 10), 0), seen(nums(1)),
		seen(nums(2)), seen(nums(2), -1), seen(nums(2), 2, 9), seen(nums(2), 10), seen(nums(10)),
	}
	for i, a := range row {
		for j, b := range row {
			if impl.SeenLess(a, b) != (i < j) {
				t.Errorf("%v ahead of %v: %v", a, b, i >= j)
			}
		}
	}
}

// P12.
func TestAheadOfAheadIsAhead(t *testing.T) {
	all := someSeen()
	less := make([][]bool, len(all))
	for i, a := range all {
		for _, b := range all {
			less[i] = append(less[i], impl.SeenLess(a, b))
		}
	}
	chains := 0
	for i := range all {
		for j := range all {
			if !less[i][j] {
				continue
			}
			for k := range all {
				if less[j][k] && !less[i][k] {
					t.Fatalf("%v, %v, %v", all[i], all[j], all[k])
				}
				if less[j][k] {
					chains++
				}
			}
		}
	}
	if n := len(all); chains != n*(n-1)*(n-2)/6 {
		t.Errorf("%d rows of three, of %d", chains, n)
	}
}

// P8.
func TestInOrderEachOnce(t *testing.T) {
	for _, list := range someLists() {
		got := impl.SeenSort(list)
		if !sameSeens(got, plainSort(list)) {
			t.Fatalf("%v in order is %v", list, got)
		}
		for i := 1; i < len(got); i++ {
			if !impl.SeenLess(got[i-1], got[i]) {
				t.Fatalf("%v stands ahead of %v", got[i-1], got[i])
			}
		}
		for _, s := range list {
			if !slices.ContainsFunc(got, func(o impl.Seen) bool { return sameSeen(o, s) }) {
				t.Fatalf("%v is lost of %v", s, list)
			}
		}
		for _, s := range got {
			if !slices.ContainsFunc(list, func(o impl.Seen) bool { return sameSeen(o, s) }) {
				t.Fatalf("%v was not in %v", s, list)
			}
		}
	}
	if got := impl.SeenSort(nil); len(got) != 0 {
		t.Error(got)
	}
}

// P8: a list of one, and of one that was seen very often, keep it.
func TestTheSameOften(t *testing.T) {
	a, b := seen(nums(1, 0), 0, 0, 3), seen(nums(1, 0), 0, 0, 2)
	for n := 1; n < 50; n++ {
		if got := impl.SeenSort(slices.Repeat([]impl.Seen{a}, n)); !sameSeens(got, []impl.Seen{a}) {
			t.Fatalf("%d times: %v", n, got)
		}
		if got := impl.SeenSort(slices.Repeat([]impl.Seen{a, b}, n)); !sameSeens(got, []impl.Seen{b, a}) {
			t.Fatalf("both %d times: %v", n, got)
		}
	}
}

// P9.
func TestInOrderOnceMore(t *testing.T) {
	r := rand.New(rand.NewPCG(9, 10))
	for _, list := range someLists() {
		want := impl.SeenSort(list)
		if got := impl.SeenSort(want); !sameSeens(got, want) {
			t.Fatalf("once more: %v is %v", want, got)
		}
		other := slices.Clone(list)
		slices.Reverse(other)
		if got := impl.SeenSort(other); !sameSeens(got, want) {
			t.Fatalf("turned about: %v is %v", other, got)
		}
		r.Shuffle(len(other), func(i, j int) { other[i], other[j] = other[j], other[i] })
		if got := impl.SeenSort(other); !sameSeens(got, want) {
			t.Fatalf("in another order: %v is %v", other, got)
		}
	}
}

// P10.
func TestFindsJustWhatIsThere(t *testing.T) {
	all := someSeen()
	found, missed := 0, 0
	for _, list := range someLists() {
		there := map[string]bool{}
		for _, s := range list {
			there[fmt.Sprint(s.Reads, s.Last)] = true
		}
		turned := impl.SeenSort(list)
		slices.Reverse(turned)
		for _, s := range all {
			want := there[fmt.Sprint(s.Reads, s.Last)]
			if impl.SeenIn(list, s) != want || impl.SeenIn(impl.SeenSort(list), s) != want || impl.SeenIn(turned, s) != want {
				t.Fatalf("%v in %v: not %v", s, list, want)
			}
			if want {
				found++
			} else {
				missed++
			}
		}
	}
	if found == 0 || missed == 0 {
		t.Error(found, missed)
	}
	if impl.SeenIn(nil, impl.Seen{}) || impl.SeenIn([]impl.Seen{}, impl.Seen{}) {
		t.Error("nothing is in a list of nothing")
	}
	one := []impl.Seen{seen(nums(1, 2), 3, 0, 0)}
	for _, s := range []impl.Seen{{}, seen(nums(1, 2)), seen(nil, 3, 0, 0), seen(nums(1), 3, 0, 0), seen(nums(1, 2), 3, 0), seen(nums(1, 2), 3, 0, 0, 0), seen(nums(1, 2, 3), 0, 0), seen(nums(3, 0, 0), 1, 2)} {
		if impl.SeenIn(one, s) {
			t.Errorf("%v in %v", s, one)
		}
	}
}

// P11.
func TestSameJustIfTextIs(t *testing.T) {
	texts := map[string]impl.Seen{}
	for _, s := range someSeen() {
		text := impl.SeenText(s)
		if text != plainSeenText(s) {
			t.Fatalf("%v is written %q", s, text)
		}
		if other, ok := texts[text]; ok {
			t.Fatalf("%v and %v are written %q", s, other, text)
		}
		texts[text] = s
	}
	for _, s := range copySeens(someSeen()) {
		if other, ok := texts[impl.SeenText(s)]; !ok || !sameSeen(s, other) {
			t.Fatalf("%v is written otherwise", s)
		}
	}
}

// P11: texts as the document writes them.
func TestTextsAsTold(t *testing.T) {
	for text, s := range map[string]impl.Seen{
		"/":              {},
		"0 /":            seen(nums(0)),
		"/ 0":            seen(nil, 0),
		"/ 2 2 0":        seen(nil, 2, 2, 0),
		"0 0 / 1 1 0":    seen(nums(0, 0), 1, 1, 0),
		"1 2 3 / 3 0 3":  seen(nums(1, 2, 3), 3, 0, 3),
		"-1 10 / -12 4":  seen(nums(-1, 10), -12, 4),
		"1 1 1 1 1 1 /":  seen(nums(1, 1, 1, 1, 1, 1)),
		"11 /":           seen(nums(11)),
		"1 1 /":          seen(nums(1, 1)),
		"1 / 1":          seen(nums(1), 1),
		"/ 1 1":          seen(nil, 1, 1),
		"100 20 / 0 300": seen(nums(100, 20), 0, 300),
		fmt.Sprintf("%d / %d", math.MinInt, math.MaxInt): seen(nums(math.MinInt), math.MaxInt),
	} {
		if got := impl.SeenText(s); got != text {
			t.Errorf("%v is written %q, not %q", s, got, text)
		}
	}
	if got := impl.SeenText(impl.Seen{Reads: make([]int, 5000), Last: make([]int, 5000)}); got != strings.Repeat("0 ", 5000)+"/"+strings.Repeat(" 0", 5000) {
		t.Error("a long text is", len(got), "bytes")
	}
}

// zeros is what is seen of a program if all is 0.
func zeros(p impl.Prog) impl.Seen {
	n := 0
	for _, steps := range p.Threads {
		for _, d := range steps {
			if d.Kind == impl.DoLoad || d.Kind == impl.DoTake {
				n++
			}
		}
	}
	return impl.Seen{Reads: make([]int, n), Last: make([]int, impl.ProgPlaces)}
}

// SeenOk: as many reads as the program has, ProgPlaces at last.
func TestSeenOfProgram(t *testing.T) {
	for _, p := range somePrograms() {
		s := zeros(p)
		if !impl.SeenOk(p, s) {
			t.Fatalf("%v of %v is refused", s, p)
		}
		for _, n := range []int{0, 1, 2, 3, 4, 5, 6, 7, 100} {
			if got := impl.SeenOk(p, impl.Seen{Reads: make([]int, n), Last: s.Last}); got != (n == len(s.Reads)) {
				t.Fatalf("%d reads of %v: %v", n, p, got)
			}
			if got := impl.SeenOk(p, impl.Seen{Reads: s.Reads, Last: make([]int, n)}); got != (n == impl.ProgPlaces) {
				t.Fatalf("%d places of %v: %v", n, p, got)
			}
		}
		if impl.SeenOk(p, impl.Seen{Reads: s.Last, Last: s.Reads}) != (len(s.Reads) == impl.ProgPlaces) {
			t.Fatalf("reads and places of %v one for the other", p)
		}
	}
}

// SeenOk: each number is 0 to ProgVals, wherever it stands.
func TestSeenValuesOfProgram(t *testing.T) {
	numbers := []int{math.MinInt, math.MinInt32, -256, -2, -1, 0, 1, 2, 3, 4, 5, 255, 256, 257, 1 << 32, 1<<32 + 1, math.MaxInt}
	for _, p := range []impl.Prog{{}, prog(nil, nil), prog(thread(load(0))), prog(thread(load(0)), nil, thread(take(1), store(2, 3))), prog(times(6, take(2)))} {
		for at := range len(zeros(p).Reads) + impl.ProgPlaces {
			for _, v := range numbers {
				s := zeros(p)
				if at < len(s.Reads) {
					s.Reads[at] = v
				} else {
					s.Last[at-len(s.Reads)] = v
				}
				if got := impl.SeenOk(p, s); got != (v >= 0 && v <= 3) {
					t.Errorf("%v of %v: %v", s, p, got)
				}
			}
		}
	}
	if !impl.SeenOk(prog(times(6, load(0))), seen(nums(3, 3, 3, 3, 3, 3), 3, 3, 3)) {
		t.Error("all of ProgVals is refused")
	}
	if impl.SeenOk(impl.Prog{}, impl.Seen{}) {
		t.Error("nothing is seen of a program without threads")
	}
}

// SeenOk: what is no program has seen nothing.
func TestSeenOfNoProgram(t *testing.T) {
	for name, p := range map[string]impl.Prog{
		"four threads": prog(nil, nil, nil, nil), "eight steps": prog(times(8, wall())), "15 steps": prog(times(7, wall()), times(7, wall()), times(1, wall())), "seven reads": prog(times(7, load(0))),
		"no kind": prog(thread(impl.Do{})), "no place": prog(thread(load(3))), "place below 0": prog(thread(load(-1))), "no value": prog(thread(store(0, 4))), "value 0": prog(thread(store(0, 0))), "a value too much": prog(thread(impl.Do{Kind: impl.DoLoad, Val: 1})),
		"a copy first": prog(thread(copyTo(0), load(0))), "stays in": prog(thread(in(), load(0))), "goes out": prog(thread(load(0), out())), "waits in": prog(thread(in(), load(0), wait(), out())),
	} {
		for n := range 9 {
			s := impl.Seen{Reads: make([]int, n), Last: make([]int, impl.ProgPlaces)}
			if impl.SeenOk(p, s) {
				t.Errorf("%s: %v of %v", name, s, p)
			}
		}
		if impl.SeenOk(p, impl.Seen{}) {
			t.Errorf("%s: nothing of %v", name, p)
		}
	}
}

// What is said once: the empty list and the nil list are the same.
func TestEmptyAndNilAreTheSame(t *testing.T) {
	pairs := [][2]impl.Seen{
		{{}, {Reads: []int{}, Last: []int{}}},
		{{Last: nums(1, 0, 0)}, {Reads: []int{}, Last: nums(1, 0, 0)}},
		{{Reads: nums(1)}, {Reads: nums(1), Last: make([]int, 0, 7)}},
	}
	for _, pair := range pairs {
		a, b := pair[0], pair[1]
		if impl.SeenLess(a, b) || impl.SeenLess(b, a) || impl.SeenText(a) != impl.SeenText(b) || !impl.SeenIn([]impl.Seen{a}, b) || !impl.SeenIn([]impl.Seen{b}, a) {
			t.Errorf("%#v and %#v are told apart", a, b)
		}
		if got := impl.SeenSort([]impl.Seen{a, b, a, b}); len(got) != 1 {
			t.Errorf("%#v and %#v: %v", a, b, got)
		}
	}
	if !impl.SeenOk(impl.Prog{}, seen(nil, 0, 0, 0)) || !impl.SeenOk(impl.Prog{Threads: [][]impl.Do{{}}}, seen([]int{}, 0, 0, 0)) {
		t.Error("no reads of no threads, or of no steps, are refused")
	}
	if len(impl.SeenSort([]impl.Seen{})) != 0 {
		t.Error("a list of nothing has something")
	}
}

// wide is the same list with spare room, in which other numbers stand.
func wide(list []int) []int {
	return append(slices.Clone(list), -7, -8, -9)[:len(list)]
}

func wideOk(list []int) bool {
	return slices.Equal(list[len(list):len(list)+3], nums(-7, -8, -9))
}

// What is said once: nothing is written into an argument or behind its end.
func TestSeenArgumentsStay(t *testing.T) {
	mark := seen(nums(77), 77)
	for _, list := range someLists() {
		room := append(copySeens(list), mark, mark)[:len(list)]
		for i, s := range room {
			room[i] = impl.Seen{Reads: wide(s.Reads), Last: wide(s.Last)}
		}
		impl.SeenSort(room)
		for _, s := range room {
			impl.SeenText(s)
			impl.SeenIn(room, s)
			impl.SeenLess(s, mark)
			impl.SeenOk(prog(times(len(s.Reads)%7, load(0))), s)
		}
		if !sameSeens(room, list) || !sameSeens(room[len(list):len(list)+2], []impl.Seen{mark, mark}) {
			t.Fatalf("%v became %v", list, room)
		}
		for _, s := range room {
			if !wideOk(s.Reads) || !wideOk(s.Last) {
				t.Fatalf("written behind the end of %v", s)
			}
		}
	}
}

// fillSeen writes a number over all of a list, spare room included.
func fillSeen(list []int, v int) {
	for i := range list[:cap(list)] {
		list[:cap(list)][i] = v
	}
}

// What is said once: an answer shares no memory with an argument, and no two lists of an answer share any.
func TestSeenAnswersShareNothing(t *testing.T) {
	lists := someLists()
	// All lists of these lie in one piece of memory, one over the other.
	ground := nums(0, 1, 2, 3, 0, 1, 2, 3)
	var over []impl.Seen
	for i := range ground {
		over = append(over, impl.Seen{Reads: ground[i:], Last: ground[:i]}, impl.Seen{Reads: ground[:i], Last: ground[:i]}, impl.Seen{Reads: ground[i:i], Last: ground[i:i]})
	}
	for _, list := range append(lists, over) {
		arg := slices.Clone(list)
		want := copySeens(list)
		got, again := impl.SeenSort(arg), impl.SeenSort(arg)
		for i, s := range got {
			fillSeen(s.Reads, 1000+2*i)
			fillSeen(s.Last, 1001+2*i)
		}
		for i, s := range got {
			if !slices.Equal(s.Reads, slices.Repeat(nums(1000+2*i), len(s.Reads))) || !slices.Equal(s.Last, slices.Repeat(nums(1001+2*i), len(s.Last))) {
				t.Fatalf("lists of an answer share memory: %v", got)
			}
		}
		for _, s := range got[len(got):cap(got)] {
			fillSeen(s.Reads, -1)
			fillSeen(s.Last, -1)
		}
		clear(got[:cap(got)])
		if !sameSeens(arg, want) || !sameSeens(again, plainSort(want)) {
			t.Fatalf("an answer shares memory: %v, %v", arg, again)
		}
	}
}
