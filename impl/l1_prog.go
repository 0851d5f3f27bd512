// Package impl: what threads may see.
package impl

import "strings"

// Kinds of steps of a thread.
const (
	DoStore = 1
	DoLoad  = 2
	DoCopy  = 3
	DoWall  = 4
	DoTake  = 5
	DoGive  = 6
	DoIn    = 7
	DoOut   = 8
	DoWait  = 9
)

// Limits of programs.
const (
	ProgThreads = 3
	ProgSteps   = 7
	ProgAll     = 14
	ProgUses    = 6
	ProgPlaces  = 3
	ProgVals    = 3
)

// What texts of programs are made of.
const (
	progBytes   = 400
	threadWord  = "thread"
	firstPlace  = 'x'
	firstFigure = '0'
)

// Do is a step: a value is stored at a place; a place is read; what was read last is stored; a wall; a place is read, or stored to, ahead of, or behind, all else; a reader goes in, or out; or one waits for readers.
type Do struct {
	Kind  int
	Place int
	Val   int
}

// Prog is threads, each its steps, one behind the other.
type Prog struct {
	Threads [][]Do
}

// doKind is the Kind of a step, so that all layers ask the kind itself what it does.
type doKind int

func (k doKind) reads() bool {
	return k == DoLoad || k == DoTake
}

// storesVal leaves DoCopy out: that writes a value which its step does not hold.
func (k doKind) storesVal() bool {
	return k == DoStore || k == DoGive
}

func (k doKind) writes() bool {
	return k.storesVal() || k == DoCopy
}

func (k doKind) usesPlace() bool {
	return k.reads() || k.writes()
}

// word is empty just at what is no kind.
func (k doKind) word() string {
	switch k {
	case DoStore:
		return "store"
	case DoLoad:
		return "load"
	case DoCopy:
		return "copy"
	case DoWall:
		return "wall"
	case DoTake:
		return "take"
	case DoGive:
		return "give"
	case DoIn:
		return "in"
	case DoOut:
		return "out"
	case DoWait:
		return "wait"
	}
	return ""
}

func (k doKind) placeOk(place int) bool {
	if k.usesPlace() {
		return 0 <= place && place < ProgPlaces
	}
	return place == 0
}

func (k doKind) valOk(val int) bool {
	if k.storesVal() {
		return 1 <= val && val <= ProgVals
	}
	return val == 0
}

// ProgOk says whether a program is ok.
func ProgOk(p Prog) bool {
	if len(p.Threads) > ProgThreads {
		return false
	}
	all, uses := 0, 0
	for _, steps := range p.Threads {
		if !threadOk(steps) {
			return false
		}
		all += len(steps)
		uses += countKinds(steps, doKind.usesPlace)
	}
	return all <= ProgAll && uses <= ProgUses
}

func threadOk(steps []Do) bool {
	return len(steps) <= ProgSteps && stepsInForm(steps) && copiesOk(steps) && readersOk(steps)
}

func stepsInForm(steps []Do) bool {
	for _, d := range steps {
		k := doKind(d.Kind)
		if k.word() == "" || !k.placeOk(d.Place) || !k.valOk(d.Val) {
			return false
		}
	}
	return true
}

func copiesOk(steps []Do) bool {
	read := false
	for _, d := range steps {
		if d.Kind == DoCopy && !read {
			return false
		}
		read = read || doKind(d.Kind).reads()
	}
	return true
}

func readersOk(steps []Do) bool {
	in := false
	for _, d := range steps {
		switch d.Kind {
		case DoIn:
			if in {
				return false
			}
			in = true
		case DoOut:
			if !in {
				return false
			}
			in = false
		case DoWait:
			if in {
				return false
			}
		}
	}
	return !in
}

func countKinds(steps []Do, counts func(doKind) bool) int {
	n := 0
	for _, d := range steps {
		if counts(doKind(d.Kind)) {
			n++
		}
	}
	return n
}

// ProgReads is how many reads a program has.
func ProgReads(p Prog) int {
	if !ProgOk(p) {
		return -1
	}
	n := 0
	for _, steps := range p.Threads {
		n += countKinds(steps, doKind.reads)
	}
	return n
}

// ProgText writes a program.
func ProgText(p Prog) string {
	if !ProgOk(p) {
		return ""
	}
	var out strings.Builder
	for _, steps := range p.Threads {
		out.WriteString(threadWord)
		out.WriteRune('\n')
		for _, d := range steps {
			writeStep(&out, d)
		}
	}
	return out.String()
}

func writeStep(out *strings.Builder, d Do) {
	k := doKind(d.Kind)
	out.WriteString(k.word())
	if k.usesPlace() {
		out.WriteRune(' ')
		out.WriteRune(firstPlace + rune(d.Place))
	}
	if k.storesVal() {
		out.WriteRune(' ')
		out.WriteRune(firstFigure + rune(d.Val))
	}
	out.WriteRune('\n')
}

// ProgRead reads a program.
//
// What is written of the program decides in the end, so that a program has just one text and the reading ahead of it need not look at blanks, line ends and what is left over.
func ProgRead(text string) (Prog, bool) {
	if len(text) > progBytes {
		return Prog{}, false
	}
	p, ok := readThreads(text)
	if !ok || !ProgOk(p) || ProgText(p) != text {
		return Prog{}, false
	}
	return p, true
}

func readThreads(text string) (Prog, bool) {
	var p Prog
	for text != "" {
		line, rest, _ := strings.Cut(text, "\n")
		text = rest
		if line == threadWord {
			p.Threads = append(p.Threads, nil)
			continue
		}
		d, ok := readStep(line)
		last := len(p.Threads) - 1
		if !ok || last < 0 {
			return Prog{}, false
		}
		p.Threads[last] = append(p.Threads[last], d)
	}
	return p, true
}

func readStep(line string) (Do, bool) {
	word, rest, _ := strings.Cut(line, " ")
	k, ok := kindOfWord(word)
	if !ok {
		return Do{}, false
	}
	d := Do{Kind: int(k)}
	parts := []rune(rest)
	if k.usesPlace() && len(parts) > 0 {
		d.Place = int(parts[0] - firstPlace)
	}
	if k.storesVal() && len(parts) > 0 {
		d.Val = int(parts[len(parts)-1] - firstFigure)
	}
	return d, true
}

func kindOfWord(word string) (doKind, bool) {
	for k := doKind(DoStore); k <= DoWait; k++ {
		if k.word() == word {
			return k, true
		}
	}
	return 0, false
}
