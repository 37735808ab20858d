package tests

import (
	"fmt"
	"go/ast"
	"go/parser"
	"go/token"
	"math/rand"
	"path/filepath"
	"reflect"
	"slices"
	"sync"
	"testing"

	"loop.example/g00399/impl"
)

const (
	meetNone   = 0
	meetFirst  = 1
	meetSecond = 2
)

// meetAnswers tell who of the pair copies: by what Newer tells, a row for who is Prime (none, the first, the second, both), in it a sign for who is Fine, in the same order: N none, F the first, S the second, L by Last.
var meetAnswers = [4][4]string{
	gensSame:   {"NFSL", "NFNF", "NNSS", "NNNN"},
	gensFirst:  {"NFNF", "NFNF", "NNNN", "NNNN"},
	gensSecond: {"NNSS", "NNNN", "NNSS", "NNNN"},
	gensSplit:  {"NNNN", "NNNN", "NNNN", "NNNN"},
}

type twoGens struct{ a, b []int }

// meetGens are lists of which Newer tells each of its answers, at the edges, too.
var meetGens = [4][]twoGens{
	gensSame:   {{[]int{1}, []int{1}}, {[]int{4, 3, 1}, []int{4, 2}}, {gensFrom(1, mostGens), []int{1}}},
	gensFirst:  {{[]int{2, 1}, []int{1}}, {gensFrom(1, mostGens), []int{mostGens, 50}}, {[]int{1, 2}, []int{2, 1}}, {[]int{mostGen, 1}, []int{1}}},
	gensSecond: {{[]int{1}, []int{2, 1}}, {[]int{mostGens, 50}, gensFrom(1, mostGens)}, {[]int{1}, []int{mostGen, 1}}},
	gensSplit:  {{[]int{2, 1}, []int{3, 1}}, {[]int{1}, []int{2}}, {gensFrom(1, mostGens), gensFrom(mostGens+1, mostGens)}},
}

type twoNodes struct{ x, y impl.Node }

// turnedMeta is n with its meta turned, in its slots, too, with the same number.
func turnedMeta(n impl.Node, turn func(m *impl.Meta)) impl.Node {
	n = cloneNode(n)
	_, seq, _ := getPlainly(n.Slots)
	turn(&n.Meta)
	n.Slots = impl.Slots{A: slotPlainly(n.Meta, seq)}
	return n
}

// meeting is a new node that is told by these alone.
func meeting(id int, prime bool, fine bool, gens []int, last int) impl.Node {
	n := turnedMeta(newPlainly(id), func(m *impl.Meta) {
		m.Fine, m.Gens, m.Last = fine, slices.Clone(gens), last
	})
	n.Prime = prime
	return n
}

// marking is n with those marks for that node.
func marking(n impl.Node, id int, marks ...int) impl.Node {
	return turnedMeta(n, func(m *impl.Meta) { m.Bits[id] = slices.Clone(marks) })
}

// numbered is n with that number in its slots.
func numbered(n impl.Node, seq int) impl.Node {
	n = cloneNode(n)
	n.Slots = impl.Slots{A: slotPlainly(n.Meta, seq)}
	return n
}

// whoOf is 0 for none, 1 and 2 for one alone, 3 for both.
func whoOf(first bool, second bool) int {
	who := 0
	if first {
		who++
	}
	if second {
		who += 2
	}
	return who
}

func sourceOfPairPlainly(x impl.Node, y impl.Node) int {
	row := meetAnswers[newerPlainly(x.Meta.Gens, y.Meta.Gens)][whoOf(x.Prime, y.Prime)]
	switch row[whoOf(x.Meta.Fine, y.Meta.Fine)] {
	case 'F':
		return meetFirst
	case 'S':
		return meetSecond
	case 'L':
		if x.Meta.Last < y.Meta.Last {
			return meetSecond
		}
		return meetFirst
	}
	return meetNone
}

func sourcePlainly(x impl.Node, y impl.Node) int {
	if !nodeOkPlainly(x) || !nodeOkPlainly(y) || !x.Up || !y.Up {
		return meetNone
	}
	if x.Id == y.Id || x.Conn[y.Id] || y.Conn[x.Id] {
		return meetNone
	}
	if x.Id+y.Id == 1 {
		return sourceOfPairPlainly(x, y)
	}
	n, far, who := x, y, meetFirst
	if x.Id == 2 {
		n, far, who = y, x, meetSecond
	}
	if !n.Prime || slices.Index(n.Meta.Gens, far.Meta.Gens[0]) < 0 || !n.Meta.Fine {
		return meetNone
	}
	return who
}

func extentPlainly(x impl.Node, y impl.Node) []int {
	if !nodeOkPlainly(x) || !nodeOkPlainly(y) {
		return nil
	}
	return marksPlainly(x.Meta.Bits[y.Id], y.Meta.Bits[x.Id])
}

func joinPlainly(s impl.Node, t impl.Node) (impl.Node, impl.Node, bool) {
	if sourcePlainly(s, t) != meetFirst {
		return s, t, false
	}
	extent := extentPlainly(s, t)
	a, b := cloneNode(s), cloneNode(t)
	a.Conn[t.Id], a.Copies[t.Id], a.Sync[t.Id] = true, true, extent
	a.Meta.Bits[t.Id] = extent
	b.Conn[s.Id] = true
	if len(extent) > 0 {
		b.Meta.Fine = false
	}
	a.Slots, b.Slots = putPlainly(s.Slots, a.Meta), putPlainly(t.Slots, b.Meta)
	if !nodeOkPlainly(a) || !nodeOkPlainly(b) {
		return s, t, false
	}
	return a, b, true
}

func wantSource(t *testing.T, why string, x impl.Node, y impl.Node, want int) {
	t.Helper()
	if got := impl.Source(x, y); got != want {
		t.Errorf("%s: Source of %v and %v tells %d, not %d", why, x, y, got, want)
	}
}

// wantSourceBothWays asks with y named first, too, where the other answer is the right one.
func wantSourceBothWays(t *testing.T, why string, x impl.Node, y impl.Node, want int) {
	t.Helper()
	wantSource(t, why, x, y, want)
	wantSource(t, why+", named the other way round", y, x, mirrored(want))
}

func mirrored(who int) int {
	switch who {
	case meetFirst:
		return meetSecond
	case meetSecond:
		return meetFirst
	}
	return who
}

func wantExtent(t *testing.T, why string, x impl.Node, y impl.Node, want ...int) {
	t.Helper()
	wantList(t, "Extent: "+why, impl.Extent(x, y), want...)
}

func wantJoin(t *testing.T, why string, x impl.Node, y impl.Node) (impl.Node, impl.Node) {
	t.Helper()
	a, b, ok := impl.Join(x, y)
	if !ok {
		t.Errorf("%s: Join of %v and %v is false", why, x, y)
	}
	one, other, _ := joinPlainly(x, y)
	wantNode(t, why+", who copies", a, one)
	wantNode(t, why+", to whom", b, other)
	wantNodeOk(t, why+", who copies", a, true)
	wantNodeOk(t, why+", to whom", b, true)
	return a, b
}

func wantNoJoin(t *testing.T, why string, x impl.Node, y impl.Node) {
	t.Helper()
	a, b, ok := impl.Join(x, y)
	if ok {
		t.Errorf("%s: Join of %v and %v is true", why, x, y)
	}
	wantNode(t, why+", the first one", a, x)
	wantNode(t, why+", the second one", b, y)
}

func wantJoinAsPlainly(t *testing.T, why string, x impl.Node, y impl.Node) {
	t.Helper()
	if _, _, ok := joinPlainly(x, y); ok {
		wantJoin(t, why, x, y)
	} else {
		wantNoJoin(t, why, x, y)
	}
}

// pairsThatMeet are each two of which Source tells that one copies, the first one in some, the second one in others.
func pairsThatMeet() []twoNodes {
	var list []twoNodes
	for _, id := range []int{0, 1} {
		other := 1 - id
		list = append(list,
			twoNodes{newPlainly(id), newPlainly(other)},
			twoNodes{meeting(id, false, true, []int{1}, 3), meeting(other, false, true, []int{1}, 4)},
			twoNodes{meeting(id, false, true, []int{2, 1}, 3), meeting(other, false, false, []int{1}, 4)},
			twoNodes{meeting(id, false, false, []int{1}, 9), meeting(other, false, true, []int{2, 1}, 4)},
			twoNodes{meeting(id, true, true, []int{2, 1}, 3), meeting(other, false, true, []int{1}, 4)},
			twoNodes{meeting(id, true, true, []int{1}, 3), newPlainly(2)},
			twoNodes{meeting(2, false, false, []int{1}, 3), meeting(id, true, true, []int{5, 1}, 8)})
	}
	return list
}

// nodesThatMeet are nodes of each kind, with lists and marks that may or may not fit each other's.
func nodesThatMeet() []impl.Node {
	var list []impl.Node
	for id := range nodeCount {
		for _, gens := range [][]int{{1}, {2, 1}, {1, 2}, {3, 1}, {7}} {
			for fine := range 2 {
				n := meeting(id, false, fine == 1, gens, 3+len(gens))
				n = marking(n, (id+1)%nodeCount, 2, 5)
				list = append(list, n, marking(n, (id+2)%nodeCount, 5, 7))
				if id < 2 {
					n.Prime = true
					list = append(list, cloneNode(n))
				}
			}
		}
		list = append(list, newPlainly(id), numbered(marking(newPlainly(id), (id+1)%nodeCount, 0), mostSeq), numbered(newPlainly(id), mostSeq))
		list = append(list, busy(id), down(id), knowing(id, metaWith(1), 6), impl.Node{Id: id, Up: true})
		toOne := cloneNode(newPlainly(id))
		toOne.Conn[(id+1)%nodeCount], toOne.Copies[(id+1)%nodeCount], toOne.Sync[(id+1)%nodeCount] = true, true, []int{4}
		toOne.Wait = []int{8, 9}
		list = append(list, toOne)
	}
	return each(list, cloneNode)
}

func TestMeetNames(t *testing.T) {
	wantList(t, "the names", []int{impl.MtNone, impl.MtFirst, impl.MtSecond}, meetNone, meetFirst, meetSecond)
}

func TestSourceOfThoseThatAreNew(t *testing.T) {
	wantSource(t, "all alike", impl.NodeNew(0), impl.NodeNew(1), meetFirst)
	wantSource(t, "all alike", impl.NodeNew(1), impl.NodeNew(0), meetFirst)
	for id := range 2 {
		wantSourceBothWays(t, "nobody is prime", impl.NodeNew(id), impl.NodeNew(2), meetNone)
	}
	written := impl.Apply(impl.NodeNew(1), 1, 3, 7)
	wantSourceBothWays(t, "one has a later write", impl.NodeNew(0), written, meetSecond)
}

// Each of these bars a meeting alone; what is left as it was meets.
func TestSourceOfWhatMayNotMeet(t *testing.T) {
	for _, two := range pairsThatMeet() {
		if impl.Source(two.x, two.y) == meetNone {
			t.Fatalf("%v and %v do not meet", two.x, two.y)
		}
		for _, swap := range []bool{false, true} {
			x, y := two.x, two.y
			if swap {
				x, y = y, x
			}
			breaks := map[string]func(n *impl.Node){
				"a cell above all":          func(n *impl.Node) { n.Image[7] = mostWrites + 1 },
				"an image that is none":     func(n *impl.Node) { n.Image = n.Image[:7] },
				"nothing in the slots":      func(n *impl.Node) { n.Slots = impl.Slots{} },
				"another meta in the slots": func(n *impl.Node) { n.Slots.A = slotPlainly(metaWith(4), 1) },
				"cells to copy to itself":   func(n *impl.Node) { n.Sync[n.Id] = []int{1} },
				"a wait that is none":       func(n *impl.Node) { n.Wait = []int{2, 1} },
				"it is down":                func(n *impl.Node) { n.Up, n.Prime = false, false },
				"it is down, but prime":     func(n *impl.Node) { n.Up, n.Prime = false, true },
				"the same id":               func(n *impl.Node) { n.Id = y.Id },
				"an id that is none":        func(n *impl.Node) { n.Id = 3 },
				"it hears the other one":    func(n *impl.Node) { n.Conn[y.Id] = true },
				"it copies to the other one": func(n *impl.Node) {
					n.Conn[y.Id], n.Copies[y.Id], n.Sync[y.Id] = true, true, []int{3}
				},
			}
			for why, turn := range breaks {
				n := cloneNode(x)
				turn(&n)
				wantSourceBothWays(t, why, n, y, meetNone)
				wantNoJoin(t, why, n, y)
				wantNoJoin(t, why, y, n)
			}
		}
		x, y := cloneNode(two.x), cloneNode(two.y)
		x.Conn[y.Id], y.Conn[x.Id] = true, true
		wantSourceBothWays(t, "they hear each other", x, y, meetNone)
		wantNoJoin(t, "they hear each other", x, y)
	}
}

func TestSourceOfWhatIsNoNode(t *testing.T) {
	var others []impl.Node
	for id := range 2 {
		others = append(others, newPlainly(id), meeting(id, true, true, []int{9, 300, 1}, 3), meeting(2, false, true, []int{1}, 3))
	}
	for _, wrong := range wrongNodes() {
		for _, n := range others {
			wantSourceBothWays(t, wrong.why, wrong.node, n, meetNone)
		}
		wantSource(t, wrong.why+", twice", wrong.node, wrong.node, meetNone)
	}
}

func TestSourceOfTwoOfOneId(t *testing.T) {
	for id := range nodeCount {
		for _, n := range nodesThatMeet() {
			if n.Id == id {
				wantSourceBothWays(t, "one id", newPlainly(id), n, meetNone)
				wantSource(t, "one node", n, n, meetNone)
			}
		}
	}
}

// What is so between them and a third one, what they mark and what waits turns nothing of who copies, and stays as it was.
func TestSourceAsksForNothingElse(t *testing.T) {
	for _, two := range pairsThatMeet() {
		want := sourcePlainly(two.x, two.y)
		third := 3 - two.x.Id - two.y.Id
		turns := map[string]func(n *impl.Node){
			"it hears the third one":  func(n *impl.Node) { n.Conn[third] = true },
			"it copies to the third":  func(n *impl.Node) { n.Conn[third], n.Copies[third], n.Sync[third] = true, true, []int{0, 7} },
			"writes wait":             func(n *impl.Node) { n.Wait = []int{1, 200} },
			"cells are written":       func(n *impl.Node) { n.Image = []int{4, 9, 200, 0, 17, 1, 199, 3} },
			"all is marked":           func(n *impl.Node) { markAll(n) },
			"it is old":               func(n *impl.Node) { *n = turnedMeta(*n, func(m *impl.Meta) { m.Old = true }) },
			"it is held":              func(n *impl.Node) { *n = turnedMeta(*n, func(m *impl.Meta) { m.Held = true }) },
			"another number":          func(n *impl.Node) { *n = numbered(*n, mostSeq) },
			"more generations behind": func(n *impl.Node) { *n = turnedMeta(*n, func(m *impl.Meta) { m.Gens = append(m.Gens, 90) }) },
		}
		for why, turn := range turns {
			x, y := cloneNode(two.x), cloneNode(two.y)
			turn(&x)
			turn(&y)
			for _, now := range []twoNodes{{x, two.y}, {two.x, y}, {x, y}} {
				wantSource(t, why, now.x, now.y, want)
				wantJoinAsPlainly(t, why, now.x, now.y)
			}
		}
	}
}

func markAll(n *impl.Node) {
	*n = turnedMeta(*n, func(m *impl.Meta) {
		for id := range m.Bits {
			m.Bits[id] = gensFrom(0, cellCount)
		}
	})
}

func TestSourceOfTheOneFarAway(t *testing.T) {
	cases := []struct {
		why       string
		near, far []int
		among     bool
	}{
		{"alike", []int{1}, []int{1}, true},
		{"alike first ones", []int{5, 3}, []int{5, 4}, true},
		{"behind by one", []int{5, 4, 3}, []int{4, 3}, true},
		{"the last one of all", gensFrom(1, mostGens), []int{mostGens, 50}, true},
		{"each has the other's first one", []int{1, 2}, []int{2, 1}, true},
		{"ahead", []int{4, 3}, []int{5, 4, 3}, false},
		{"only the second one is there", []int{5, 4}, []int{6, 5}, false},
		{"left away", gensFrom(1, mostGens), []int{mostGens + 1}, false},
		{"nothing alike", []int{2}, []int{3}, false},
	}
	for _, one := range cases {
		for bits := range 16 {
			prime, fine, farFine, later := bits&1 != 0, bits&2 != 0, bits&4 != 0, bits&8 != 0
			last := 3
			if later {
				last = 9
			}
			for id := range 2 {
				n, far := meeting(id, prime, fine, one.near, 5), meeting(2, false, farFine, one.far, last)
				want := meetNone
				if prime && fine && one.among {
					want = meetFirst
				}
				wantSourceBothWays(t, one.why, n, far, want)
			}
		}
	}
}

func TestSourceOfThePair(t *testing.T) {
	for newer, list := range meetGens {
		for _, gens := range list {
			wantNewer(t, gens.a, gens.b, newer)
			for bits := range 16 {
				for _, lasts := range [][2]int{{5, 5}, {5, 6}, {6, 5}, {0, mostWrites}, {mostWrites, 0}, {0, 0}} {
					for id := range 2 {
						x := meeting(id, bits&1 != 0, bits&4 != 0, gens.a, lasts[0])
						y := meeting(1-id, bits&2 != 0, bits&8 != 0, gens.b, lasts[1])
						wantSource(t, fmt.Sprint("newer ", newer), x, y, sourceOfPairPlainly(x, y))
						wantSource(t, fmt.Sprint("newer ", newer, ", named the other way round"), y, x, sourceOfPairPlainly(y, x))
					}
				}
			}
		}
	}
}

// The chapter's own words, one by one.
func TestSourceOfThePairInOrder(t *testing.T) {
	alike, newer, split := []int{1}, []int{2, 1}, []int{3, 1}
	pair := func(why string, x impl.Node, y impl.Node, want int) {
		t.Helper()
		wantSourceBothWays(t, why, x, y, want)
		x.Id, y.Id = y.Id, x.Id
		wantSourceBothWays(t, why, x, y, want)
	}
	pair("both are prime", meeting(0, true, true, alike, 3), meeting(1, true, true, alike, 4), meetNone)
	pair("both are prime, one is newer", meeting(0, true, true, newer, 3), meeting(1, true, true, alike, 3), meetNone)
	pair("none is fine", meeting(0, false, false, alike, 3), meeting(1, false, false, alike, 4), meetNone)
	pair("none is fine, one is newer", meeting(0, false, false, newer, 3), meeting(1, false, false, alike, 3), meetNone)
	pair("split", meeting(0, false, true, newer, 3), meeting(1, false, true, split, 4), meetNone)
	pair("split, one is prime", meeting(0, true, true, newer, 3), meeting(1, false, false, split, 3), meetNone)
	pair("the newer one", meeting(0, false, true, newer, 3), meeting(1, false, true, alike, 4), meetFirst)
	pair("the newer one is prime", meeting(0, true, true, newer, 3), meeting(1, false, true, alike, 4), meetFirst)
	pair("the newer one is not fine", meeting(0, false, false, newer, 5), meeting(1, false, true, alike, 4), meetNone)
	pair("the other one is prime", meeting(0, false, true, newer, 5), meeting(1, true, true, alike, 4), meetNone)
	pair("prime", meeting(0, true, true, alike, 3), meeting(1, false, true, alike, 4), meetFirst)
	pair("prime, the other one is not fine", meeting(0, true, true, alike, 3), meeting(1, false, false, alike, 4), meetFirst)
	pair("prime, but not fine", meeting(0, true, false, alike, 5), meeting(1, false, true, alike, 4), meetNone)
	pair("the only one that is fine", meeting(0, false, true, alike, 3), meeting(1, false, false, alike, 4), meetFirst)
	pair("the greater last", meeting(0, false, true, alike, 5), meeting(1, false, true, alike, 4), meetFirst)
	x, y := meeting(0, false, true, alike, 4), meeting(1, false, true, alike, 4)
	wantSource(t, "all alike", x, y, meetFirst)
	wantSource(t, "all alike", y, x, meetFirst)
}

func TestSourceAgainstPlainOne(t *testing.T) {
	nodes := nodesThatMeet()
	for _, x := range nodes {
		for _, y := range nodes {
			wantSource(t, "each two", x, y, sourcePlainly(x, y))
		}
	}
}

func TestExtent(t *testing.T) {
	for x := range nodeCount {
		for y := range nodeCount {
			if x == y {
				continue
			}
			third := 3 - x - y
			a, b := newPlainly(x), newPlainly(y)
			wantExtent(t, "at none", a, b)
			wantExtent(t, "for others", marking(marking(a, third, 1, 2), x, 3), marking(marking(b, third, 4), y, 5))
			wantExtent(t, "at the first one", marking(a, y, 0, 7), b, 0, 7)
			wantExtent(t, "at the second one", a, marking(b, x, 2, 5), 2, 5)
			wantExtent(t, "at both", marking(a, y, 3, 6), marking(b, x, 0, 4, 7), 0, 3, 4, 6, 7)
			wantExtent(t, "at both, alike", marking(a, y, 3, 6), marking(b, x, 3, 6), 3, 6)
			wantExtent(t, "all", marking(a, y, 0, 2, 4, 6), marking(b, x, 1, 3, 5, 7), gensFrom(0, cellCount)...)
		}
	}
}

func TestExtentOfAllMarks(t *testing.T) {
	for _, one := range goodMarks {
		for _, other := range goodMarks {
			for x := range nodeCount {
				for y := range nodeCount {
					a, b := newPlainly(x), newPlainly(y)
					a, b = marking(a, y, one...), marking(b, x, other...)
					wantExtent(t, "each two", a, b, marksPlainly(one, other)...)
				}
			}
		}
	}
}

// What bars a meeting does not bar what they mark from being told.
func TestExtentOfWhatDoesNotMeet(t *testing.T) {
	x, y := marking(newPlainly(0), 1, 3), marking(newPlainly(1), 0, 4)
	x.Conn[1], y.Conn[0] = true, true
	wantExtent(t, "they hear each other", x, y, 3, 4)
	wantExtent(t, "both are down", fallPlainly(x), fallPlainly(y), 3, 4)
	x.Prime, y.Prime = true, true
	wantExtent(t, "both are prime", x, y, 3, 4)
	far := marking(newPlainly(2), 1, 6)
	wantExtent(t, "nobody is prime", far, marking(newPlainly(1), 2, 0), 0, 6)
}

func TestExtentOfWhatIsNoNode(t *testing.T) {
	for _, wrong := range wrongNodes() {
		for id := range nodeCount {
			n := newPlainly(id)
			markAll(&n)
			wantExtent(t, wrong.why, n, wrong.node)
			wantExtent(t, wrong.why, wrong.node, n)
		}
		wantExtent(t, wrong.why, wrong.node, wrong.node)
	}
}

func TestExtentAgainstPlainOne(t *testing.T) {
	nodes := nodesThatMeet()
	for _, x := range nodes {
		for _, y := range nodes {
			wantExtent(t, "each two", x, y, extentPlainly(x, y)...)
		}
	}
}

func TestJoin(t *testing.T) {
	x, y := marking(meeting(0, false, true, []int{2, 1}, 6), 1, 3, 5), marking(newPlainly(1), 0, 1, 5)
	a, b, ok := impl.Join(x, y)
	if !ok {
		t.Fatal("they do not join")
	}
	one, other := cloneNode(x), cloneNode(y)
	one.Conn, one.Copies, one.Sync = []bool{false, true, false}, []bool{false, true, false}, [][]int{{}, {1, 3, 5}, {}}
	one.Meta.Bits = [][]int{{}, {1, 3, 5}, {}}
	one.Slots.B = slotPlainly(one.Meta, 2)
	wantNode(t, "who copies", a, one)
	other.Conn, other.Meta.Fine = []bool{true, false, false}, false
	other.Slots.B = slotPlainly(other.Meta, 2)
	wantNode(t, "to whom", b, other)
	wantNoJoin(t, "the other way", y, x)
	wantNoJoin(t, "once more", a, b)
	wantNoJoin(t, "once more, the other way", b, a)
}

func TestJoinOfTheOneFarAway(t *testing.T) {
	n, far := marking(meeting(1, true, true, []int{4, 1}, 6), 2, 0), marking(newPlainly(2), 1, 7)
	n.Conn[0], n.Copies[0], n.Sync[0], n.Wait = true, true, []int{2}, []int{6}
	a, b := wantJoin(t, "the one far away", n, far)
	wantList(t, "what is copied", a.Sync[2], 0, 7)
	wantMarks(t, "who copies", a, nil, nil, []int{0, 7})
	wantMarks(t, "the one far away", b, nil, []int{7}, nil)
	if !a.Prime || !a.Conn[0] || !a.Conn[2] || !a.Copies[0] || !a.Copies[2] || b.Meta.Fine || !b.Conn[1] {
		t.Errorf("of the one far away came %v and %v", a, b)
	}
	wantList(t, "what was to be copied", a.Sync[0], 2)
	wantList(t, "what waits", a.Wait, 6)
	wantNoJoin(t, "the other way", far, n)
}

// It copies then, too: that all is copied is still to be told.
func TestJoinWhereThereIsNothingToCopy(t *testing.T) {
	for id := range 2 {
		for _, fine := range []bool{true, false} {
			for _, other := range []int{1 - id, 2} {
				n, o := meeting(id, true, true, []int{4, 1}, 6), meeting(other, false, fine, []int{1}, 6)
				a, b := wantJoin(t, "nothing to copy", n, o)
				if !a.Copies[other] || len(a.Sync[other]) > 0 || b.Meta.Fine != fine || b.Copies[id] {
					t.Errorf("of nothing to copy came %v and %v", a, b)
				}
			}
		}
	}
}

func TestJoinWhereThereIsSomethingToCopy(t *testing.T) {
	for id := range 2 {
		for _, fine := range []bool{true, false} {
			for _, other := range []int{1 - id, 2} {
				for at := range cellCount {
					n, o := meeting(id, true, true, []int{4, 1}, 6), meeting(other, false, fine, []int{1}, 6)
					both := []twoNodes{{marking(n, other, at), o}, {n, marking(o, id, at)}, {marking(n, other, at), marking(o, id, at)}}
					for _, two := range both {
						a, b := wantJoin(t, "something to copy", two.x, two.y)
						wantList(t, "what is copied", a.Sync[other], at)
						wantList(t, "what is marked", a.Meta.Bits[other], at)
						wantList(t, "what it marked itself", b.Meta.Bits[id], two.y.Meta.Bits[id]...)
						if b.Meta.Fine || !a.Meta.Fine {
							t.Errorf("of something to copy came %v and %v", a, b)
						}
					}
				}
			}
		}
	}
}

// Cells that s marked for t already stay marked, once; those for others are as they were.
func TestJoinOfWhatIsMarkedAlready(t *testing.T) {
	for _, was := range goodMarks {
		for _, back := range goodMarks {
			n := marking(marking(meeting(0, false, true, []int{2, 1}, 6), 1, was...), 2, 1, 6)
			a, _ := wantJoin(t, "marked already", n, marking(newPlainly(1), 0, back...))
			wantMarks(t, "marked already", a, nil, marksPlainly(was, back), []int{1, 6})
		}
	}
}

// Both metas are kept once, though they come out as they were.
func TestJoinKeepsBothMetas(t *testing.T) {
	for _, seq := range []int{1, 2, 127, 128, 999, mostSeq - 1} {
		for _, marks := range [][]int{nil, {3}} {
			for _, fine := range []bool{true, false} {
				x := numbered(marking(meeting(1, false, true, []int{2, 1}, 6), 0, marks...), seq)
				y := numbered(meeting(0, false, fine, []int{1}, 6), seq)
				a, b := wantJoin(t, "kept once", x, y)
				wantNumber(t, "kept once, who copies", a, seq+1)
				wantNumber(t, "kept once, to whom", b, seq+1)
			}
		}
	}
}

// Behind the last number only what comes out as it was is kept: where one of both is not, none is turned.
func TestJoinBehindTheLastNumber(t *testing.T) {
	for id := range 2 {
		other := 1 - id
		x, y := meeting(id, false, true, []int{2, 1}, 6), meeting(other, false, true, []int{1}, 6)
		xAtLast, yAtLast := numbered(x, mostSeq), numbered(y, mostSeq)
		wantNoJoin(t, "a mark is new", xAtLast, marking(y, id, 3))
		wantNoJoin(t, "it would be fine no more", marking(x, other, 3), yAtLast)
		wantNoJoin(t, "both", numbered(marking(x, other, 2), mostSeq), numbered(marking(y, id, 3), mostSeq))

		a, b := wantJoin(t, "nothing to copy", xAtLast, yAtLast)
		wantNumber(t, "nothing to copy, who copies", a, mostSeq)
		wantNumber(t, "nothing to copy, to whom", b, mostSeq)
		a, _ = wantJoin(t, "marked already", numbered(marking(x, other, 3), mostSeq), y)
		wantNumber(t, "marked already", a, mostSeq)
		torn := turnedMeta(yAtLast, func(m *impl.Meta) { m.Fine = false })
		_, b = wantJoin(t, "not fine already", marking(x, other, 3), torn)
		wantNumber(t, "not fine already", b, mostSeq)
	}
}

// Whatever Source tells, Join does only what it tells of the first one.
func TestJoinAsSourceTells(t *testing.T) {
	told := map[int]int{}
	nodes := nodesThatMeet()
	for _, x := range nodes {
		for _, y := range nodes {
			who := impl.Source(x, y)
			told[who]++
			wantJoinAsPlainly(t, "as it is told", x, y)
			if _, _, ok := impl.Join(x, y); ok && who != meetFirst {
				t.Errorf("%v and %v join, though Source tells %d", x, y, who)
			}
		}
	}
	if told[meetNone] == 0 || told[meetFirst] == 0 || told[meetSecond] == 0 {
		t.Errorf("not each answer was asked for: %v", told)
	}
}

func TestJoinOfWhatIsNoNode(t *testing.T) {
	for _, wrong := range wrongNodes() {
		for _, n := range []impl.Node{newPlainly(0), meeting(1, true, true, []int{9, 300, 1}, 3), newPlainly(2)} {
			wantNoJoin(t, wrong.why, n, wrong.node)
			wantNoJoin(t, wrong.why, wrong.node, n)
		}
	}
}

func TestOneCopiesAtMost(t *testing.T) {
	nodes := nodesThatMeet()
	for _, x := range nodes {
		for _, y := range nodes {
			a, b, ok := impl.Join(x, y)
			if !ok {
				continue
			}
			if !a.Copies[b.Id] || b.Copies[a.Id] || !a.Conn[b.Id] || !b.Conn[a.Id] {
				t.Errorf("%v and %v join as %v and %v", x, y, a, b)
			}
			wantNodeOk(t, "who copies", a, true)
			wantNodeOk(t, "to whom", b, true)
			for _, two := range []twoNodes{{a, b}, {b, a}, {a, y}, {y, a}, {x, b}, {b, x}} {
				wantSource(t, "they hear each other", two.x, two.y, meetNone)
				wantNoJoin(t, "they hear each other", two.x, two.y)
			}
		}
	}
}

// Where each has the other's first generation, the one named first is the newer one; else it counts only where nothing tells them apart.
func TestSourceOfThoseNamedTheOtherWayRound(t *testing.T) {
	nodes := nodesThatMeet()
	ties := 0
	for _, x := range nodes {
		for _, y := range nodes {
			if x.Id+y.Id == 1 && newerPlainly(x.Meta.Gens, y.Meta.Gens) == gensFirst && newerPlainly(y.Meta.Gens, x.Meta.Gens) == gensFirst {
				continue
			}
			one := impl.Source(x, y)
			if one == meetFirst && nothingTellsApart(x, y) {
				wantSource(t, "all alike", y, x, meetFirst)
				ties++
				continue
			}
			wantSource(t, "named the other way round", y, x, mirrored(one))
		}
	}
	if ties == 0 {
		t.Error("no two were alike")
	}
}

// nothingTellsApart is asked of two of the pair or of one and the one far away, of which one copies.
func nothingTellsApart(x impl.Node, y impl.Node) bool {
	same := newerPlainly(x.Meta.Gens, y.Meta.Gens) == gensSame && x.Meta.Last == y.Meta.Last
	return same && !x.Prime && !y.Prime && x.Meta.Fine && y.Meta.Fine
}

// copiedPlainly is what they are when all that t lacks has been copied and they hear each other no more.
func copiedPlainly(s impl.Node, t impl.Node) (impl.Node, impl.Node) {
	for _, at := range s.Sync[t.Id] {
		val := s.Image[at]
		t = impl.Apply(t, s.Id, at, val)
		s = impl.Known(s, t.Id, at, val)
	}
	known := cloneMeta(t.Meta)
	known.Fine, known.Last = true, s.Meta.Last
	return impl.Rise(impl.Fall(s)), impl.Rise(impl.Fall(impl.Keep(t, known)))
}

func wantDifferIsCopied(t *testing.T, x impl.Node, y impl.Node, s impl.Node) {
	t.Helper()
	for _, at := range differPlainly(x.Image, y.Image) {
		if !slices.Contains(s.Sync[y.Id], at) || !slices.Contains(s.Meta.Bits[y.Id], at) {
			t.Errorf("of %v and %v cell %d is not copied: %v", x, y, at, s)
		}
	}
}

// Nodes write and hear by chance, fall and rise, and now and then two meet.
func TestWhatDiffersIsCopied(t *testing.T) {
	source := rand.New(rand.NewSource(91))
	joins, copied := 0, 0
	for range 12 {
		nodes := []impl.Node{impl.NodeNew(0), impl.NodeNew(1), impl.NodeNew(2)}
		for val := 1; val <= mostWrites; val++ {
			who, at := source.Intn(nodeCount), source.Intn(cellCount)
			nodes[who] = impl.Apply(nodes[who], who, at, val)
			for other := range nodeCount {
				if other == who || source.Intn(2) == 0 {
					continue
				}
				nodes[other] = impl.Apply(nodes[other], who, at, val)
				if source.Intn(2) == 0 {
					nodes[who] = impl.Known(nodes[who], other, at, val)
				}
			}
			if source.Intn(9) == 0 {
				nodes[who] = impl.Rise(impl.Fall(nodes[who]))
			}
			x := source.Intn(nodeCount)
			y := (x + 1 + source.Intn(2)) % nodeCount
			nodes[x].Prime = x < 2 && source.Intn(2) == 0
			s, o, ok := impl.Join(nodes[x], nodes[y])
			if !ok {
				continue
			}
			joins++
			wantDifferIsCopied(t, nodes[x], nodes[y], s)
			copied += len(s.Sync[y])
			if source.Intn(3) > 0 {
				continue
			}
			nodes[x], nodes[y] = copiedPlainly(s, o)
			wantList(t, "behind all that is copied", nodes[y].Image, nodes[x].Image...)
			wantNodeOk(t, "behind all that is copied", nodes[y], true)
		}
	}
	if joins < 200 || copied < 200 {
		t.Errorf("only %d joined, to copy %d cells", joins, copied)
	}
}

func someThatMeet() []impl.Node {
	list := slices.Concat(nodesThatMeet(), []impl.Node{{}, {Id: -1}, {Id: 3, Up: true}, {Id: 1 << 62, Up: true}})
	for i, wrong := range wrongNodes() {
		if i%97 == 0 {
			list = append(list, wrong.node)
		}
	}
	return list
}

func TestThoseThatMeetAreNotWrittenInto(t *testing.T) {
	nodes := someThatMeet()
	for i, x := range nodes {
		for j, y := range nodes {
			if (i+j)%3 > 0 && impl.Source(x, y) == meetNone {
				continue
			}
			one, other := roomyNode(x), roomyNode(y)
			first, second := roomText(reflect.ValueOf(one)), roomText(reflect.ValueOf(other))
			impl.Source(one, other)
			impl.Extent(one, other)
			impl.Join(one, other)
			if roomText(reflect.ValueOf(one)) != first || roomText(reflect.ValueOf(other)) != second {
				t.Errorf("%v and %v were changed to %v and %v", x, y, one, other)
			}
		}
	}
}

func TestThoseThatMeetTellNewMemory(t *testing.T) {
	nodes := someThatMeet()
	for i, x := range nodes {
		for j, y := range nodes {
			if (i+j)%5 > 0 && impl.Source(x, y) == meetNone {
				continue
			}
			one, other := roomyNode(x), roomyNode(y)
			a, b, _ := impl.Join(one, other)
			c, d, _ := impl.Join(one, other)
			wantApart(t, "Join and Extent", one, other, a, b, c, d, impl.Extent(one, other), impl.Extent(one, other))
		}
	}
}

// Lists that both nodes share, each with itself and with the other one, are apart in the answer.
func TestThoseThatMeetTellListsOfTheirOwn(t *testing.T) {
	shared, lines := gensFrom(0, cellCount), []bool{false, false, false}
	for _, id := range []int{0, 1} {
		for _, done := range []bool{true, false} {
			n := newPlainly(id)
			n.Image, n.Conn, n.Copies, n.Wait = shared, lines, lines, shared[2:4]
			n.Meta.Gens, n.Meta.Bits = shared[1:2], [][]int{shared[1:3], shared[1:3], shared[1:3]}
			n.Sync = [][]int{shared[:0], shared[:0], shared[:0]}
			b := slotPlainly(n.Meta, 4)
			n.Slots = impl.Slots{A: b, B: b}
			o := n
			if done {
				o.Id = 1 - id
			}
			a, z, ok := impl.Join(n, o)
			if ok != done {
				t.Errorf("Join of %v and %v tells %v", n, o, ok)
			}
			wantApart(t, "lists that share", a, z, impl.Extent(n, o))
			wantApart(t, "lists that share", n.Image, n.Conn, b, a, z)
		}
	}
}

func TestThoseThatMeetLookAtNoSpareRoom(t *testing.T) {
	for _, two := range pairsThatMeet() {
		x, y := roomyNode(two.x), roomyNode(two.y)
		wantSource(t, "wrong ones in the spare room", x, y, sourcePlainly(two.x, two.y))
		wantExtent(t, "wrong ones in the spare room", x, y, extentPlainly(two.x, two.y)...)
		if a, b, ok := impl.Join(x, y); ok {
			one, other, _ := joinPlainly(two.x, two.y)
			wantNode(t, "wrong ones in the spare room", a, one)
			wantNode(t, "wrong ones in the spare room", b, other)
		}
	}
}

// Who asks first, and who asks at the same time, is told the same.
func TestThoseThatMeetAreToldTheSameAtOnce(t *testing.T) {
	pairs := pairsThatMeet()
	answers := make([][]int, 16)
	var all sync.WaitGroup
	for i := range answers {
		all.Add(1)
		go func() {
			defer all.Done()
			for _, two := range pairs {
				answers[i] = append(answers[i], impl.Source(two.x, two.y), impl.Source(two.y, two.x))
			}
		}()
	}
	all.Wait()
	var want []int
	for _, two := range pairs {
		want = append(want, sourcePlainly(two.x, two.y), sourcePlainly(two.y, two.x))
	}
	for _, got := range answers {
		wantList(t, "asked at once", got, want...)
	}
}

// namesIn tells of each function of the program which names stand in it.
func namesIn(t *testing.T) map[string][]string {
	files, err := filepath.Glob("../impl/*.go")
	if err != nil || len(files) == 0 {
		t.Fatalf("the program is not here: %v", err)
	}
	names := map[string][]string{}
	for _, name := range files {
		file, err := parser.ParseFile(token.NewFileSet(), name, nil, parser.SkipObjectResolution)
		if err != nil {
			t.Fatal(err)
		}
		for _, decl := range file.Decls {
			f, is := decl.(*ast.FuncDecl)
			if !is {
				continue
			}
			ast.Inspect(f.Body, func(n ast.Node) bool {
				if one, is := n.(*ast.Ident); is {
					names[f.Name.Name] = append(names[f.Name.Name], one.Name)
				}
				return true
			})
		}
	}
	return names
}

// The map that is made once is read by one function that is called from outside, and by no other one, however far it calls.
func TestNothingElseReadsTheMapThatIsMadeOnce(t *testing.T) {
	names := namesIn(t)
	reaches := map[string]int{"choosers": 1, "choosersOnce": 1}
	for before := 0; before < len(reaches); {
		before = len(reaches)
		for f, list := range names {
			if slices.ContainsFunc(list, func(name string) bool { return reaches[name] > 0 }) {
				reaches[f] = 1
			}
		}
	}
	var exported []string
	for f := range reaches {
		if ast.IsExported(f) {
			exported = append(exported, f)
		}
	}
	if !slices.Equal(exported, []string{"Source"}) {
		t.Errorf("the map is read by %v", exported)
	}
}

func TestVeryLongNodesDoNotMeet(t *testing.T) {
	n := busy(0)
	n.Image, n.Wait = make([]int, 1<<16), make([]int, 1<<16)
	n.Conn, n.Copies, n.Sync = make([]bool, 1<<16), make([]bool, 1<<16), make([][]int, 1<<16)
	n.Meta.Gens, n.Meta.Bits = make([]int, 1<<16), make([][]int, 1<<16)
	for _, id := range []int{0, 1, 2, 1 << 15} {
		n.Id = id
		wantSourceBothWays(t, "very long", n, newPlainly(1), meetNone)
		wantExtent(t, "very long", newPlainly(1), n)
		wantNoJoin(t, "very long", n, newPlainly(1))
		wantNoJoin(t, "very long", newPlainly(1), n)
	}
}
