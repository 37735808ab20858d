package tests

import (
	"fmt"
	"math/rand"
	"reflect"
	"slices"
	"testing"

	"loop.example/g00399/impl"
)

func isPairPlainly(x impl.Node, mate impl.Node) bool {
	return nodeOkPlainly(x) && nodeOkPlainly(mate) && x.Id+mate.Id == 1
}

func mayHoldPlainly(x impl.Node, mate impl.Node) bool {
	if !isPairPlainly(x, mate) || x.Conn[mate.Id] {
		return false
	}
	return x.Up && x.Meta.Fine && !x.Meta.Old && !x.Meta.Held && !mate.Prime
}

func holdPlainly(x impl.Node, mate impl.Node, gen int) (impl.Node, impl.Node, bool) {
	if !mayHoldPlainly(x, mate) || gen < 1 || gen > mostGen || slices.Index(x.Meta.Gens, gen) >= 0 {
		return x, mate, false
	}
	a := keptWith(x, func(n *impl.Node) {
		n.Meta.Gens, n.Meta.Held, n.Wait = pushPlainly(n.Meta.Gens, gen), true, nil
	})
	b := keptWith(mate, func(n *impl.Node) { n.Meta.Old, n.Meta.Held = true, false })
	if !nodeOkPlainly(a) || !nodeOkPlainly(b) {
		return x, mate, false
	}
	return a, b, true
}

func mayLeadPlainly(x impl.Node, mate impl.Node, quiet bool) bool {
	if !isPairPlainly(x, mate) || !x.Up || !x.Meta.Fine || x.Meta.Old || x.Prime {
		return false
	}
	if x.Meta.Held {
		return true
	}
	joined := x.Conn[mate.Id] && mate.Conn[x.Id]
	still := !x.Copies[mate.Id] && !mate.Copies[x.Id] && quiet
	return joined && still && !mate.Prime && x.Meta.Last == mate.Meta.Last
}

func leadPlainly(x impl.Node, mate impl.Node, quiet bool) (impl.Node, bool) {
	may := mayLeadPlainly(x, mate, quiet)
	x.Prime = x.Prime || may
	return x, may
}

func leavePlainly(n impl.Node) (impl.Node, bool) {
	if !nodeOkPlainly(n) || !n.Prime {
		return n, false
	}
	n.Prime, n.Wait = false, nil
	return n, true
}

func mayWritePlainly(n impl.Node) bool {
	return nodeOkPlainly(n) && n.Prime && (n.Meta.Held || n.Conn[1-n.Id])
}

func wantMayHold(t *testing.T, why string, x impl.Node, mate impl.Node, want bool) {
	t.Helper()
	if impl.MayHold(x, mate) != want {
		t.Errorf("%s: MayHold of %v and %v tells %v", why, x, mate, !want)
	}
}

func wantHold(t *testing.T, why string, x impl.Node, mate impl.Node, gen int, a impl.Node, b impl.Node, want bool) {
	t.Helper()
	why = fmt.Sprintf("%s: Hold with %d", why, gen)
	one, other, ok := impl.Hold(x, mate, gen)
	if ok != want {
		t.Errorf("%s of %v and %v tells %v", why, x, mate, ok)
	}
	wantNode(t, why+", who holds", one, a)
	wantNode(t, why+", its mate", other, b)
	if ok {
		wantNodeOk(t, why+", who holds", one, true)
		wantNodeOk(t, why+", its mate", other, true)
	}
}

func wantHoldPlainly(t *testing.T, why string, x impl.Node, mate impl.Node, gen int) {
	t.Helper()
	a, b, ok := holdPlainly(x, mate, gen)
	wantHold(t, why, x, mate, gen, a, b, ok)
}

func wantNoHold(t *testing.T, why string, x impl.Node, mate impl.Node, gen int) {
	t.Helper()
	wantHold(t, why, x, mate, gen, x, mate, false)
}

// wantLead asks MayLead and Lead together: the one does what the other one tells.
func wantLead(t *testing.T, why string, x impl.Node, mate impl.Node, quiet bool, want bool) {
	t.Helper()
	if impl.MayLead(x, mate, quiet) != want {
		t.Errorf("%s: MayLead of %v and %v, quiet %v, tells %v", why, x, mate, quiet, !want)
	}
	led, ok := impl.Lead(x, mate, quiet)
	if ok != want {
		t.Errorf("%s: Lead of %v and %v, quiet %v, tells %v", why, x, mate, quiet, ok)
	}
	as := cloneNode(x)
	as.Prime = x.Prime || want
	wantNode(t, why+", Lead", led, as)
	if ok {
		wantNodeOk(t, why+", who leads", led, true)
	}
}

func wantLeadBothWays(t *testing.T, why string, x impl.Node, mate impl.Node, want bool) {
	t.Helper()
	wantLead(t, why, x, mate, true, want)
	wantLead(t, why, x, mate, false, want)
}

func wantLeave(t *testing.T, why string, n impl.Node, as impl.Node, want bool) {
	t.Helper()
	left, ok := impl.Leave(n)
	if ok != want {
		t.Errorf("%s: Leave of %v tells %v", why, n, ok)
	}
	wantNode(t, why+", who left", left, as)
	if ok {
		wantNodeOk(t, why+", who left", left, true)
	}
}

func wantMayWrite(t *testing.T, why string, n impl.Node, want bool) {
	t.Helper()
	if impl.MayWrite(n) != want {
		t.Errorf("%s: MayWrite of %v tells %v", why, n, !want)
	}
}

// flagged is n with those flags (as metaWith has them), in its slots, too.
func flagged(n impl.Node, flags int) impl.Node {
	return turnedMeta(n, func(m *impl.Meta) {
		m.Fine, m.Old, m.Held = flags&1 != 0, flags&2 != 0, flags&4 != 0
	})
}

// with is n turned in what is not in its slots.
func with(n impl.Node, turn func(n *impl.Node)) impl.Node {
	n = cloneNode(n)
	turn(&n)
	return n
}

// joinedPair are two of the pair that hear each other, alike in their last write.
func joinedPair(id int) twoNodes {
	x, y := listening(id, 1-id), listening(1-id, id)
	x.Wait, y.Wait = nil, nil
	return twoNodes{x, y}
}

// holding are each two of which the first one may hold the second one for old.
func holding() []twoNodes {
	var list []twoNodes
	for _, id := range []int{0, 1} {
		mate := 1 - id
		for _, x := range []impl.Node{newPlainly(id), knowing(id, metaWith(1), 6), leading(id), leading(id, 2), copying(leading(id, 2), 2, 3, 5)} {
			for _, y := range []impl.Node{newPlainly(mate), down(mate), listening(mate, 2), listening(mate, id), busy(mate)} {
				for _, flags := range []int{0, 1, 2, 3, 4, 5} {
					y.Prime = false
					list = append(list, twoNodes{cloneNode(x), flagged(y, flags)})
				}
			}
		}
	}
	return list
}

// holdBars bar it each alone, whatever else is so; the mate's stand apart.
func holdBars(mate int) map[string]func(n *impl.Node) {
	return map[string]func(n *impl.Node){
		"it is down":          func(n *impl.Node) { *n = fallPlainly(*n) },
		"it is not fine":      func(n *impl.Node) { *n = flagged(*n, 0) },
		"it is old":           func(n *impl.Node) { *n = flagged(*n, 3) },
		"it holds already":    func(n *impl.Node) { *n = flagged(*n, 5) },
		"it hears its mate":   func(n *impl.Node) { n.Conn[mate] = true },
		"it copies to it":     func(n *impl.Node) { n.Conn[mate], n.Copies[mate], n.Sync[mate] = true, true, []int{2} },
		"a cell above all":    func(n *impl.Node) { n.Image[7] = mostWrites + 1 },
		"no slots":            func(n *impl.Node) { n.Slots = impl.Slots{} },
		"a wait that is none": func(n *impl.Node) { n.Wait = []int{2, 1} },
		"it is down, only":    func(n *impl.Node) { n.Up = false; n.Wait, n.Prime = []int{3}, true },
	}
}

func TestMayHold(t *testing.T) {
	for _, two := range holding() {
		wantMayHold(t, "it may", two.x, two.y, true)
		for why, turn := range holdBars(two.y.Id) {
			x := with(two.x, turn)
			wantMayHold(t, why, x, two.y, false)
			wantNoHold(t, why, x, two.y, 77)
		}
		if two.y.Up {
			led := with(two.y, func(n *impl.Node) { n.Prime = true })
			wantNodeOk(t, "the mate is prime", led, true)
			wantMayHold(t, "the mate is prime", two.x, led, false)
			wantNoHold(t, "the mate is prime", two.x, led, 77)
		}
	}
}

func TestMayHoldOfThoseThatHearEachOther(t *testing.T) {
	for id := range 2 {
		two := joinedPair(id)
		wantMayHold(t, "they hear each other", two.x, two.y, false)
		two.x.Conn[1-id] = false
		wantMayHold(t, "only the mate hears it", two.x, two.y, true)
		wantMayHold(t, "only it hears its mate", two.y, two.x, false)
		two.y.Conn[id] = false
		wantMayHold(t, "neither hears the other one", two.x, two.y, true)
		wantMayHold(t, "it hears the one far away", with(two.x, func(n *impl.Node) { n.Conn[2] = true }), two.y, true)
	}
}

// Of the three only the pair is one another's mate, and nobody its own.
func TestRolesOfWhatIsNoPair(t *testing.T) {
	for one := range nodeCount {
		for other := range nodeCount {
			if one+other == 1 {
				continue
			}
			for _, x := range []impl.Node{newPlainly(one), flagged(newPlainly(one), 5), hearingAll(one)} {
				for _, y := range []impl.Node{newPlainly(other), flagged(newPlainly(other), 3), hearingAll(other)} {
					wantMayHold(t, "no pair", x, y, false)
					wantNoHold(t, "no pair", x, y, 77)
					wantLeadBothWays(t, "no pair", x, y, false)
				}
			}
			x := newPlainly(one)
			wantMayHold(t, "one of them twice", x, x, false)
			wantNoHold(t, "one of them twice", x, x, 77)
			held := flagged(x, 5)
			wantLeadBothWays(t, "one of them twice", held, held, false)
		}
	}
	for id := range 2 {
		held := flagged(newPlainly(id), 5)
		wantNoHold(t, "one of them twice", newPlainly(id), newPlainly(id), 77)
		wantLeadBothWays(t, "one of them twice", held, held, false)
		wantLeadBothWays(t, "one id", hearingAll(id), hearingAll(id), false)
	}
}

func TestRolesOfWhatIsNoNode(t *testing.T) {
	for _, wrong := range wrongNodes() {
		for id := range 2 {
			held := flagged(newPlainly(id), 5)
			wantMayHold(t, wrong.why, newPlainly(id), wrong.node, false)
			wantMayHold(t, wrong.why, wrong.node, newPlainly(id), false)
			wantNoHold(t, wrong.why, newPlainly(id), wrong.node, 77)
			wantNoHold(t, wrong.why, wrong.node, newPlainly(id), 77)
			wantLeadBothWays(t, wrong.why, held, wrong.node, false)
			wantLeadBothWays(t, wrong.why, wrong.node, held, false)
			wantLeadBothWays(t, wrong.why, joinedPair(id).x, wrong.node, false)
			wantLeadBothWays(t, wrong.why, wrong.node, joinedPair(id).x, false)
		}
		wantNoHold(t, wrong.why, wrong.node, wrong.node, 77)
		wantLeadBothWays(t, wrong.why, wrong.node, wrong.node, false)
		for _, prime := range []bool{wrong.node.Prime, true} {
			n := with(wrong.node, func(n *impl.Node) { n.Prime = prime })
			if !nodeOkPlainly(n) {
				wantLeave(t, wrong.why, n, n, false)
				wantMayWrite(t, wrong.why, n, false)
			}
		}
	}
}

func TestHold(t *testing.T) {
	for id := range 2 {
		x, mate := leading(id, 2), listening(1-id, 2)
		a, b := cloneNode(x), cloneNode(mate)
		a.Meta = impl.Meta{Gens: []int{77, 300, 2, 1}, Bits: [][]int{{0, 7}, {}, {2, 3, 5}}, Fine: true, Held: true, Last: 9}
		a.Slots.B, a.Wait = slotPlainly(a.Meta, 7), nil
		b.Meta = metaWith(3)
		b.Slots.B = slotPlainly(b.Meta, 7)
		wantHold(t, "both know much", x, mate, 77, a, b, true)
		if !a.Prime || len(b.Wait) == 0 {
			t.Errorf("Hold of %v and %v tells %v and %v", x, mate, a, b)
		}
		wantNoHold(t, "once more", a, b, 78)
		wantNoHold(t, "the other way", b, a, 78)

		c, d, ok := impl.Hold(impl.NodeNew(id), impl.NodeNew(1-id), 5)
		if !ok || !c.Meta.Held || c.Meta.Old || d.Meta.Held || !d.Meta.Old || c.Prime || d.Prime {
			t.Errorf("Hold of two that are new tells %v, %v, %v", c, d, ok)
		}
		wantList(t, "the generations of who holds", c.Meta.Gens, 5, 1)
		wantList(t, "the generations of its mate", d.Meta.Gens, 1)
		wantNewer(t, c.Meta.Gens, d.Meta.Gens, gensFirst)
	}
}

func TestHoldOfEachTwo(t *testing.T) {
	for _, two := range holding() {
		for _, gen := range []int{1, 2, 77} {
			wantHoldPlainly(t, "each two", two.x, two.y, gen)
		}
	}
}

func TestHoldOfEachGen(t *testing.T) {
	for id := range 2 {
		for _, gens := range [][]int{{7}, {4, 3, 7}, {mostGen, 7}, gensFrom(40, mostGens-1), gensFrom(40, mostGens), gensFrom(mostGen-mostGens+1, mostGens)} {
			x, mate := meeting(id, false, true, gens, 6), meeting(1-id, false, true, []int{5, 9}, 3)
			for _, gen := range append([]int{1, 2, 5, 9, 41, mostGen - 1, mostGen, 0, -1, -7, mostGen + 1, mostGen + 2}, farNumbers...) {
				if gen < 1 || gen > mostGen {
					wantNoHold(t, "no generation", x, mate, gen)
				}
				wantHoldPlainly(t, "each generation", x, mate, gen)
			}
			for _, gen := range gens {
				wantNoHold(t, "it is there already", x, mate, gen)
			}
		}
	}
}

// Where there are as many as there can be, the last one makes room; it may not be the very one that comes.
func TestHoldOfTheMostGens(t *testing.T) {
	for id := range 2 {
		x := meeting(id, false, true, gensFrom(40, mostGens), 6)
		a, _, ok := impl.Hold(x, newPlainly(1-id), 7)
		if !ok {
			t.Error("the most generations that there can be may not be held with one more")
		}
		wantList(t, "the most generations", a.Meta.Gens, append([]int{7}, gensFrom(40, mostGens-1)...)...)
		for _, gen := range []int{40, 45, 39 + mostGens} {
			wantNoHold(t, "it is there already", x, newPlainly(1-id), gen)
		}
		for _, gens := range [][]int{{3, 1}, {77}, gensFrom(70, mostGens)} {
			mate := meeting(1-id, false, true, gens, 6)
			_, b, ok := impl.Hold(newPlainly(id), mate, gens[0]+1)
			if !ok {
				t.Errorf("the mate has %v, and may not be held for old", gens)
			}
			wantList(t, "the generations of its mate", b.Meta.Gens, gens...)
			wantHoldPlainly(t, "only its mate has it", newPlainly(id), mate, 77)
		}
	}
}

func TestHoldEndsWhatWaits(t *testing.T) {
	for id := range 2 {
		for _, wait := range [][]int{nil, {1}, {200}, {1, 9, 200}, gensFrom(1, mostWrites)} {
			x, mate := leading(id), listening(1-id)
			x.Wait, mate.Wait = slices.Clone(wait), slices.Clone(wait)
			a, b, ok := impl.Hold(x, mate, 77)
			if !ok {
				t.Errorf("%v waits, and it may not hold", wait)
			}
			wantList(t, "what waits", a.Wait)
			wantList(t, "what waits at its mate", b.Wait, wait...)
		}
	}
}

// Whatever the mate is: it is old, and holds nobody; all else of it is as it was.
func TestHoldOfEachMate(t *testing.T) {
	for id := range 2 {
		for flags := range 6 {
			for _, n := range []impl.Node{newPlainly(1 - id), down(1 - id), listening(1-id, 2), listening(1-id, id)} {
				mate := flagged(n, flags)
				_, seq, _ := getPlainly(mate.Slots)
				_, b, ok := impl.Hold(newPlainly(id), mate, 77)
				if !ok || !b.Meta.Old || b.Meta.Held || b.Meta.Fine != mate.Meta.Fine {
					t.Errorf("%v is held for old as %v, %v", mate, b, ok)
				}
				wantNumber(t, "its mate is kept once, though it may be as it was", b, seq+1)
				b.Meta, b.Slots = mate.Meta, mate.Slots
				wantNode(t, "all else", b, mate)
			}
		}
	}
}

// Behind the last number no new meta is kept: where one of both is not, none is turned.
func TestHoldBehindTheLastNumber(t *testing.T) {
	for id := range 2 {
		x, mate := newPlainly(id), newPlainly(1-id)
		wantNoHold(t, "who holds", numbered(x, mostSeq), mate, 77)
		wantNoHold(t, "its mate", x, numbered(mate, mostSeq), 77)
		wantNoHold(t, "both", numbered(x, mostSeq), numbered(mate, mostSeq), 77)
		for _, flags := range []int{0, 1, 4, 5} {
			wantNoHold(t, "its mate, whatever it knows", x, numbered(flagged(mate, flags), mostSeq), 77)
		}
		old := numbered(flagged(mate, 3), mostSeq)
		wantNoHold(t, "who holds, its mate is old", numbered(x, mostSeq), old, 77)
		wantHoldPlainly(t, "its mate is old already", x, old, 77)
		_, b, ok := impl.Hold(x, old, 77)
		if !ok {
			t.Errorf("%v may not be held for old", old)
		}
		wantNode(t, "its mate is old already", b, old)
		a, b, _ := impl.Hold(numbered(x, mostSeq-1), numbered(mate, mostSeq-1), 77)
		wantNumber(t, "the last number", a, mostSeq)
		wantNumber(t, "the last number, of its mate", b, mostSeq)
		if !impl.MayHold(numbered(x, mostSeq), numbered(mate, mostSeq)) {
			t.Error("MayHold asks for numbers")
		}
	}
}

func TestMayLeadTogether(t *testing.T) {
	for id := range 2 {
		two, mate := joinedPair(id), 1-id
		wantLead(t, "they may", two.x, two.y, true, true)
		wantLead(t, "something is on its way", two.x, two.y, false, false)
		bars := map[string]func(x *impl.Node, y *impl.Node){
			"it is down":                 func(x *impl.Node, y *impl.Node) { *x = fallPlainly(*x) },
			"it is down, only":           func(x *impl.Node, y *impl.Node) { x.Up = false },
			"it is not fine":             func(x *impl.Node, y *impl.Node) { *x = flagged(*x, 0) },
			"it is old":                  func(x *impl.Node, y *impl.Node) { *x = flagged(*x, 3) },
			"it leads":                   func(x *impl.Node, y *impl.Node) { x.Prime = true },
			"it does not hear its mate":  func(x *impl.Node, y *impl.Node) { x.Conn[mate] = false },
			"its mate does not hear it":  func(x *impl.Node, y *impl.Node) { y.Conn[id] = false },
			"neither hears the other":    func(x *impl.Node, y *impl.Node) { x.Conn[mate], y.Conn[id] = false, false },
			"its mate is down":           func(x *impl.Node, y *impl.Node) { *y = fallPlainly(*y) },
			"it copies":                  func(x *impl.Node, y *impl.Node) { x.Copies[mate] = true },
			"it copies cells":            func(x *impl.Node, y *impl.Node) { x.Copies[mate], x.Sync[mate] = true, []int{4} },
			"its mate copies":            func(x *impl.Node, y *impl.Node) { y.Copies[id] = true },
			"its mate copies cells":      func(x *impl.Node, y *impl.Node) { y.Copies[id], y.Sync[id] = true, []int{4} },
			"its mate leads":             func(x *impl.Node, y *impl.Node) { y.Prime = true },
			"its last write is later":    func(x *impl.Node, y *impl.Node) { *x = turnedMeta(*x, func(m *impl.Meta) { m.Last++ }) },
			"its last write is earlier":  func(x *impl.Node, y *impl.Node) { *x = turnedMeta(*x, func(m *impl.Meta) { m.Last-- }) },
			"its mate has no last write": func(x *impl.Node, y *impl.Node) { *y = turnedMeta(*y, func(m *impl.Meta) { m.Last = 0 }) },
		}
		for why, turn := range bars {
			x, y := cloneNode(two.x), cloneNode(two.y)
			turn(&x, &y)
			wantLeadBothWays(t, why, x, y, false)
		}
	}
}

// Of two that may lead together, none of these turns it; what is on its way does.
func TestMayLeadTogetherAsksForNothingElse(t *testing.T) {
	for id := range 2 {
		turns := map[string]func(n *impl.Node){
			"writes wait":            func(n *impl.Node) { n.Wait = []int{1, 200} },
			"it hears the third":     func(n *impl.Node) { n.Conn[2] = true },
			"it copies to the third": func(n *impl.Node) { n.Conn[2], n.Copies[2], n.Sync[2] = true, true, []int{0, 7} },
			"all is marked":          func(n *impl.Node) { markAll(n) },
			"other cells":            func(n *impl.Node) { n.Image = eightOf(3) },
			"other generations":      func(n *impl.Node) { *n = turnedMeta(*n, func(m *impl.Meta) { m.Gens = []int{8} }) },
			"the last number":        func(n *impl.Node) { *n = numbered(*n, mostSeq) },
		}
		for why, turn := range turns {
			two := joinedPair(id)
			x, y := with(two.x, turn), with(two.y, turn)
			for _, now := range []twoNodes{{x, two.y}, {two.x, y}, {x, y}} {
				wantLead(t, why, now.x, now.y, true, true)
				wantLead(t, why, now.x, now.y, false, false)
			}
		}
		for flags := range 6 {
			two := joinedPair(id)
			wantLead(t, "whatever its mate knows", two.x, flagged(two.y, flags), true, true)
		}
	}
}

// Who holds its mate for old asks for nothing of it, but that it is a node.
func TestMayLeadAlone(t *testing.T) {
	for id := range 2 {
		held := flagged(listening(id), 5)
		two := joinedPair(id)
		both := flagged(two.x, 5)
		for _, mate := range []impl.Node{newPlainly(1 - id), down(1 - id), busy(1 - id), leading(1 - id), listening(1-id, id), leading(1-id, id), two.y, numbered(newPlainly(1-id), mostSeq)} {
			for flags := range 6 {
				wantLeadBothWays(t, "it is held", held, flagged(mate, flags), true)
				wantLeadBothWays(t, "they hear each other", both, flagged(mate, flags), true)
				wantLeadBothWays(t, "it copies", copying(held, 1-id, 2, 5), flagged(mate, flags), true)
				wantLeadBothWays(t, "it is down", fallPlainly(held), flagged(mate, flags), false)
				wantLeadBothWays(t, "it is down, only", with(both, func(n *impl.Node) { n.Up = false }), flagged(mate, flags), false)
				wantLeadBothWays(t, "it is not fine", flagged(held, 4), flagged(mate, flags), false)
				wantLeadBothWays(t, "it is old, too", flagged(held, 7), flagged(mate, flags), false)
				wantLeadBothWays(t, "it leads", with(held, func(n *impl.Node) { n.Prime = true }), flagged(mate, flags), false)
			}
		}
		wantLeadBothWays(t, "behind the last number", numbered(held, mostSeq), down(1-id), true)
	}
}

func TestLead(t *testing.T) {
	for id := range 2 {
		two := joinedPair(id)
		two.x.Wait = []int{3, 8}
		led, ok := impl.Lead(two.x, two.y, true)
		want := cloneNode(two.x)
		want.Prime = true
		if !ok {
			t.Error("two that hear each other may not lead")
		}
		wantNode(t, "it leads, and is else as it was", led, want)
		wantNumber(t, "nothing is kept", led, 6)
		wantLeadBothWays(t, "once more", led, two.y, false)
		wantLeadBothWays(t, "its mate", two.y, led, false)
		wantMayWrite(t, "it leads", led, true)
		wantMayHold(t, "its mate", two.y, led, false)
	}
}

func TestLeave(t *testing.T) {
	for id := range 2 {
		for _, wait := range [][]int{nil, {1}, {3, 8, 200}, gensFrom(1, mostWrites)} {
			for _, ids := range [][]int{nil, {1 - id}, {2}, {1 - id, 2}} {
				n := leading(id, ids...)
				n.Wait = slices.Clone(wait)
				want := cloneNode(n)
				want.Prime, want.Wait = false, nil
				wantLeave(t, "it leads", n, want, true)
				wantLeave(t, "it has left", want, want, false)
				want.Wait = slices.Clone(wait)
				wantLeave(t, "it does not lead", want, want, false)
			}
		}
		for flags := range 6 {
			n := flagged(busy(id), flags)
			want := cloneNode(n)
			want.Prime, want.Wait = false, nil
			wantLeave(t, "whatever it knows", n, want, true)
		}
		wantLeave(t, "the last number", numbered(leading(id), mostSeq), with(numbered(leading(id), mostSeq), func(n *impl.Node) {
			n.Prime, n.Wait = false, nil
		}), true)
		wantLeave(t, "it is down", down(id), down(id), false)
		prime := down(id)
		prime.Prime = true
		wantLeave(t, "it is down, but prime", prime, prime, false)
	}
	far := hearingAll(2)
	wantLeave(t, "the one far away", far, far, false)
	far.Prime = true
	wantLeave(t, "the one far away, prime", far, far, false)
}

func TestMayWrite(t *testing.T) {
	for id := range 2 {
		for _, flags := range []int{0, 1, 2, 3} {
			wantMayWrite(t, "neither", flagged(leading(id), flags), false)
			wantMayWrite(t, "it hears the one far away", flagged(leading(id, 2), flags), false)
			wantMayWrite(t, "it hears its mate", flagged(leading(id, 1-id), flags), true)
			wantMayWrite(t, "it hears both", flagged(leading(id, 1-id, 2), flags), true)
			wantMayWrite(t, "not prime", flagged(hearingAll(id), flags), false)
		}
		for _, flags := range []int{4, 5} {
			for _, ids := range [][]int{nil, {2}, {1 - id}, {1 - id, 2}} {
				wantMayWrite(t, "it is held", flagged(leading(id, ids...), flags), true)
				wantMayWrite(t, "it is held, but not prime", flagged(listening(id, ids...), flags), false)
			}
		}
		wantMayWrite(t, "it copies to its mate", busy(id), true)
		wantMayWrite(t, "held and old", flagged(leading(id, 1-id), 7), false)
		wantMayWrite(t, "a cell above all", with(leading(id, 1-id), func(n *impl.Node) { n.Image[0] = 201 }), false)
		wantMayWrite(t, "down", down(id), false)
		wantMayWrite(t, "down, but prime and held", with(flagged(down(id), 5), func(n *impl.Node) { n.Prime = true }), false)
	}
	wantMayWrite(t, "the one far away", hearingAll(2), false)
	for _, flags := range []int{1, 5} {
		wantMayWrite(t, "the one far away, prime", with(flagged(hearingAll(2), flags), func(n *impl.Node) { n.Prime = true }), false)
	}
}

// rolesOf are a node of the pair with whatever is so of it and of its line to its mate.
func rolesOf(id int) []impl.Node {
	var list []impl.Node
	for bits := range 1 << 7 {
		n := flagged(newPlainly(id), bits&7)
		n.Up, n.Prime = bits&8 == 0, bits&16 != 0
		n.Conn[1-id], n.Copies[1-id] = bits&32 != 0, bits&64 != 0
		list = append(list, n)
	}
	return list
}

func TestRolesOfWhateverIsSo(t *testing.T) {
	for id := range 2 {
		mates := rolesOf(1 - id)
		for _, x := range rolesOf(id) {
			left, ok := leavePlainly(x)
			wantLeave(t, "whatever is so", x, left, ok)
			wantMayWrite(t, "whatever is so", x, mayWritePlainly(x))
			if !nodeOkPlainly(x) {
				wantMayHold(t, "no node", x, newPlainly(1-id), false)
				wantLeadBothWays(t, "no node", x, newPlainly(1-id), false)
				continue
			}
			for _, mate := range mates {
				wantMayHold(t, "whatever is so", x, mate, mayHoldPlainly(x, mate))
				for _, quiet := range []bool{true, false} {
					wantLead(t, "whatever is so", x, mate, quiet, mayLeadPlainly(x, mate, quiet))
				}
			}
		}
	}
}

// rolesToAsk are nodes of each kind, wrong ones too.
func rolesToAsk() []impl.Node {
	list := slices.Concat(nodesThatMeet(), []impl.Node{{}, {Id: -1}, {Id: 3, Up: true}, {Id: 1 << 62, Up: true, Prime: true}})
	for id := range 2 {
		list = append(list, hearingAll(id), leading(id, 0, 1, 2), flagged(leading(id, 1-id), 5), flagged(listening(id, 1-id), 5))
		list = append(list, joinedPair(id).x, flagged(joinedPair(id).x, 3), flagged(newPlainly(id), 5), flagged(down(id), 3))
		list = append(list, meeting(id, false, true, gensFrom(40, mostGens), 6), numbered(flagged(newPlainly(id), 3), mostSeq))
	}
	for i, wrong := range wrongNodes() {
		if i%97 == 0 {
			list = append(list, wrong.node)
		}
	}
	return list
}

func TestRolesAgainstPlainOnes(t *testing.T) {
	nodes := rolesToAsk()
	held, led := 0, 0
	for _, x := range nodes {
		left, ok := leavePlainly(x)
		wantLeave(t, "each node", x, left, ok)
		wantMayWrite(t, "each node", x, mayWritePlainly(x))
		for _, mate := range nodes {
			wantMayHold(t, "each two", x, mate, mayHoldPlainly(x, mate))
			for _, gen := range []int{0, 1, 3, 77} {
				wantHoldPlainly(t, "each two", x, mate, gen)
			}
			if mayHoldPlainly(x, mate) {
				held++
			}
			for _, quiet := range []bool{true, false} {
				want, may := leadPlainly(x, mate, quiet)
				got, _ := impl.Lead(x, mate, quiet)
				wantNode(t, "each two", got, want)
				wantLead(t, "each two", x, mate, quiet, may)
				if may {
					led++
				}
			}
		}
	}
	if held < 50 || led < 50 {
		t.Errorf("only %d were held and %d led", held, led)
	}
}

// A reign is the pair, and what is on its way between them.
type reign struct {
	t      *testing.T
	source *rand.Rand
	nodes  [2]impl.Node
	net    []impl.Post
	last   int
	gen    int
	safe   []int
	done   map[string]int
}

func newReign(t *testing.T, seed int64) *reign {
	return &reign{
		t:      t,
		source: rand.New(rand.NewSource(seed)),
		nodes:  [2]impl.Node{impl.NodeNew(0), impl.NodeNew(1)},
		gen:    2,
		safe:   eightOf(0),
		done:   map[string]int{},
	}
}

// wantOneLeads asks for what the chapter promises, and for what that hangs on.
func (r *reign) wantOneLeads(what string) {
	r.t.Helper()
	if r.nodes[0].Prime && r.nodes[1].Prime {
		r.t.Errorf("behind %s both lead: %v", what, r.nodes)
	}
	for id, n := range r.nodes {
		mate := r.nodes[1-id]
		wantNodeOk(r.t, what, n, true)
		if n.Meta.Held && !mate.Meta.Old {
			r.t.Errorf("behind %s %v holds %v for old, which is not", what, n, mate)
		}
		if n.Meta.Old && (n.Prime || mayLead(n, mate)) {
			r.t.Errorf("behind %s %v is old, and leads or may", what, n)
		}
		if n.Prime && (!n.Meta.Fine || impl.MayLead(mate, n, len(r.net) == 0) || impl.MayHold(mate, n)) {
			r.t.Errorf("behind %s %v leads, and %v may lead or hold it", what, n, mate)
		}
		if n.Prime && !r.hasAllThatIsSafe(n) {
			r.t.Errorf("behind %s %v leads, and has not all of %v", what, n, r.safe)
		}
	}
}

func mayLead(x impl.Node, mate impl.Node) bool {
	return impl.MayLead(x, mate, true) || impl.MayLead(x, mate, false)
}

// The writes ascend, and each that was told safe is the last one of its cell or is below it.
func (r *reign) hasAllThatIsSafe(n impl.Node) bool {
	for at, val := range r.safe {
		if n.Image[at] < val {
			return false
		}
	}
	return true
}

// What waits no more is safe.
func (r *reign) turns(what string, n impl.Node, posts []impl.Post) {
	was := r.nodes[n.Id]
	if n.Up {
		for at, val := range was.Image {
			if slices.Contains(was.Wait, val) && !slices.Contains(n.Wait, val) {
				r.safe[at] = max(r.safe[at], val)
			}
		}
	}
	r.nodes[n.Id] = n
	r.net = append(r.net, posts...)
	r.done[what]++
}

func (r *reign) write(id int) {
	if !impl.MayWrite(r.nodes[id]) || r.last == mostWrites {
		return
	}
	r.last++
	at := r.source.Intn(cellCount)
	n, posts := impl.Write(r.nodes[id], at, r.last)
	r.turns("a write", n, slices.DeleteFunc(posts, func(p impl.Post) bool { return p.To == 2 }))
	if !n.Conn[1-id] {
		r.safe[at] = r.last
	}
}

// What waited while one leaves is not told safe.
func (r *reign) leave(id int) {
	if n, ok := impl.Leave(r.nodes[id]); ok {
		r.nodes[id] = n
		r.done["a leave"]++
	}
}

func (r *reign) hear(id int) {
	i := slices.IndexFunc(r.net, func(p impl.Post) bool { return p.To == id })
	if i < 0 {
		return
	}
	post := r.net[i]
	r.net = slices.Delete(slices.Clone(r.net), i, i+1)
	n, posts := impl.Hear(r.nodes[id], post.From, post.Msg)
	r.turns("a word", n, posts)
}

func (r *reign) cut() {
	for id := range r.nodes {
		n := &r.nodes[id]
		n.Conn[1-id], n.Copies[1-id], n.Sync[1-id] = false, false, nil
	}
	r.net = nil
}

func (r *reign) fall(id int) {
	r.cut()
	r.turns("a fall", impl.Fall(r.nodes[id]), nil)
}

func (r *reign) join(id int) {
	if x, y, ok := impl.Join(r.nodes[id], r.nodes[1-id]); ok {
		r.turns("a join", x, nil)
		r.turns("a join", y, nil)
	}
}

func (r *reign) hold(id int) {
	x, mate, ok := impl.Hold(r.nodes[id], r.nodes[1-id], r.gen)
	if ok {
		r.turns("a hold", x, nil)
		r.turns("a hold", mate, nil)
		r.gen++
	}
}

func (r *reign) lead(id int) {
	n, ok := impl.Lead(r.nodes[id], r.nodes[1-id], len(r.net) == 0)
	if ok && n.Meta.Held {
		r.turns("a lead alone", n, nil)
	} else if ok {
		r.turns("a lead together", n, nil)
	}
}

func (r *reign) step() string {
	id := r.source.Intn(2)
	switch one := r.source.Intn(60); {
	case one == 0:
		r.cut()
	case one == 1:
		r.fall(id)
	case one < 4:
		r.leave(id)
	case one < 8:
		r.turns("a rise", impl.Rise(r.nodes[id]), nil)
	case one < 14:
		r.join(id)
	case one == 14:
		r.hold(id)
	case one < 22:
		r.lead(id)
	case one < 26:
		r.write(id)
	case one < 42:
		n, posts := impl.Copy(r.nodes[id], 1-id)
		r.turns("a copy", n, posts)
	default:
		r.hear(id)
	}
	return fmt.Sprint("a step of ", id)
}

func TestWhoLeadsHasAMateThatDoesNot(t *testing.T) {
	done := map[string]int{}
	for seed := range int64(30) {
		r := newReign(t, 1100+seed)
		for range 1500 {
			r.wantOneLeads(r.step())
		}
		for what, count := range r.done {
			done[what] += count
		}
	}
	for _, what := range []string{"a write", "a leave", "a join", "a fall", "a hold", "a lead alone", "a lead together"} {
		if done[what] < 100 {
			t.Errorf("%s was done only %d times", what, done[what])
		}
	}
}

// Who is held for old does not lead until all is copied to it, and from then on nobody is held.
func TestWhoIsHeldForOldDoesNotLead(t *testing.T) {
	for id := range 2 {
		x, y, _ := impl.Hold(impl.NodeNew(id), impl.NodeNew(1-id), 5)
		x, _ = impl.Lead(x, y, false)
		x, _ = impl.Write(x, 3, 1)
		wantLeadBothWays(t, "it is old", y, x, false)
		wantMayHold(t, "it is old", y, x, false)
		fallen := impl.Rise(impl.Fall(y))
		wantLeadBothWays(t, "it has fallen and risen", fallen, impl.Fall(x), false)
		wantMayHold(t, "it has fallen and risen", fallen, impl.Fall(x), false)

		x, y, _ = impl.Join(x, y)
		for len(x.Sync[1-id]) > 0 {
			var posts []impl.Post
			x, posts = impl.Copy(x, 1-id)
			y, posts = impl.Hear(y, id, posts[0].Msg)
			x, _ = impl.Hear(x, 1-id, posts[0].Msg)
			wantLeadBothWays(t, "it is copied to", y, x, false)
		}
		x, posts := impl.Copy(x, 1-id)
		x, left := impl.Leave(x)
		wantLeadBothWays(t, "it has not heard that all is copied", y, x, false)
		wantLead(t, "that is on its way", x, y, false, false)
		y, _ = impl.Hear(y, id, posts[0].Msg)
		if !left || x.Meta.Held || y.Meta.Old {
			t.Errorf("all is copied, and there are %v and %v", x, y)
		}
		wantLead(t, "all is copied", y, x, true, true)
		wantLead(t, "all is copied", x, y, true, true)
	}
}

// roleAsks are the functions about two of them, each at arguments of each kind.
func roleAsks() map[string]func(x impl.Node, mate impl.Node) []impl.Node {
	asks := map[string]func(x impl.Node, mate impl.Node) []impl.Node{
		"Leave": func(x impl.Node, mate impl.Node) []impl.Node {
			left, _ := impl.Leave(x)
			impl.MayWrite(x)
			return []impl.Node{left}
		},
	}
	for _, gen := range []int{0, 1, 77} {
		asks[fmt.Sprint("Hold with ", gen)] = func(x impl.Node, mate impl.Node) []impl.Node {
			a, b, _ := impl.Hold(x, mate, gen)
			impl.MayHold(x, mate)
			return []impl.Node{a, b}
		}
	}
	for _, quiet := range []bool{true, false} {
		asks[fmt.Sprint("Lead, quiet ", quiet)] = func(x impl.Node, mate impl.Node) []impl.Node {
			led, _ := impl.Lead(x, mate, quiet)
			impl.MayLead(x, mate, quiet)
			return []impl.Node{led}
		}
	}
	return asks
}

func TestRolesWriteIntoNoNode(t *testing.T) {
	nodes := rolesToAsk()
	for i, x := range nodes {
		for j, mate := range nodes {
			if (i+j)%5 > 0 && !mayHoldPlainly(x, mate) {
				continue
			}
			one, other := roomyNode(x), roomyNode(mate)
			first, second := roomText(reflect.ValueOf(one)), roomText(reflect.ValueOf(other))
			for _, ask := range roleAsks() {
				ask(one, other)
			}
			if roomText(reflect.ValueOf(one)) != first || roomText(reflect.ValueOf(other)) != second {
				t.Fatalf("%v and %v were changed to %v and %v", x, mate, one, other)
			}
		}
	}
}

func TestRolesTellNewMemory(t *testing.T) {
	nodes := rolesToAsk()
	for i, x := range nodes {
		for j, mate := range nodes {
			if (i+j)%7 > 0 && !mayHoldPlainly(x, mate) {
				continue
			}
			one, other := roomyNode(x), roomyNode(mate)
			for what, ask := range roleAsks() {
				wantApart(t, what, wideNodes(one, other, ask(one, other), ask(one, other))...)
			}
		}
	}
}

func wideNodes(x impl.Node, mate impl.Node, lists ...[]impl.Node) []any {
	list := []any{x, mate}
	for _, nodes := range lists {
		for _, n := range nodes {
			list = append(list, n)
		}
	}
	return list
}

// Lists that both nodes share, each with itself and with the other one, are apart in the answer.
func TestRolesTellListsOfTheirOwn(t *testing.T) {
	shared, lines := gensFrom(0, cellCount), []bool{false, false, false}
	for flags := range 6 {
		for _, prime := range []bool{true, false} {
			n := newPlainly(0)
			n.Image, n.Conn, n.Copies, n.Wait, n.Prime = shared, lines, lines, shared[2:4], prime
			n.Meta = metaWith(flags)
			n.Meta.Gens, n.Meta.Bits = shared[2:4], [][]int{shared[1:3], shared[1:3], shared[1:3]}
			n.Sync = [][]int{shared[:0], shared[:0], shared[:0]}
			b := slotPlainly(n.Meta, 4)
			n.Slots = impl.Slots{A: b, B: b}
			wantNodeOk(t, "lists that share", n, true)
			mate := n
			mate.Id, mate.Prime = 1, false
			for what, ask := range roleAsks() {
				list := wideNodes(n, mate, ask(n, mate), ask(n, n))[2:]
				wantApart(t, what, list...)
				wantApart(t, what, append(list, shared, lines, b)...)
			}
		}
	}
}

func TestRolesLookAtNoSpareRoom(t *testing.T) {
	for _, two := range holding() {
		x, mate := roomyNode(two.x), roomyNode(two.y)
		wantHoldPlainly(t, "wrong ones in the spare room", x, mate, 77)
		wantHoldPlainly(t, "it is there, in the spare room", x, mate, 74)
		wantLeadBothWays(t, "wrong ones in the spare room", x, mate, false)
		wantMayWrite(t, "wrong ones in the spare room", x, false)
	}
	for id := range 2 {
		two := joinedPair(id)
		wantLead(t, "wrong ones in the spare room", roomyNode(two.x), roomyNode(two.y), true, true)
		led := leading(id, 1-id)
		left, ok := leavePlainly(led)
		wantLeave(t, "wrong ones in the spare room", roomyNode(led), left, ok)
		wantMayWrite(t, "wrong ones in the spare room", roomyNode(led), true)
	}
}

func TestRolesAreToldTheSameEachTime(t *testing.T) {
	for _, two := range holding() {
		for what, ask := range roleAsks() {
			one, other := ask(two.x, two.y), ask(cloneNode(two.x), cloneNode(two.y))
			if !slices.EqualFunc(one, other, alikeNodes) {
				t.Errorf("%s tells %v, and then %v", what, one, other)
			}
		}
	}
}

func TestVeryLongNodesHaveNoRole(t *testing.T) {
	n := busy(0)
	n.Image, n.Wait = make([]int, 1<<16), make([]int, 1<<16)
	n.Conn, n.Copies, n.Sync = slices.Repeat([]bool{true}, 1<<16), make([]bool, 1<<16), make([][]int, 1<<16)
	n.Meta.Gens, n.Meta.Bits = make([]int, 1<<16), make([][]int, 1<<16)
	n.Meta.Held = true
	for _, id := range []int{0, 1, 2, 1 << 15, -1 << 62} {
		n.Id = id
		for _, mate := range []impl.Node{newPlainly(1), newPlainly(0), n} {
			wantNoHold(t, "very long", n, mate, 77)
			wantNoHold(t, "very long", mate, n, 77)
			wantLeadBothWays(t, "very long", n, mate, false)
			wantLeadBothWays(t, "very long", mate, n, false)
		}
		wantLeave(t, "very long", n, n, false)
		wantMayWrite(t, "very long", n, false)
	}
}
