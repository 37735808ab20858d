package tests

import (
	"bytes"
	"fmt"
	"math/rand"
	"reflect"
	"slices"
	"sync"
	"testing"

	"loop.example/g00399/impl"
)

const (
	ddWrite = 1
	ddJoin  = 2
	ddCut   = 3
	ddFall  = 4
	ddRise  = 5
	ddTear  = 6
	ddGive  = 7
	ddSpoil = 8
	ddCopy  = 9
	ddHold  = 10
	ddLead  = 11
	ddLeave = 12
)

const (
	codeDone = 0
	codeBad  = 1
	codeNone = 2
	codeIdle = 3
	codeFull = 4
)

const (
	mostNet   = 40
	mostDeeds = 400
	mostWire  = 400
	mostTorn  = 155
)

func deed(kind int, a int, b int) impl.Deed { return impl.Deed{Kind: kind, A: a, B: b} }

func worldPlainly() impl.World {
	return impl.World{Nodes: []impl.Node{newPlainly(0), newPlainly(1), newPlainly(2)}, Gen: 2}
}

// worldOkPlainly asks each thing by itself, in the order of the chapter.
func worldOkPlainly(w impl.World) bool {
	if len(w.Nodes) != nodeCount || len(w.Net) > mostNet || len(w.Log) > mostWrites || w.Gen < 2 || w.Gen > mostGen {
		return false
	}
	for id, n := range w.Nodes {
		if n.Id != id || !nodeOkPlainly(n) || slices.Max(append(slices.Clone(n.Image), n.Meta.Last)) > len(w.Log) {
			return false
		}
	}
	for _, two := range pairAndFar {
		if w.Nodes[two.id].Conn[two.from] && !w.Nodes[two.from].Conn[two.id] {
			return false
		}
	}
	for _, wire := range w.Net {
		isLine := false
		for _, two := range pairAndFar {
			isLine = isLine || wire.From == two.id && wire.To == two.from && w.Nodes[two.id].Conn[two.from]
		}
		if !isLine || len(wire.Bytes) > mostWire {
			return false
		}
	}
	for i, rec := range w.Log {
		if rec.Cell < 0 || rec.Cell > cellCount-1 || rec.Up < 0 || rec.Up >= i+1 {
			return false
		}
	}
	var safe []int
	for n := 1; n <= len(w.Log); n++ {
		if slices.Contains(w.Safe, n) {
			safe = append(safe, n)
		}
	}
	return slices.Equal(safe, w.Safe)
}

func chainPlainly(w impl.World, n int) []int {
	if n < 1 || n > len(w.Log) {
		return nil
	}
	if up := w.Log[n-1].Up; up > 0 && up < n {
		return append(chainPlainly(w, up), n)
	}
	return []int{n}
}

// replayPlainly looks for the last write of each cell.
func replayPlainly(w impl.World, list []int) []int {
	image := eightOf(0)
	for at := range image {
		for _, n := range list {
			if n > 0 && n <= len(w.Log) && w.Log[n-1].Cell == at {
				image[at] = n
			}
		}
	}
	return image
}

func readWorldPlainly(w impl.World, a int, at int) (int, int) {
	if worldOkPlainly(w) && a >= 0 && a < nodeCount && at >= 0 && at < cellCount && w.Nodes[a].Prime {
		return w.Nodes[a].Image[at], codeDone
	}
	return 0, codeNone
}

// wirePlainly lays a message on a line, in the form of that line.
func wirePlainly(from int, to int, m impl.Msg) impl.Wire {
	b := framePlainly(m)
	if from == 2 || to == 2 {
		b = squeezePlainly(b)
	}
	return impl.Wire{From: from, To: to, Bytes: b}
}

// wordPlainly reads from the left, and holds what it has read against its frame.
func wordPlainly(b []byte) (impl.Msg, bool) {
	rest := b
	var head [5]int
	for i := range head {
		n, ok := takePlainly(&rest)
		if !ok {
			return impl.Msg{}, false
		}
		head[i] = n
	}
	gens, ok := takeListPlainly(&rest)
	m := impl.Msg{Kind: head[1], Cell: head[2], Val: head[3], Who: head[4], Gens: gens}
	return m, ok && okPlainly(m) && bytes.Equal(framePlainly(m), b)
}

func saidPlainly(wire impl.Wire) (impl.Msg, bool) {
	if wire.From < 2 && wire.To < 2 {
		return wordPlainly(wire.Bytes)
	}
	b, ok := spreadPlainly(wire.Bytes)
	if !ok || !bytes.Equal(squeezePlainly(b), wire.Bytes) {
		return impl.Msg{}, false
	}
	return wordPlainly(b)
}

// A line is told by its two numbers together: no two lines have the same.
func cutPlainly(w *impl.World, x int, y int) {
	for _, two := range [][]int{{x, y}, {y, x}} {
		n := &w.Nodes[two[0]]
		n.Conn[two[1]], n.Copies[two[1]], n.Sync[two[1]] = false, false, nil
	}
	w.Net = slices.DeleteFunc(w.Net, func(wire impl.Wire) bool { return wire.From+wire.To == x+y })
}

func sendPlainly(w *impl.World, posts []impl.Post) {
	for _, post := range posts {
		if len(w.Net) < mostNet {
			w.Net = append(w.Net, wirePlainly(post.From, post.To, post.Msg))
		} else {
			cutPlainly(w, post.From, post.To)
		}
	}
}

func makeSafePlainly(w *impl.World, list ...int) {
	w.Safe = append(w.Safe, list...)
	slices.Sort(w.Safe)
	w.Safe = slices.Compact(w.Safe)
}

func isPlace(at int, count int) bool { return at >= 0 && at < count }

// isNonePlainly tells whether there is not what the deed is about.
func isNonePlainly(w impl.World, d impl.Deed) bool {
	switch d.Kind {
	case ddGive, ddSpoil:
		return !isPlace(d.A, len(w.Net))
	case ddJoin, ddCut, ddCopy:
		return !isPlace(d.A, nodeCount) || !isPlace(d.B, nodeCount) || d.A == d.B
	case ddWrite:
		return !isPlace(d.A, nodeCount) || !isPlace(d.B, cellCount)
	}
	return !isPlace(d.A, nodeCount)
}

func doPlainly(w impl.World, d impl.Deed) (impl.World, int) {
	if !worldOkPlainly(w) || d.Kind < ddWrite || d.Kind > ddLeave {
		return impl.World{}, codeBad
	}
	if isNonePlainly(w, d) {
		return w, codeNone
	}
	now := cloneWorld(w)
	var code int
	switch d.Kind {
	case ddWrite:
		code = doWritePlainly(&now, d.A, d.B)
	case ddGive, ddSpoil, ddCopy:
		code = doLinePlainly(&now, d)
	case ddHold, ddLead, ddLeave:
		code = doRolePlainly(&now, d)
	default:
		code = doMeetPlainly(&now, d)
	}
	if code == codeDone && !worldOkPlainly(now) {
		code = codeFull
	}
	if code != codeDone {
		return w, code
	}
	return now, code
}

func doWritePlainly(w *impl.World, a int, at int) int {
	if !mayWritePlainly(w.Nodes[a]) {
		return codeIdle
	}
	if len(w.Net) > mostNet-2 && w.Nodes[a].Conn[2] {
		cutPlainly(w, a, 2)
	}
	if len(w.Log) == mostWrites || len(w.Net) > mostNet-2 {
		return codeFull
	}
	w.Log = append(w.Log, impl.Rec{Cell: at, Up: w.Nodes[a].Meta.Last})
	val := len(w.Log)
	n, posts := writePlainly(w.Nodes[a], at, val)
	if len(posts) == 0 && n.Image[at] != val {
		return codeFull
	}
	w.Nodes[a] = cloneNode(n)
	sendPlainly(w, posts)
	if !n.Conn[1-a] {
		makeSafePlainly(w, val)
	}
	return codeDone
}

func doLinePlainly(w *impl.World, d impl.Deed) int {
	switch d.Kind {
	case ddGive:
		i := slices.IndexFunc(w.Net, func(wire impl.Wire) bool { return wire.From == w.Net[d.A].From && wire.To == w.Net[d.A].To })
		wire := w.Net[i]
		w.Net = slices.Delete(w.Net, i, i+1)
		m, ok := saidPlainly(wire)
		if !ok {
			cutPlainly(w, wire.From, wire.To)
			return codeDone
		}
		n, posts := hearPlainly(w.Nodes[wire.To], wire.From, m)
		for _, val := range w.Nodes[wire.To].Wait {
			if !slices.Contains(n.Wait, val) {
				makeSafePlainly(w, val)
			}
		}
		w.Nodes[wire.To] = cloneNode(n)
		sendPlainly(w, posts)
	case ddSpoil:
		b := w.Net[d.A].Bytes
		if len(b) == 0 {
			return codeIdle
		}
		w.Net[d.A].Bytes = b[:len(b)-1]
	case ddCopy:
		if !w.Nodes[d.A].Copies[d.B] {
			return codeIdle
		}
		n, posts := copyPlainly(w.Nodes[d.A], d.B)
		if len(w.Net) == mostNet || len(posts) == 0 {
			return codeFull
		}
		w.Nodes[d.A] = cloneNode(n)
		sendPlainly(w, posts)
	}
	return codeDone
}

func doRolePlainly(w *impl.World, d impl.Deed) int {
	if d.A == 2 {
		return codeIdle
	}
	x, mate, ok := w.Nodes[d.A], w.Nodes[1-d.A], false
	switch d.Kind {
	case ddHold:
		makeSafePlainly(w, x.Wait...)
		x, mate, ok = holdPlainly(x, mate, w.Gen)
		w.Gen++
	case ddLead:
		isBetween := func(wire impl.Wire) bool { return wire.From+wire.To == 1 }
		x, ok = leadPlainly(x, mate, !slices.ContainsFunc(w.Net, isBetween))
	case ddLeave:
		x, ok = leavePlainly(x)
	}
	if !ok {
		return codeIdle
	}
	w.Nodes[d.A], w.Nodes[1-d.A] = cloneNode(x), cloneNode(mate)
	return codeDone
}

func doMeetPlainly(w *impl.World, d impl.Deed) int {
	n := &w.Nodes[d.A]
	switch d.Kind {
	case ddJoin:
		s, o := d.A, d.B
		who := sourcePlainly(w.Nodes[s], w.Nodes[o])
		if who == meetNone {
			return codeIdle
		}
		if who == meetSecond {
			s, o = o, s
		}
		x, y, ok := joinPlainly(w.Nodes[s], w.Nodes[o])
		if !ok {
			return codeFull
		}
		w.Nodes[s], w.Nodes[o] = cloneNode(x), cloneNode(y)
	case ddCut:
		if !n.Conn[d.B] {
			return codeIdle
		}
		cutPlainly(w, d.A, d.B)
	case ddRise:
		if n.Up {
			return codeIdle
		}
		*n = cloneNode(risePlainly(*n))
	default:
		isTear := d.Kind == ddTear
		if !n.Up || isTear && (d.B < 0 || d.B > mostTorn) {
			return codeIdle
		}
		if isTear {
			m := cloneMeta(n.Meta)
			m.Fine = !m.Fine
			n.Slots = cloneSlots(tearPlainly(n.Slots, m, d.B))
		}
		cutPlainly(w, d.A, (d.A+1)%nodeCount)
		cutPlainly(w, d.A, (d.A+2)%nodeCount)
		*n = cloneNode(fallPlainly(*n))
	}
	return codeDone
}

func cloneWire(wire impl.Wire) impl.Wire {
	wire.Bytes = slices.Clone(wire.Bytes)
	return wire
}

func cloneWorld(w impl.World) impl.World {
	w.Nodes = each(w.Nodes, cloneNode)
	w.Net = each(w.Net, cloneWire)
	w.Log, w.Safe = slices.Clone(w.Log), slices.Clone(w.Safe)
	return w
}

func alikeWires(a impl.Wire, b impl.Wire) bool {
	return a.From == b.From && a.To == b.To && bytes.Equal(a.Bytes, b.Bytes)
}

func alikeWorlds(a impl.World, b impl.World) bool {
	lines := slices.EqualFunc(a.Nodes, b.Nodes, alikeNodes) && slices.EqualFunc(a.Net, b.Net, alikeWires)
	return lines && slices.Equal(a.Log, b.Log) && slices.Equal(a.Safe, b.Safe) && a.Gen == b.Gen
}

func wantWorld(t *testing.T, why string, got impl.World, want impl.World) {
	t.Helper()
	if !alikeWorlds(got, want) {
		t.Errorf("%s: %v, not %v", why, got, want)
	}
}

func wantWorldOk(t *testing.T, why string, w impl.World, want bool) {
	t.Helper()
	if impl.WorldOk(w) != want {
		t.Errorf("%s: WorldOk of %v is %v", why, w, !want)
	}
}

// wantDo asks for the answer, and that a world is as it should be wherever there is one.
func wantDo(t *testing.T, why string, w impl.World, d impl.Deed, want impl.World, code int) {
	t.Helper()
	why = fmt.Sprintf("%s: %v", why, d)
	got, told := impl.Do(w, d)
	if told != code {
		t.Errorf("%s of %v tells %d, not %d", why, w, told, code)
	}
	wantWorld(t, why, got, want)
	if told != codeBad {
		wantWorldOk(t, why, got, true)
	}
}

func wantRefused(t *testing.T, why string, w impl.World, d impl.Deed, code int) {
	t.Helper()
	if code == codeBad {
		wantDo(t, why, w, d, impl.World{}, code)
	} else {
		wantDo(t, why, w, d, w, code)
	}
}

func wantDoPlainly(t *testing.T, why string, w impl.World, d impl.Deed) (impl.World, int) {
	t.Helper()
	want, code := doPlainly(w, d)
	wantDo(t, why, w, d, want, code)
	return want, code
}

// wantTurned is wantDo of what is done, told by what it turns in the world.
func wantTurned(t *testing.T, why string, w impl.World, d impl.Deed, turn func(w *impl.World)) impl.World {
	t.Helper()
	want := worldWith(w, turn)
	wantDo(t, why, w, d, want, codeDone)
	return want
}

func worldWith(w impl.World, turn func(w *impl.World)) impl.World {
	w = cloneWorld(w)
	turn(&w)
	return w
}

// behind is the world behind deeds of which each one is done.
func behind(w impl.World, list ...impl.Deed) impl.World {
	for _, d := range list {
		now, code := doPlainly(w, d)
		if code != codeDone {
			panic(fmt.Sprintf("%v of %v tells %d", d, w, code))
		}
		w = now
	}
	return w
}

// settled gives all that is on its way.
func settled(w impl.World) impl.World {
	for len(w.Net) > 0 {
		w = behind(w, deed(ddGive, 0, 0))
	}
	return w
}

// aloneWorld has one that leads alone, since it holds its mate for old.
func aloneWorld(id int) impl.World {
	return behind(worldPlainly(), deed(ddHold, id, 0), deed(ddLead, id, 0))
}

// pairWorld has one that leads and hears its mate.
func pairWorld(id int) impl.World {
	return behind(worldPlainly(), deed(ddJoin, 0, 1), deed(ddCopy, 0, 1), deed(ddGive, 0, 0), deed(ddLead, id, 0))
}

// farJoined is a world in which who leads hears the one far away, too.
func farJoined(w impl.World, id int) impl.World {
	return behind(w, deed(ddJoin, id, 2), deed(ddCopy, id, 2), deed(ddGive, len(w.Net), 0))
}

func threeWorld(id int) impl.World { return farJoined(pairWorld(id), id) }

// wrote is a world with those writes, all of them heard.
func wrote(w impl.World, id int, cells ...int) impl.World {
	for _, at := range cells {
		w = settled(behind(w, deed(ddWrite, id, at)))
	}
	return w
}

// richWorld has all that there is: writes, some of them safe, and words on their way on two lines.
func richWorld(id int) impl.World {
	w := wrote(threeWorld(id), id, 3, 5, 3)
	return behind(w, deed(ddWrite, id, 7), deed(ddGive, 0, 0), deed(ddWrite, id, 3), deed(ddGive, 1, 0), deed(ddWrite, id, 0))
}

// linked is w with a line between those two, whoever they are.
func linked(w impl.World, x int, y int) impl.World {
	return worldWith(w, func(w *impl.World) { w.Nodes[x].Conn[y], w.Nodes[y].Conn[x] = true, true })
}

// laid is w with so many words on their way from one to another one.
func laid(w impl.World, count int, from int, to int) impl.World {
	return worldWith(w, func(w *impl.World) {
		for range count {
			w.Net = append(w.Net, wirePlainly(from, to, sayAck(6, 0)))
		}
	})
}

// withWire is w with one more wire, behind all others.
func withWire(w impl.World, from int, to int, b []byte) impl.World {
	return worldWith(w, func(w *impl.World) { w.Net = append(w.Net, impl.Wire{From: from, To: to, Bytes: b}) })
}

func withWord(w impl.World, from int, to int, m impl.Msg) impl.World {
	return withWire(w, from, to, wirePlainly(from, to, m).Bytes)
}

// logged is w with writes up to that number, which no cell has.
func logged(w impl.World, count int) impl.World {
	return worldWith(w, func(w *impl.World) {
		for n := len(w.Log); n < count; n++ {
			w.Log = append(w.Log, impl.Rec{Cell: n % cellCount, Up: n})
		}
	})
}

// turnedNode is w with a node turned, in its meta and its slots, too.
func turnedNode(w impl.World, id int, turn func(m *impl.Meta)) impl.World {
	return worldWith(w, func(w *impl.World) { w.Nodes[id] = turnedMeta(w.Nodes[id], turn) })
}

// goodWorlds are worlds of each kind that are as they should be, at the edges, too.
func goodWorlds() map[string]impl.World {
	list := map[string]impl.World{
		"new":                   worldPlainly(),
		"all are down":          behind(worldPlainly(), deed(ddFall, 0, 0), deed(ddFall, 1, 0), deed(ddFall, 2, 0)),
		"the greatest Gen":      worldWith(worldPlainly(), func(w *impl.World) { w.Gen = mostGen }),
		"the most writes":       logged(worldPlainly(), mostWrites),
		"the first write alone": logged(worldPlainly(), 1),
		"all are safe": worldWith(logged(worldPlainly(), mostWrites), func(w *impl.World) {
			w.Safe = gensFrom(1, mostWrites)
		}),
		"the last one is safe":  worldWith(logged(worldPlainly(), 9), func(w *impl.World) { w.Safe = []int{9} }),
		"the first one is safe": worldWith(logged(worldPlainly(), 9), func(w *impl.World) { w.Safe = []int{1, 8} }),
		"no Up, and no order": worldWith(logged(worldPlainly(), 4), func(w *impl.World) {
			w.Log = []impl.Rec{{Cell: 7}, {Cell: 7, Up: 1}, {Cell: 0}, {Cell: 7, Up: 1}}
		}),
		"a cell has the last write": worldWith(logged(worldPlainly(), 9), func(w *impl.World) { w.Nodes[1].Image[7] = 9 }),
		"it knows the last write":   turnedNode(logged(worldPlainly(), 9), 2, func(m *impl.Meta) { m.Last = 9 }),
		"the cells know nothing":    turnedNode(logged(worldPlainly(), 9), 0, func(m *impl.Meta) { m.Fine = false }),
		"what waits is none of Log": worldWith(worldPlainly(), func(w *impl.World) { w.Nodes[0].Wait = []int{1, 200} }),
		"both lead":                 worldWith(worldPlainly(), func(w *impl.World) { w.Nodes[0].Prime, w.Nodes[1].Prime = true, true }),
	}
	for id := range 2 {
		list[fmt.Sprint("alone ", id)] = aloneWorld(id)
		list[fmt.Sprint("a pair ", id)] = pairWorld(id)
		list[fmt.Sprint("a pair that is not led ", id)] = behind(pairWorld(id), deed(ddLeave, id, 0))
		list[fmt.Sprint("it holds its mate ", id)] = behind(worldPlainly(), deed(ddHold, id, 0))
		list[fmt.Sprint("all three ", id)] = threeWorld(id)
		list[fmt.Sprint("rich ", id)] = richWorld(id)
		list[fmt.Sprint("held and far ", id)] = farJoined(wrote(aloneWorld(id), id, 1, 1, 2), id)
	}
	for _, two := range pairAndFar {
		w := linked(worldPlainly(), two.id, two.from)
		list[fmt.Sprint("the most wires ", two)] = laid(w, mostNet, two.id, two.from)
		list[fmt.Sprint("the most bytes ", two)] = withWire(w, two.id, two.from, many(9, mostWire))
		list[fmt.Sprint("no bytes ", two)] = withWire(w, two.id, two.from, nil)
	}
	return list
}

// wrongWorlds are each wrong in one thing alone.
func wrongWorlds() map[string]impl.World {
	list := map[string]impl.World{"nothing": {}, "a generation alone": {Gen: 2}}
	for id := range 2 {
		for why, w := range map[string]impl.World{"new": worldPlainly(), "rich": richWorld(id)} {
			for _, part := range []map[string]func(w *impl.World){wrongInNodes(), wrongInWires(id), wrongInWrites(w)} {
				for what, turn := range part {
					list[fmt.Sprintf("%s, %s, %d", what, why, id)] = worldWith(w, turn)
				}
			}
		}
	}
	for i, wrong := range wrongNodes() {
		if isPlace(wrong.node.Id, nodeCount) && i%29 == 0 {
			list[fmt.Sprint("no node, ", wrong.why, i)] = worldWith(worldPlainly(), func(w *impl.World) { w.Nodes[wrong.node.Id] = cloneNode(wrong.node) })
		}
	}
	return list
}

func wrongInNodes() map[string]func(w *impl.World) {
	list := map[string]func(w *impl.World){
		"no nodes":                 func(w *impl.World) { w.Nodes = nil },
		"one node":                 func(w *impl.World) { w.Nodes = w.Nodes[:1] },
		"two nodes":                func(w *impl.World) { w.Nodes = w.Nodes[:2] },
		"four nodes":               func(w *impl.World) { w.Nodes = append(w.Nodes, newPlainly(2)) },
		"six nodes":                func(w *impl.World) { w.Nodes = append(w.Nodes, worldPlainly().Nodes...) },
		"two of the pair, one way": func(w *impl.World) { w.Nodes[0], w.Nodes[1] = newPlainly(1), newPlainly(0) },
		"the one far away first":   func(w *impl.World) { w.Nodes[0], w.Nodes[2] = newPlainly(2), newPlainly(0) },
	}
	for id := range nodeCount {
		for other := range nodeCount {
			if other != id {
				list[fmt.Sprint(id, " bears the number of ", other)] = func(w *impl.World) { w.Nodes[id] = newPlainly(other) }
				list[fmt.Sprint(id, " hears who does not hear it ", other)] = func(w *impl.World) {
					w.Nodes[id].Conn[other], w.Nodes[other].Conn[id] = true, false
					w.Nodes[other].Copies[id], w.Nodes[other].Sync[id], w.Net = false, nil, nil
				}
			}
		}
		list[fmt.Sprint(id, " has a cell with no write of Log")] = func(w *impl.World) { w.Nodes[id].Image[3] = len(w.Log) + 1 }
		list[fmt.Sprint(id, " has the last cell with no write of Log")] = func(w *impl.World) { w.Nodes[id].Image[7] = mostWrites }
		list[fmt.Sprint(id, " has a Last that is none of Log")] = func(w *impl.World) {
			w.Nodes[id] = turnedMeta(w.Nodes[id], func(m *impl.Meta) { m.Last = len(w.Log) + 1 })
		}
		list[fmt.Sprint(id, " is nothing")] = func(w *impl.World) { w.Nodes[id] = impl.Node{} }
		list[fmt.Sprint(id, " has no slots")] = func(w *impl.World) { w.Nodes[id].Slots = impl.Slots{} }
		list[fmt.Sprint(id, " has a cell below 0")] = func(w *impl.World) { w.Nodes[id].Image[0] = -1 }
	}
	return list
}

func wrongInWires(id int) map[string]func(w *impl.World) {
	list := map[string]func(w *impl.World){}
	add := func(why string, from int, to int, b []byte) {
		list[fmt.Sprint(why, from, to)] = func(w *impl.World) { w.Net = append(w.Net, impl.Wire{From: from, To: to, Bytes: b}) }
	}
	for one := range nodeCount {
		add("a wire to itself", one, one, []byte{1})
		for _, other := range append([]int{-1, -2, 3, 4}, farNumbers...) {
			add("a wire from none", other, one, []byte{1})
			add("a wire to none", one, other, []byte{1})
			add("a wire from and to none", other, other, []byte{1})
		}
	}
	add("a wire where nobody hears anybody", 1-id, 2, []byte{1})
	add("a wire where nobody hears anybody", 2, 1-id, nil)
	for _, size := range []int{mostWire + 1, mostWire + 2, 2000} {
		list[fmt.Sprint("too many bytes ", size)] = func(w *impl.World) {
			*w = withWire(linked(*w, id, 2), 2, id, many(9, size))
		}
	}
	list["one wire more"] = func(w *impl.World) { *w = laid(linked(*w, 0, 1), mostNet+1-len(w.Net), 0, 1) }
	list["very many wires"] = func(w *impl.World) { *w = laid(linked(*w, id, 2), 4*mostNet, id, 2) }
	return list
}

func wrongInWrites(w impl.World) map[string]func(w *impl.World) {
	list := map[string]func(w *impl.World){
		"one write more":   func(w *impl.World) { *w = logged(*w, mostWrites+1) },
		"very many writes": func(w *impl.World) { *w = logged(*w, 3*mostWrites) },
	}
	count := len(w.Log)
	for _, at := range append([]int{-1, cellCount, cellCount + 1}, farNumbers...) {
		list[fmt.Sprint("a write of no cell ", at)] = func(w *impl.World) { w.Log = append(w.Log, impl.Rec{Cell: at}) }
	}
	for _, up := range append([]int{-1, count + 1, count + 2}, farNumbers...) {
		list[fmt.Sprint("an Up that is none ", up)] = func(w *impl.World) { w.Log = append(w.Log, impl.Rec{Cell: 1, Up: up}) }
	}
	list["the first Up is its own number"] = func(w *impl.World) { w.Log = append([]impl.Rec{{Up: 1}}, logged(*w, 1).Log[1:]...) }
	for i, safe := range [][]int{{0}, {0, 1}, {2, 1}, {1, 1}, {1, 2, 2}, {3, 1, 2}, {count + 5}, {1, count + 5}, {-1}, {-1, 1}, {1 << 62}, {-1 << 62, 1}} {
		list[fmt.Sprint("Safe that is none ", i)] = func(w *impl.World) {
			*w = logged(*w, count+4)
			w.Safe = safe
		}
	}
	for _, gen := range append([]int{1, 0, -1, -2, mostGen + 1, mostGen + 2}, farNumbers[:6]...) {
		list[fmt.Sprint("no generation ", gen)] = func(w *impl.World) { w.Gen = gen }
	}
	return list
}

func TestWorldLimits(t *testing.T) {
	kinds := []int{impl.DdWrite, impl.DdJoin, impl.DdCut, impl.DdFall, impl.DdRise, impl.DdTear, impl.DdGive, impl.DdSpoil, impl.DdCopy, impl.DdHold, impl.DdLead, impl.DdLeave}
	wantList(t, "the kinds", kinds, gensFrom(1, 12)...)
	codes := []int{impl.CdDone, impl.CdBad, impl.CdNone, impl.CdIdle, impl.CdFull}
	wantList(t, "the codes", codes, 0, 1, 2, 3, 4)
	if impl.MaxNet != mostNet || impl.MaxDeeds != mostDeeds {
		t.Errorf("MaxNet is %d, MaxDeeds %d", impl.MaxNet, impl.MaxDeeds)
	}
}

func TestWorldNew(t *testing.T) {
	w := impl.WorldNew()
	wantWorld(t, "a new world", w, worldPlainly())
	wantWorldOk(t, "a new world", w, true)
	for _, n := range w.Nodes {
		if n.Prime || !n.Up || slices.Contains(n.Conn, true) {
			t.Errorf("in a new world there is %v", n)
		}
	}
	wantApart(t, "WorldNew", w, impl.WorldNew())
}

func TestWorldOk(t *testing.T) {
	for why, w := range goodWorlds() {
		if !worldOkPlainly(w) {
			t.Fatalf("%s: the plain form takes it for wrong", why)
		}
		wantWorldOk(t, why, w, true)
	}
}

func TestWorldOkOfWrongOnes(t *testing.T) {
	worlds := wrongWorlds()
	if len(worlds) < 300 {
		t.Errorf("there are only %d wrong worlds", len(worlds))
	}
	for why, w := range worlds {
		if worldOkPlainly(w) {
			t.Fatalf("%s: the plain form takes it for right", why)
		}
		wantWorldOk(t, why, w, false)
	}
}

// What stands behind the end of a list makes no world right or wrong.
func TestWorldOkLooksAtNoSpareRoom(t *testing.T) {
	for why, w := range goodWorlds() {
		wantWorldOk(t, why+", with spare room", roomyWorld(w), true)
	}
	for why, w := range wrongWorlds() {
		wantWorldOk(t, why+", with spare room", roomyWorld(w), false)
	}
}

// lineage is a world made by hand, with an Up of each kind.
func lineage() impl.World {
	return impl.World{Log: []impl.Rec{
		{Cell: 3}, {Cell: 5, Up: 1}, {Cell: 3, Up: 1}, {Cell: 0, Up: 3}, {Cell: 7, Up: 4}, {Cell: 7, Up: 2},
		{Cell: 1, Up: 7}, {Cell: 2, Up: 7}, {Cell: 2, Up: 10}, {Cell: 4, Up: -1}, {Cell: 4, Up: 10}, {Cell: 8, Up: 11},
		{Cell: -1, Up: 12}, {Cell: 6, Up: 1 << 62}, {Cell: 6, Up: -1 << 62}, {Cell: 6, Up: 14}, {Cell: 6, Up: 16},
	}}
}

func TestChain(t *testing.T) {
	w := lineage()
	for n, want := range [][]int{
		nil, {1}, {1, 2}, {1, 3}, {1, 3, 4}, {1, 3, 4, 5}, {1, 2, 6}, {7}, {7, 8}, {9}, {10}, {10, 11}, {10, 11, 12},
		{10, 11, 12, 13}, {14}, {15}, {14, 16}, {14, 16, 17}, nil,
	} {
		wantList(t, fmt.Sprint("Chain of ", n), impl.Chain(w, n), want...)
	}
	for _, n := range append([]int{0, -1, len(w.Log) + 1, mostWrites, mostWrites + 1}, farNumbers...) {
		wantList(t, fmt.Sprint("Chain of none, ", n), impl.Chain(w, n))
		wantList(t, "Chain where nothing is written", impl.Chain(worldPlainly(), n))
	}
	wantList(t, "Chain of all", impl.Chain(logged(impl.World{}, mostWrites), mostWrites), gensFrom(1, mostWrites)...)
	wantList(t, "Chain of very many", impl.Chain(logged(impl.World{}, 1<<12), 1<<12), gensFrom(1, 1<<12)...)
	wantList(t, "Chain in the spare room", impl.Chain(impl.World{Log: w.Log[:4]}, 5))
}

func TestReplay(t *testing.T) {
	w := lineage()
	for _, c := range []struct{ list, want []int }{
		{nil, eightOf(0)},
		{[]int{}, eightOf(0)},
		{[]int{1}, []int{0, 0, 0, 1, 0, 0, 0, 0}},
		{[]int{1, 3}, []int{0, 0, 0, 3, 0, 0, 0, 0}},
		{[]int{3, 1}, []int{0, 0, 0, 1, 0, 0, 0, 0}},
		{[]int{3, 1, 3}, []int{0, 0, 0, 3, 0, 0, 0, 0}},
		{[]int{1, 1, 1}, []int{0, 0, 0, 1, 0, 0, 0, 0}},
		{[]int{1, 3, 4, 5}, []int{4, 0, 0, 3, 0, 0, 0, 5}},
		{[]int{0, 1, -1, 18, 1 << 62, -1 << 62, 5, 200}, []int{0, 0, 0, 1, 0, 0, 0, 5}},
		{[]int{0, 18}, eightOf(0)},
		{[]int{12, 13}, eightOf(0)},
		{[]int{2, 12, 13, 6}, []int{0, 0, 0, 0, 0, 2, 0, 6}},
		{[]int{7, 8, 9, 10, 11, 14, 15, 16, 17}, []int{0, 7, 9, 0, 11, 0, 17, 0}},
		{slices.Repeat([]int{4, 5, 6}, 500), []int{4, 0, 0, 0, 0, 0, 0, 6}},
	} {
		wantList(t, fmt.Sprint("Replay of ", c.list), impl.Replay(w, c.list), c.want...)
		wantList(t, "Replay, in the plain form", replayPlainly(w, c.list), c.want...)
		wantList(t, "Replay where nothing is written", impl.Replay(impl.World{}, c.list), eightOf(0)...)
	}
	wantList(t, "Replay in the spare room", impl.Replay(impl.World{Log: w.Log[:2]}, []int{1, 3, 4}), 0, 0, 0, 1, 0, 0, 0, 0)
}

// Who has heard all is as the line of its last write tells.
func TestReplayOfAChain(t *testing.T) {
	w := settled(richWorld(0))
	for _, n := range w.Nodes {
		wantList(t, "Replay of the line of the last write", impl.Replay(w, impl.Chain(w, n.Meta.Last)), n.Image...)
	}
	wantList(t, "Chain of the last write", impl.Chain(w, 6), 1, 2, 3, 4, 5, 6)
}

func wantReadPlainlyOf(t *testing.T, why string, w impl.World, a int, at int) {
	t.Helper()
	want, code := readWorldPlainly(w, a, at)
	if got, told := impl.Read(w, a, at); got != want || told != code {
		t.Errorf("%s: Read of cell %d at %d tells %d, %d, not %d, %d", why, at, a, got, told, want, code)
	}
}

func TestRead(t *testing.T) {
	for id := range 2 {
		w := richWorld(id)
		for at, want := range []int{6, 0, 0, 5, 0, 2, 0, 4} {
			if got, code := impl.Read(w, id, at); got != want || code != codeDone {
				t.Errorf("Read of cell %d at %d tells %d, %d, not %d", at, id, got, code, want)
			}
		}
		for _, a := range nodeIds {
			for _, at := range cellPlaces {
				wantReadPlainlyOf(t, "a world with all there is", w, a, at)
				if a != id || !isPlace(at, cellCount) {
					if got, code := impl.Read(w, a, at); got != 0 || code != codeNone {
						t.Errorf("Read of cell %d at %d tells %d, %d", at, a, got, code)
					}
				}
			}
		}
		left := behind(w, deed(ddLeave, id, 0))
		if got, code := impl.Read(left, id, 3); got != 0 || code != codeNone {
			t.Errorf("Read at one that left tells %d, %d", got, code)
		}
	}
	for why, w := range wrongWorlds() {
		for a := range nodeCount {
			for at := range cellCount {
				if got, code := impl.Read(w, a, at); got != 0 || code != codeNone {
					t.Errorf("%s: Read tells %d, %d", why, got, code)
				}
			}
		}
	}
}

func TestDoOfAWorldThatIsNone(t *testing.T) {
	for why, w := range wrongWorlds() {
		for kind := range 14 {
			wantRefused(t, why, w, deed(kind, 0, 1), codeBad)
		}
		wantRefused(t, why, w, deed(ddWrite, 7, 9), codeBad)
	}
}

// That the kind is none counts ahead of all else.
func TestDoOfKindsThatAreNone(t *testing.T) {
	for why, w := range goodWorlds() {
		for _, kind := range append([]int{0, -1, -7, 13, 14, 99}, farNumbers...) {
			for _, a := range []int{-1, 0, 2, 3} {
				wantRefused(t, why, w, deed(kind, a, 1), codeBad)
			}
		}
	}
}

func TestDoOfNoNode(t *testing.T) {
	for why, w := range goodWorlds() {
		for _, none := range append([]int{-1, -2, 3, 4}, farNumbers...) {
			for _, kind := range []int{ddWrite, ddJoin, ddCut, ddFall, ddRise, ddTear, ddCopy, ddHold, ddLead, ddLeave} {
				for _, b := range []int{-1, 0, 1, none} {
					wantRefused(t, why, w, deed(kind, none, b), codeNone)
				}
			}
			for id := range nodeCount {
				for _, kind := range []int{ddJoin, ddCut, ddCopy} {
					wantRefused(t, why, w, deed(kind, id, none), codeNone)
				}
			}
		}
		for id := range nodeCount {
			for _, kind := range []int{ddJoin, ddCut, ddCopy} {
				wantRefused(t, why+", with itself", w, deed(kind, id, id), codeNone)
			}
			for _, at := range append([]int{-1, cellCount}, farPlaces...) {
				wantRefused(t, why+", no cell", w, deed(ddWrite, id, at), codeNone)
			}
		}
		for _, at := range append([]int{-1, -2, len(w.Net), len(w.Net) + 1, mostNet, mostNet + 1}, farPlaces...) {
			if !isPlace(at, len(w.Net)) {
				wantRefused(t, why+", no wire", w, deed(ddGive, at, 0), codeNone)
				wantRefused(t, why+", no wire", w, deed(ddSpoil, at, 0), codeNone)
			}
		}
	}
}

// Where a deed has no B, whatever stands there is of no weight.
func TestDoLooksAtNoB(t *testing.T) {
	w := behind(richWorld(0), deed(ddFall, 2, 0))
	for _, d := range []impl.Deed{deed(ddFall, 1, 0), deed(ddRise, 2, 0), deed(ddGive, 0, 0), deed(ddSpoil, 0, 0), deed(ddHold, 0, 0), deed(ddLead, 1, 0), deed(ddLeave, 0, 0)} {
		want, code := impl.Do(w, d)
		for _, b := range append([]int{-1, 1, 2, 3, 8, 200}, farNumbers...) {
			wantDo(t, "another B", w, deed(d.Kind, d.A, b), want, code)
		}
	}
}

func TestWriteDeed(t *testing.T) {
	for id := range 2 {
		mate, w := 1-id, pairWorld(id)
		w = wantTurned(t, "to its mate", w, deed(ddWrite, id, 3), func(w *impl.World) {
			n, _ := writePlainly(w.Nodes[id], 3, 1)
			w.Nodes[id] = n
			w.Log = []impl.Rec{{Cell: 3, Up: 0}}
			w.Net = []impl.Wire{{From: id, To: mate, Bytes: framePlainly(sayData(3, 1))}}
		})
		wantList(t, "what waits", w.Nodes[id].Wait, 1)
		w = wantTurned(t, "to its mate, once more", w, deed(ddWrite, id, 7), func(w *impl.World) {
			n, _ := writePlainly(w.Nodes[id], 7, 2)
			w.Nodes[id] = n
			w.Log = append(w.Log, impl.Rec{Cell: 7, Up: 1})
			w.Net = append(w.Net, impl.Wire{From: id, To: mate, Bytes: framePlainly(sayData(7, 2))})
		})
		w = farJoined(w, id)
		wantTurned(t, "to both", w, deed(ddWrite, id, 0), func(w *impl.World) {
			n, _ := writePlainly(w.Nodes[id], 0, 3)
			w.Nodes[id] = n
			w.Log = append(w.Log, impl.Rec{Cell: 0, Up: 2})
			one, other := wirePlainly(id, mate, sayData(0, 3)), wirePlainly(id, 2, sayData(0, 3))
			w.Net = append(w.Net, one, other)
			if id == 0 && !bytes.Equal(other.Bytes, squeezePlainly(one.Bytes)) {
				t.Error("what is said to the one far away is not packed")
			}
		})
	}
}

// The line far away says the same in another form.
func TestWriteDeedInBytes(t *testing.T) {
	w, _ := impl.Do(threeWorld(0), deed(ddWrite, 0, 3))
	if len(w.Net) != 2 || w.Net[0].To != 1 || w.Net[1].To != 2 {
		t.Fatalf("a write is on its way as %v", w.Net)
	}
	wantBytes(t, "to the mate", w.Net[0].Bytes, []byte{5, 1, 3, 1, 0, 0, 6, 0, 25, 0})
	wantBytes(t, "to the one far away", w.Net[1].Bytes, []byte{5, 1, 3, 1, 0, 0, 0, 0, 6, 0, 0, 25, 0, 0})
	wantBytes(t, "to the one far away, packed", w.Net[1].Bytes, impl.Pack([]impl.Msg{sayData(3, 1)}))
}

// Without its mate a write is safe at once; that the one far away hears it is of no weight.
func TestWriteDeedIsSafe(t *testing.T) {
	for id := range 2 {
		w := aloneWorld(id)
		for n := 1; n <= 3; n++ {
			w = wantTurned(t, "alone", w, deed(ddWrite, id, n), func(w *impl.World) {
				node, _ := writePlainly(w.Nodes[id], n, n)
				w.Nodes[id] = node
				w.Log = append(w.Log, impl.Rec{Cell: n, Up: n - 1})
				w.Safe = append(w.Safe, n)
			})
		}
		far, _ := wantDoPlainly(t, "the one far away hears it", farJoined(w, id), deed(ddWrite, id, 1))
		wantList(t, "safe, far", far.Safe, 1, 2, 3, 4)
		both := behind(w, deed(ddJoin, id, 1-id), deed(ddWrite, id, 1))
		wantList(t, "its mate hears it", both.Safe, 1, 2, 3)
		wantDoPlainly(t, "its mate hears it", behind(w, deed(ddJoin, id, 1-id)), deed(ddWrite, id, 1))
	}
}

// The Up is the last write in its cells, whatever else was written since.
func TestWriteDeedUponItsLast(t *testing.T) {
	w := turnedNode(logged(aloneWorld(0), 9), 0, func(m *impl.Meta) { m.Last = 4 })
	got, _ := wantDoPlainly(t, "upon its last", w, deed(ddWrite, 0, 6))
	if got.Log[9] != (impl.Rec{Cell: 6, Up: 4}) || got.Nodes[0].Meta.Last != 10 {
		t.Errorf("a write upon 4 is %v", got.Log)
	}
	wantList(t, "safe", got.Safe, 10)
	wantList(t, "Chain", impl.Chain(got, 10), 1, 2, 3, 4, 10)
}

func TestWriteDeedIdle(t *testing.T) {
	for id := range 2 {
		for why, w := range map[string]impl.World{
			"new":                  worldPlainly(),
			"its mate leads":       pairWorld(1 - id),
			"its mate leads alone": aloneWorld(1 - id),
			"it left":              behind(pairWorld(id), deed(ddLeave, id, 0)),
			"it hears nobody":      behind(pairWorld(id), deed(ddCut, id, 1-id)),
			"only the one far":     behind(threeWorld(id), deed(ddCut, id, 1-id)),
			"it is down":           behind(pairWorld(id), deed(ddFall, id, 0)),
			"held, but not prime":  behind(worldPlainly(), deed(ddHold, id, 0)),
			"the most writes":      logged(worldPlainly(), mostWrites),
		} {
			for at := range cellCount {
				wantRefused(t, why, w, deed(ddWrite, id, at), codeIdle)
				wantRefused(t, why, w, deed(ddWrite, 2, at), codeIdle)
			}
		}
	}
}

func TestWriteDeedOfTheMostWrites(t *testing.T) {
	for id := range 2 {
		for _, w := range []impl.World{aloneWorld(id), pairWorld(id), threeWorld(id)} {
			one := logged(w, mostWrites-1)
			last, _ := wantDoPlainly(t, "the last one", one, deed(ddWrite, id, 4))
			if last.Nodes[id].Image[4] != mostWrites {
				t.Errorf("the last write is %v", last.Nodes[id])
			}
			wantRefused(t, "one more", last, deed(ddWrite, id, 4), codeFull)
			wantRefused(t, "one more, no cell", last, deed(ddWrite, id, 8), codeNone)
		}
	}
}

func TestWriteDeedWithoutTheLineFarAway(t *testing.T) {
	for id := range 2 {
		mate, w := 1-id, pairWorld(id)
		for count := range mostNet + 1 {
			for _, two := range [][]int{{id, mate}, {mate, id}} {
				full := laid(w, count, two[0], two[1])
				if count <= mostNet-2 {
					got, _ := wantDoPlainly(t, fmt.Sprint(count, " on their way"), full, deed(ddWrite, id, 3))
					if len(got.Net) != count+1 {
						t.Errorf("behind %d there are %d", count, len(got.Net))
					}
				} else {
					wantRefused(t, fmt.Sprint(count, " on their way"), full, deed(ddWrite, id, 3), codeFull)
				}
			}
		}
	}
}

// laidBoth has so many words on the line of the pair, and so many on that far away.
func laidBoth(id int, near int, far int) impl.World {
	return laid(laid(laid(threeWorld(id), near/2, id, 1-id), far, id, 2), near-near/2, 1-id, id)
}

func TestWriteDeedWithTheLineFarAway(t *testing.T) {
	for id := range 2 {
		for _, c := range []struct {
			near, far int
			code      int
			behind    int
			isCut     bool
		}{
			{0, 0, codeDone, 2, false},
			{38, 0, codeDone, 40, false},
			{20, 18, codeDone, 40, false},
			{0, 38, codeDone, 40, false},
			{39, 0, codeFull, 39, false},
			{38, 1, codeDone, 39, true},
			{20, 19, codeDone, 21, true},
			{0, 39, codeDone, 1, true},
			{40, 0, codeFull, 40, false},
			{39, 1, codeFull, 40, false},
			{38, 2, codeDone, 39, true},
			{0, 40, codeDone, 1, true},
		} {
			w := laidBoth(id, c.near, c.far)
			got, code := wantDoPlainly(t, fmt.Sprint(c, " on their way"), w, deed(ddWrite, id, 3))
			if code != c.code || len(got.Net) != c.behind || got.Nodes[id].Conn[2] == c.isCut || got.Nodes[2].Conn[id] == c.isCut {
				t.Errorf("%v on their way: %d, and then there are %d", c, code, len(got.Net))
			}
			if c.code == codeFull {
				wantRefused(t, fmt.Sprint(c, " on their way"), w, deed(ddWrite, id, 3), codeFull)
			}
		}
	}
}

// Who leads alone cuts the one far away off, too, though it says one thing alone; a line that is not its own is of no use to it.
func TestWriteDeedOfOneAloneWhereThereIsNoRoom(t *testing.T) {
	for id := range 2 {
		w := farJoined(aloneWorld(id), id)
		for _, count := range []int{38, 39, 40} {
			got, _ := wantDoPlainly(t, "only the one far away", laid(w, count, id, 2), deed(ddWrite, id, 3))
			if got.Nodes[2].Conn[id] != (count == 38) || !slices.Equal(got.Safe, []int{1}) {
				t.Errorf("%d on their way, and then there is %v", count, got)
			}
			other := laid(linked(aloneWorld(id), 1-id, 2), count, 2, 1-id)
			if count == 38 {
				wantDoPlainly(t, "a line of others", other, deed(ddWrite, id, 3))
			} else {
				wantRefused(t, "a line of others", other, deed(ddWrite, id, 3), codeFull)
			}
		}
	}
}

func TestJoinDeed(t *testing.T) {
	for _, d := range []impl.Deed{deed(ddJoin, 0, 1), deed(ddJoin, 1, 0)} {
		got := wantTurned(t, "two that are new", worldPlainly(), d, func(w *impl.World) {
			w.Nodes[d.A], w.Nodes[d.B], _ = joinPlainly(w.Nodes[d.A], w.Nodes[d.B])
		})
		if !got.Nodes[d.A].Copies[d.B] || got.Nodes[d.B].Copies[d.A] {
			t.Errorf("of two that are new not the first one copies: %v", got)
		}
	}
	for id := range 2 {
		w := behind(aloneWorld(id), deed(ddWrite, id, 3), deed(ddWrite, id, 5))
		for _, d := range []impl.Deed{deed(ddJoin, id, 1-id), deed(ddJoin, 1-id, id)} {
			got := wantTurned(t, "one holds the other", w, d, func(w *impl.World) {
				w.Nodes[id], w.Nodes[1-id], _ = joinPlainly(w.Nodes[id], w.Nodes[1-id])
			})
			wantList(t, "what is to copy", got.Nodes[id].Sync[1-id], 3, 5)
			wantRefused(t, "they hear each other", got, d, codeIdle)
		}
		for _, d := range []impl.Deed{deed(ddJoin, id, 2), deed(ddJoin, 2, id)} {
			got := wantTurned(t, "the one far away", w, d, func(w *impl.World) {
				w.Nodes[id], w.Nodes[2], _ = joinPlainly(w.Nodes[id], w.Nodes[2])
			})
			if !got.Nodes[id].Copies[2] || got.Nodes[2].Copies[id] || got.Nodes[2].Meta.Fine {
				t.Errorf("the one far away is joined as %v", got)
			}
		}
	}
}

func TestJoinDeedIdle(t *testing.T) {
	for id := range 2 {
		mate := 1 - id
		for why, w := range map[string]impl.World{
			"they hear each other": pairWorld(id),
			"it is down":           behind(worldPlainly(), deed(ddFall, id, 0)),
			"its mate is down":     behind(aloneWorld(id), deed(ddFall, mate, 0)),
			"none is fine":         turnedNode(turnedNode(worldPlainly(), 0, func(m *impl.Meta) { m.Fine = false }), 1, func(m *impl.Meta) { m.Fine = false }),
			"they are split":       turnedNode(turnedNode(worldPlainly(), 0, func(m *impl.Meta) { m.Gens = []int{2, 1} }), 1, func(m *impl.Meta) { m.Gens = []int{3, 1} }),
			"both lead":            worldWith(worldPlainly(), func(w *impl.World) { w.Nodes[0].Prime, w.Nodes[1].Prime = true, true }),
		} {
			wantRefused(t, why, w, deed(ddJoin, id, mate), codeIdle)
			wantRefused(t, why, w, deed(ddJoin, mate, id), codeIdle)
		}
		for why, w := range map[string]impl.World{
			"it does not lead":  worldPlainly(),
			"its mate leads":    pairWorld(mate),
			"it is not fine":    turnedNode(pairWorld(id), id, func(m *impl.Meta) { m.Fine = false }),
			"far is down":       behind(pairWorld(id), deed(ddFall, 2, 0)),
			"far is on its own": turnedNode(pairWorld(id), 2, func(m *impl.Meta) { m.Gens = []int{7, 1} }),
		} {
			wantRefused(t, why, w, deed(ddJoin, id, 2), codeIdle)
			wantRefused(t, why, w, deed(ddJoin, 2, id), codeIdle)
		}
	}
}

func TestCutDeed(t *testing.T) {
	for id := range 2 {
		w := richWorld(id)
		w = laid(laid(laid(w, 2, 2, id), 1, 1-id, id), 1, id, 2)
		for _, other := range []int{1 - id, 2} {
			for _, d := range []impl.Deed{deed(ddCut, id, other), deed(ddCut, other, id)} {
				got := wantTurned(t, "one line", w, d, func(w *impl.World) {
					w.Nodes[id].Conn[other], w.Nodes[other].Conn[id] = false, false
					w.Net = slices.DeleteFunc(w.Net, func(wire impl.Wire) bool { return wire.From == other || wire.To == other })
				})
				if len(got.Net) == 0 || len(got.Net) >= len(w.Net) {
					t.Errorf("behind a cut there is %v on its way, of %v", got.Net, w.Net)
				}
				wantList(t, "what waits goes on to", got.Nodes[id].Wait, w.Nodes[id].Wait...)
				wantRefused(t, "they do not hear each other", got, d, codeIdle)
			}
		}
		wantRefused(t, "they never heard each other", w, deed(ddCut, 1-id, 2), codeIdle)
		wantRefused(t, "they never heard each other", w, deed(ddCut, 2, 1-id), codeIdle)
	}
}

func TestCutDeedEndsTheCopy(t *testing.T) {
	for id := range 2 {
		w := behind(aloneWorld(id), deed(ddWrite, id, 3), deed(ddWrite, id, 5), deed(ddJoin, id, 1-id), deed(ddJoin, id, 2), deed(ddCopy, id, 1-id))
		for _, other := range []int{1 - id, 2} {
			for _, d := range []impl.Deed{deed(ddCut, id, other), deed(ddCut, other, id)} {
				got, _ := wantDoPlainly(t, "while it copies", w, d)
				n := got.Nodes[id]
				if n.Copies[other] || len(n.Sync[other]) > 0 || n.Conn[other] || !n.Copies[3-id-other] || len(n.Sync[3-id-other]) == 0 {
					t.Errorf("a cut leaves %v", n)
				}
				if got.Nodes[other].Meta.Fine {
					t.Errorf("what is copied in part is fine: %v", got.Nodes[other])
				}
			}
		}
	}
}

func TestFallDeed(t *testing.T) {
	for id := range 2 {
		w := laid(linked(richWorld(id), 1-id, 2), 2, 2, 1-id)
		for one := range nodeCount {
			got := wantTurned(t, "one falls", w, deed(ddFall, one, 0), func(w *impl.World) {
				x, y := (one+1)%nodeCount, (one+2)%nodeCount
				w.Nodes[one] = fallPlainly(w.Nodes[one])
				w.Nodes[x].Conn[one], w.Nodes[y].Conn[one] = false, false
				w.Net = slices.DeleteFunc(w.Net, func(wire impl.Wire) bool { return wire.From == one || wire.To == one })
			})
			if len(got.Net) == 0 {
				t.Error("what the others say is gone")
			}
			wantRefused(t, "once more", got, deed(ddFall, one, 0), codeIdle)
			wantRefused(t, "once more", got, deed(ddTear, one, 9), codeIdle)
			up := wantTurned(t, "it rises", got, deed(ddRise, one, 0), func(w *impl.World) { w.Nodes[one].Up = true })
			wantRefused(t, "it is up", up, deed(ddRise, one, 0), codeIdle)
		}
		wantRefused(t, "it is up", w, deed(ddRise, id, 0), codeIdle)
		copies := behind(w, deed(ddFall, 2, 0), deed(ddRise, 2, 0), deed(ddJoin, id, 2))
		wantDoPlainly(t, "who copies falls", copies, deed(ddFall, id, 0))
		wantDoPlainly(t, "to whom it copies falls", copies, deed(ddFall, 2, 0))
	}
}

func TestTearDeed(t *testing.T) {
	for id := range 2 {
		w := richWorld(id)
		for one := range nodeCount {
			m := cloneMeta(w.Nodes[one].Meta)
			m.Fine = !m.Fine
			fallen := behind(w, deed(ddFall, one, 0))
			for count := 0; count <= mostTorn; count++ {
				slots := tearPlainly(w.Nodes[one].Slots, m, count)
				got, _ := impl.Do(w, deed(ddTear, one, count))
				wantDo(t, "torn", w, deed(ddTear, one, count), worldWith(fallen, func(w *impl.World) { w.Nodes[one].Slots = slots }), codeDone)
				up, _ := impl.Do(got, deed(ddRise, one, 0))
				if !alikeMetas(up.Nodes[one].Meta, w.Nodes[one].Meta) {
					t.Errorf("torn at %d, and then it knows %v", count, up.Nodes[one].Meta)
				}
			}
			none, _ := impl.Do(w, deed(ddTear, one, 0))
			wantWorld(t, "torn at 0", none, fallen)
			for _, count := range append([]int{-1, -2, mostTorn + 1, mostTorn + 2, slotSize, slotSize + 1}, farNumbers...) {
				wantRefused(t, "torn nowhere", w, deed(ddTear, one, count), codeIdle)
			}
		}
	}
}

// The slots of one that is fine are torn by one that is not, and the other way round.
func TestTearDeedTurnsFine(t *testing.T) {
	for flags := range 6 {
		w := turnedNode(worldPlainly(), 1, func(m *impl.Meta) { m.Fine, m.Old, m.Held = flags%2 == 1, flags/2 == 1, flags/2 == 2 })
		got, _ := wantDoPlainly(t, "each meta", w, deed(ddTear, 1, mostTorn))
		m := cloneMeta(w.Nodes[1].Meta)
		m.Fine = !m.Fine
		wantBytes(t, "what is torn", got.Nodes[1].Slots.B, slotPlainly(m, 2)[:mostTorn])
		wantNumber(t, "what is got", got.Nodes[1], 1)
	}
}

func TestGiveDeed(t *testing.T) {
	for id := range 2 {
		mate, w := 1-id, behind(threeWorld(id), deed(ddWrite, id, 3))
		one := wantTurned(t, "a write to its mate", w, deed(ddGive, 0, 0), func(w *impl.World) {
			w.Nodes[mate], _ = hearPlainly(w.Nodes[mate], id, sayData(3, 1))
			w.Net = []impl.Wire{w.Net[1], wirePlainly(mate, id, sayAck(3, 1))}
		})
		wantList(t, "what its mate has", one.Nodes[mate].Image, 0, 0, 0, 1, 0, 0, 0, 0)
		two := wantTurned(t, "a write to the one far away", w, deed(ddGive, 1, 0), func(w *impl.World) {
			w.Nodes[2], _ = hearPlainly(w.Nodes[2], id, sayData(3, 1))
			w.Net = []impl.Wire{w.Net[0], wirePlainly(2, id, sayAck(3, 1))}
		})
		wantList(t, "nothing is safe yet", two.Safe)
		safe := wantTurned(t, "an ack of its mate", one, deed(ddGive, 1, 0), func(w *impl.World) {
			w.Nodes[id], _ = hearPlainly(w.Nodes[id], mate, sayAck(3, 1))
			w.Net = []impl.Wire{w.Net[0], wirePlainly(id, 2, sayClear(3, 1, mate))}
			w.Safe = []int{1}
		})
		wantList(t, "nothing waits", safe.Nodes[id].Wait)
		far := wantTurned(t, "an ack of the one far away", two, deed(ddGive, 1, 0), func(w *impl.World) {
			w.Nodes[id], _ = hearPlainly(w.Nodes[id], 2, sayAck(3, 1))
			w.Net = []impl.Wire{w.Net[0], wirePlainly(id, mate, sayClear(3, 1, 2))}
		})
		wantList(t, "it waits for its mate", far.Nodes[id].Wait, 1)
	}
}

// Whichever wire of a line is named, the first one of that line is given; the other lines, and the other way, are of no weight.
func TestGiveDeedOfTheFirstOnALine(t *testing.T) {
	for id := range 2 {
		mate, w := 1-id, threeWorld(id)
		w = logged(w, 9)
		for val := 1; val <= 3; val++ {
			w = withWord(withWord(withWord(w, 2, id, sayAck(val, 0)), id, 2, sayCopy(val, val+3)), id, mate, sayCopy(val, val))
		}
		for at, wire := range w.Net {
			got, _ := wantDoPlainly(t, "one of three", w, deed(ddGive, at, 0))
			first := []int{2, 1, 0}[indexOfLine(wire, id)]
			if alikeWires(got.Net[first], w.Net[first]) || len(got.Net) < len(w.Net)-1 {
				t.Errorf("of %v wire %d is given, and there is %v", w.Net, at, got.Net)
			}
			if wire.To == mate {
				wantList(t, "the first one is heard", got.Nodes[mate].Image, 0, 1, 0, 0, 0, 0, 0, 0)
			}
			if wire.To == 2 {
				wantList(t, "the first one is heard, far", got.Nodes[2].Image, 0, 4, 0, 0, 0, 0, 0, 0)
			}
		}
	}
}

func indexOfLine(wire impl.Wire, id int) int {
	switch {
	case wire.To == 2:
		return 1
	case wire.From == 2:
		return 2
	}
	return 0
}

// noWords are bytes that tell no message on that line.
func noWords(from int, to int) [][]byte {
	m, more := sayData(3, 1), sayDone(0, 1)
	whole := wirePlainly(from, to, m).Bytes
	list := [][]byte{nil, {}, {0}, {5}, many(0, 10), many(255, 30), many(7, mostWire), append(slices.Clone(whole), 0), append(slices.Clone(whole), whole...), append([]byte{0}, whole...)}
	for size := range whole {
		list = append(list, whole[:size], whole[size+1:])
	}
	for at := range whole {
		b := slices.Clone(whole)
		b[at] ^= 1
		list = append(list, b)
	}
	two := joined(framePlainly(m), framePlainly(more))
	if from < 2 && to < 2 {
		return append(list, squeezePlainly(framePlainly(m)), two, squeezePlainly(two))
	}
	return append(list, framePlainly(m), squeezePlainly(two), escapedPlainly(joined(framePlainly(m), framePlainly(m))), squeezePlainly(many(9, 1000)))
}

func TestGiveDeedOfWhatIsNoMessage(t *testing.T) {
	for id := range 2 {
		for _, two := range [][]int{{id, 1 - id}, {1 - id, id}, {id, 2}, {2, id}} {
			w := behind(threeWorld(id), deed(ddWrite, id, 3), deed(ddWrite, id, 5))
			cut := behind(w, deed(ddCut, two[0], two[1]))
			for _, b := range noWords(two[0], two[1]) {
				if len(b) > mostWire {
					continue
				}
				alone := withWire(worldWith(w, func(w *impl.World) { w.Net = nil }), two[0], two[1], b)
				got, _ := wantDoPlainly(t, "no message alone", alone, deed(ddGive, 0, 0))
				if got.Nodes[two[0]].Conn[two[1]] || got.Nodes[two[1]].Conn[two[0]] || len(got.Net) > 0 {
					t.Errorf("%v is given on the line of %v, and there is %v", b, two, got)
				}
				first := worldWith(w, func(w *impl.World) { w.Net = append([]impl.Wire{{From: two[0], To: two[1], Bytes: b}}, w.Net...) })
				wantDo(t, "no message ahead of others", first, deed(ddGive, 0, 0), cut, codeDone)
			}
		}
	}
}

// A message that is not heard is gone, and that is all.
func TestGiveDeedOfWhatIsNotHeard(t *testing.T) {
	for id := range 2 {
		w := wrote(threeWorld(id), id, 3)
		for _, two := range [][]int{{id, 1 - id}, {1 - id, id}, {id, 2}, {2, id}} {
			for _, m := range []impl.Msg{sayDone(0), sayDone(1), sayClear(3, 1, two[1]), sayClear(4, 1, two[0])} {
				wantDo(t, "it is not heard", withWord(w, two[0], two[1], m), deed(ddGive, 0, 0), w, codeDone)
			}
		}
	}
}

// What is given makes room for the answer, so where there are the most that there can be no line is cut.
func TestGiveDeedWhereThereAreTheMost(t *testing.T) {
	for id := range 2 {
		for _, count := range []int{mostNet - 2, mostNet - 1} {
			for _, two := range [][]int{{id, 1 - id}, {1 - id, id}, {id, 2}, {2, id}} {
				w := logged(threeWorld(id), 1)
				w = laid(withWord(w, two[0], two[1], sayData(3, 1)), count, id, 2)
				got, _ := wantDoPlainly(t, "a write among many", w, deed(ddGive, 0, 0))
				if len(got.Net) != count+1 || !alikeWires(got.Net[count], wirePlainly(two[1], two[0], sayAck(3, 1))) {
					t.Errorf("%d are on their way, and then %d", count+1, len(got.Net))
				}
			}
			w := laid(withWord(wrote(threeWorld(id), id, 3), 1-id, id, sayAck(3, 1)), count, id, 1-id)
			got, _ := wantDoPlainly(t, "an ack among many", w, deed(ddGive, 0, 0))
			if len(got.Net) != count+1 || !alikeWires(got.Net[count], wirePlainly(id, 2, sayClear(3, 1, 1-id))) {
				t.Errorf("%d are on their way, and then %v", count+1, got.Net)
			}
		}
	}
}

// Only what waited and waits no more is safe, once, whatever the order.
func TestGiveDeedMakesSafe(t *testing.T) {
	for id := range 2 {
		w := logged(pairWorld(id), 9)
		for _, wait := range [][]int{{5}, {2, 5, 7}, {1, 5}, {5, 9}} {
			for _, safe := range [][]int{nil, {5}, {1, 9}, {1, 5, 9}, {8}, gensFrom(1, 9)} {
				waits := worldWith(w, func(w *impl.World) {
					w.Nodes[id].Wait, w.Safe = slices.Clone(wait), slices.Clone(safe)
				})
				want := slices.Clone(safe)
				if !slices.Contains(want, 5) {
					want = append(want, 5)
					slices.Sort(want)
				}
				got, _ := wantDoPlainly(t, "one waits no more", withWord(waits, 1-id, id, sayAck(3, 5)), deed(ddGive, 0, 0))
				wantList(t, "safe", got.Safe, want...)
				for _, val := range []int{0, 3, 4, 6} {
					got, _ = wantDoPlainly(t, "it waits for another one", withWord(waits, 1-id, id, sayAck(3, val)), deed(ddGive, 0, 0))
					wantList(t, "safe, of another one", got.Safe, safe...)
				}
				got, _ = wantDoPlainly(t, "no message", withWire(waits, 1-id, id, []byte{5, 2}), deed(ddGive, 0, 0))
				wantList(t, "safe, of no message", got.Safe, safe...)
			}
		}
		far := worldWith(logged(threeWorld(id), 9), func(w *impl.World) { w.Nodes[id].Wait = []int{5} })
		got, _ := wantDoPlainly(t, "the one far away has it", withWord(far, 2, id, sayAck(3, 5)), deed(ddGive, 0, 0))
		wantList(t, "safe, far", got.Safe)
	}
}

func TestSpoilDeed(t *testing.T) {
	for id := range 2 {
		w := behind(threeWorld(id), deed(ddWrite, id, 3), deed(ddWrite, id, 5))
		for at := range w.Net {
			got := w
			for size := len(w.Net[at].Bytes); size > 0; size-- {
				got = wantTurned(t, "its last byte", got, deed(ddSpoil, at, 0), func(w *impl.World) { w.Net[at].Bytes = w.Net[at].Bytes[:size-1] })
			}
			wantRefused(t, "no byte", got, deed(ddSpoil, at, 0), codeIdle)
			if isFirst := at < 2; isFirst {
				wantDo(t, "no byte is given", got, deed(ddGive, at, 0), behind(w, deed(ddCut, id, got.Net[at].To)), codeDone)
			}
		}
		one := withWire(w, id, 2, []byte{9})
		wantTurned(t, "one byte", one, deed(ddSpoil, 4, 0), func(w *impl.World) { w.Net[4].Bytes = nil })
		full := withWire(w, id, 2, many(9, mostWire))
		wantTurned(t, "the most bytes", full, deed(ddSpoil, 4, 0), func(w *impl.World) { w.Net[4].Bytes = many(9, mostWire-1) })
	}
}

func TestCopyDeed(t *testing.T) {
	for id := range 2 {
		mate := 1 - id
		w := behind(aloneWorld(id), deed(ddWrite, id, 3), deed(ddWrite, id, 5), deed(ddJoin, id, mate), deed(ddJoin, id, 2))
		for _, to := range []int{mate, 2} {
			got := w
			for _, m := range []impl.Msg{sayCopy(3, 1), sayCopy(5, 2), sayDone(2, 2, 1)} {
				got = wantTurned(t, "cell by cell", got, deed(ddCopy, id, to), func(w *impl.World) {
					w.Nodes[id], _ = copyPlainly(w.Nodes[id], to)
					w.Net = append(w.Net, wirePlainly(id, to, m))
				})
			}
			wantRefused(t, "all is copied", got, deed(ddCopy, id, to), codeIdle)
			wantRefused(t, "the other one does not copy", w, deed(ddCopy, to, id), codeIdle)
			for _, count := range []int{mostNet - 2, mostNet - 1} {
				wantDoPlainly(t, "there is room", laid(w, count, id, mate), deed(ddCopy, id, to))
			}
			wantRefused(t, "there is no room", laid(w, mostNet, id, mate), deed(ddCopy, id, to), codeFull)
			wantRefused(t, "there is no room, and it does not copy", laid(w, mostNet, id, mate), deed(ddCopy, to, id), codeIdle)
		}
		held := behind(w, deed(ddCopy, id, mate), deed(ddCopy, id, mate), deed(ddCopy, id, mate))
		if held.Nodes[id].Meta.Held || !w.Nodes[id].Meta.Held {
			t.Error("who has copied all to its mate holds it")
		}
	}
	for _, two := range pairAndFar {
		wantRefused(t, "nobody copies", worldPlainly(), deed(ddCopy, two.id, two.from), codeIdle)
	}
}

func TestHoldDeed(t *testing.T) {
	for id := range 2 {
		w := wrote(pairWorld(id), id, 3)
		w = behind(w, deed(ddWrite, id, 5), deed(ddWrite, id, 6), deed(ddCut, id, 1-id))
		got := wantTurned(t, "what waited is safe", w, deed(ddHold, id, 0), func(w *impl.World) {
			w.Nodes[id], w.Nodes[1-id], _ = holdPlainly(w.Nodes[id], w.Nodes[1-id], 2)
			w.Safe, w.Gen = []int{1, 2, 3}, 3
		})
		wantList(t, "its generations", got.Nodes[id].Meta.Gens, 2, 1)
		wantRefused(t, "once more", got, deed(ddHold, id, 0), codeIdle)
		wantRefused(t, "it is held for old", got, deed(ddHold, 1-id, 0), codeIdle)
		for why, w := range map[string]impl.World{
			"they hear each other":    pairWorld(id),
			"its mate leads":          pairWorld(1 - id),
			"its mate leads, apart":   behind(pairWorld(1-id), deed(ddCut, id, 1-id)),
			"it is down":              behind(worldPlainly(), deed(ddFall, id, 0)),
			"it is not fine":          turnedNode(worldPlainly(), id, func(m *impl.Meta) { m.Fine = false }),
			"it is old":               turnedNode(worldPlainly(), id, func(m *impl.Meta) { m.Old = true }),
			"its Gens have it":        turnedNode(worldPlainly(), id, func(m *impl.Meta) { m.Gens = []int{3, 2, 1} }),
			"its Gens have the last":  worldWith(turnedNode(worldPlainly(), id, func(m *impl.Meta) { m.Gens = []int{mostGen} }), func(w *impl.World) { w.Gen = mostGen }),
			"they joined, none leads": behind(worldPlainly(), deed(ddJoin, 0, 1)),
		} {
			wantRefused(t, why, w, deed(ddHold, id, 0), codeIdle)
		}
		for why, w := range goodWorlds() {
			wantRefused(t, why+", no mate", w, deed(ddHold, 2, 0), codeIdle)
		}
	}
}

func TestHoldDeedOfEachGen(t *testing.T) {
	gens := append(gensFrom(2, 300), gensFrom(mostGen-100, 101)...)
	for _, gen := range append(gens, 16383, 16384, 65535, 65536) {
		w := worldWith(worldPlainly(), func(w *impl.World) { w.Gen = gen })
		if gen == mostGen {
			wantRefused(t, "the greatest Gen", w, deed(ddHold, 0, 0), codeFull)
			wantRefused(t, "the greatest Gen, far", w, deed(ddHold, 2, 0), codeIdle)
			wantRefused(t, "the greatest Gen, and it is down", behind(w, deed(ddFall, 1, 0)), deed(ddHold, 1, 0), codeIdle)
			continue
		}
		got, _ := wantDoPlainly(t, "each Gen", w, deed(ddHold, 0, 0))
		if got.Gen != gen+1 || !slices.Equal(got.Nodes[0].Meta.Gens, []int{gen, 1}) {
			t.Errorf("it holds with %d, and there is %d, %v", gen, got.Gen, got.Nodes[0].Meta)
		}
	}
	w := worldWith(worldPlainly(), func(w *impl.World) { w.Gen = mostGen - 3 })
	for range 3 {
		w, _ = wantDoPlainly(t, "up to the greatest", w, deed(ddHold, 0, 0))
		w = settled(behind(w, deed(ddJoin, 0, 1), deed(ddCopy, 0, 1)))
		w = behind(w, deed(ddCut, 0, 1))
	}
	wantRefused(t, "behind the greatest", w, deed(ddHold, 0, 0), codeFull)
}

func TestLeadDeed(t *testing.T) {
	for id := range 2 {
		mate, w := 1-id, settled(behind(worldPlainly(), deed(ddJoin, 0, 1), deed(ddCopy, 0, 1)))
		led := wantTurned(t, "together", w, deed(ddLead, id, 0), func(w *impl.World) { w.Nodes[id].Prime = true })
		wantRefused(t, "once more", led, deed(ddLead, id, 0), codeIdle)
		wantRefused(t, "its mate leads", led, deed(ddLead, mate, 0), codeIdle)
		wantRefused(t, "something is on its way to it", laid(w, 1, mate, id), deed(ddLead, id, 0), codeIdle)
		wantRefused(t, "something is on its way from it", laid(w, 1, id, mate), deed(ddLead, id, 0), codeIdle)
		wantRefused(t, "nothing, but on its way", withWire(w, id, mate, nil), deed(ddLead, id, 0), codeIdle)
		for _, one := range []int{id, mate} {
			far := linked(w, one, 2)
			wantDoPlainly(t, "only far away", laid(laid(far, 3, one, 2), 2, 2, one), deed(ddLead, id, 0))
			wantTurned(t, "only far away", laid(laid(far, 3, one, 2), 2, 2, one), deed(ddLead, id, 0), func(w *impl.World) { w.Nodes[id].Prime = true })
		}
		wantRefused(t, "they do not hear each other", worldPlainly(), deed(ddLead, id, 0), codeIdle)
		wantRefused(t, "one copies", behind(worldPlainly(), deed(ddJoin, 0, 1)), deed(ddLead, id, 0), codeIdle)
		held := behind(worldPlainly(), deed(ddHold, id, 0))
		wantTurned(t, "alone", held, deed(ddLead, id, 0), func(w *impl.World) { w.Nodes[id].Prime = true })
		wantTurned(t, "held, and something is on its way", laid(linked(held, 0, 1), 2, 0, 1), deed(ddLead, id, 0), func(w *impl.World) { w.Nodes[id].Prime = true })
		wantRefused(t, "it is old", held, deed(ddLead, mate, 0), codeIdle)
		left := wantTurned(t, "it leaves", led, deed(ddLeave, id, 0), func(w *impl.World) { w.Nodes[id].Prime = false })
		wantRefused(t, "it has left", left, deed(ddLeave, id, 0), codeIdle)
		wantRefused(t, "its mate leads", led, deed(ddLeave, mate, 0), codeIdle)
	}
	for why, w := range goodWorlds() {
		wantRefused(t, why+", no mate", w, deed(ddLead, 2, 0), codeIdle)
		wantRefused(t, why+", no mate", w, deed(ddLeave, 2, 0), codeIdle)
	}
}

// What waits while one leaves is not told safe.
func TestLeaveDeedMakesNothingSafe(t *testing.T) {
	for id := range 2 {
		w := behind(wrote(pairWorld(id), id, 3), deed(ddWrite, id, 5), deed(ddWrite, id, 6))
		got := wantTurned(t, "two wait", w, deed(ddLeave, id, 0), func(w *impl.World) { w.Nodes[id].Prime, w.Nodes[id].Wait = false, nil })
		wantList(t, "safe", got.Safe, 1)
		wantList(t, "safe, all given", settled(got).Safe, 1)
		fallen := behind(w, deed(ddFall, id, 0))
		wantList(t, "safe, fallen", fallen.Safe, 1)
	}
}

func TestDoWhereItWouldNotBeAWorld(t *testing.T) {
	for id := range 2 {
		mate, w := 1-id, wrote(threeWorld(id), id, 3, 5)
		for _, m := range []impl.Msg{sayData(3, 3), sayData(7, mostWrites), sayCopy(0, 3), sayCopy(3, mostWrites), sayDone(3, 1), sayDone(mostWrites, 2, 1)} {
			for _, two := range [][]int{{id, mate}, {mate, id}, {id, 2}, {2, id}} {
				full := withWord(withWord(w, two[0], two[1], m), two[0], two[1], sayAck(0, 0))
				wantRefused(t, "a write that is none of Log", full, deed(ddGive, 0, 0), codeFull)
				wantRefused(t, "a write that is none of Log, by the one behind", full, deed(ddGive, 1, 0), codeFull)
			}
		}
		waits := worldWith(w, func(w *impl.World) { w.Nodes[id].Wait = []int{2, 3} })
		wantRefused(t, "what waited is none of Log", withWord(waits, mate, id, sayAck(4, 3)), deed(ddGive, 0, 0), codeFull)
		wantDoPlainly(t, "another one waited, too", withWord(waits, mate, id, sayAck(4, 2)), deed(ddGive, 0, 0))
		wantRefused(t, "what waited is none of Log", behind(waits, deed(ddCut, 0, 1)), deed(ddHold, id, 0), codeFull)
	}
}

// A slot made by hand that ends with the very number that comes next is whole where it is torn, and tells another meta then.
func TestTearDeedThatMakesASlotWhole(t *testing.T) {
	w := worldWith(worldPlainly(), func(w *impl.World) {
		w.Nodes[1].Slots.B = append(many(0, endPlace), 2, 0, 0, 0)
	})
	wantWorldOk(t, "by hand", w, true)
	wantRefused(t, "torn, and whole", w, deed(ddTear, 1, mostTorn), codeFull)
	wantDoPlainly(t, "torn, and not whole", w, deed(ddTear, 1, 3))
}

// What a node cannot keep any more is told as full, and turns nothing: else a write would be told safe that nobody has.
func TestDoBehindTheLastNumber(t *testing.T) {
	last := func(w impl.World, id int) impl.World {
		return worldWith(w, func(w *impl.World) { w.Nodes[id] = numbered(w.Nodes[id], mostSeq) })
	}
	for id := range 2 {
		mate := 1 - id
		for _, w := range []impl.World{aloneWorld(id), pairWorld(id), threeWorld(id)} {
			wantRefused(t, "a write", last(w, id), deed(ddWrite, id, 3), codeFull)
			wantDoPlainly(t, "a write at its mate", last(w, mate), deed(ddWrite, id, 3))
			wantDoPlainly(t, "a tear", last(w, id), deed(ddTear, id, 9))
		}
		w := behind(aloneWorld(id), deed(ddWrite, id, 3), deed(ddWrite, id, 5))
		for _, other := range []int{mate, 2} {
			wantRefused(t, "a join", last(w, other), deed(ddJoin, id, other), codeFull)
			wantRefused(t, "a join", last(w, other), deed(ddJoin, other, id), codeFull)
		}
		held := behind(w, deed(ddJoin, id, mate), deed(ddCopy, id, mate), deed(ddCopy, id, mate))
		wantRefused(t, "the end of a copy", last(held, id), deed(ddCopy, id, mate), codeFull)
		wantRefused(t, "a hold", last(worldPlainly(), id), deed(ddHold, id, 0), codeIdle)
		wantRefused(t, "a hold", last(worldPlainly(), mate), deed(ddHold, id, 0), codeIdle)
		given := behind(pairWorld(id), deed(ddWrite, id, 3))
		got, _ := wantDoPlainly(t, "what is heard", last(given, mate), deed(ddGive, 0, 0))
		if len(got.Net) > 0 || got.Nodes[mate].Image[3] > 0 {
			t.Errorf("what is heard and not kept leaves %v", got)
		}
		waits := worldWith(logged(pairWorld(id), 3), func(w *impl.World) { w.Nodes[id].Wait = []int{9} })
		wantRefused(t, "a write below one that waits", waits, deed(ddWrite, id, 3), codeFull)
	}
}

// deedsToDo are deeds of each kind, at nodes, wires and cells, and at such as are none.
func deedsToDo() []impl.Deed {
	var list []impl.Deed
	for kind := range 14 {
		for _, a := range []int{-1, 0, 1, 2, 3, 39, 40} {
			for _, b := range []int{-1, 0, 1, 2, 7, 8, 155, 156} {
				list = append(list, deed(kind, a, b))
			}
		}
	}
	return list
}

func TestDoAgainstPlainOne(t *testing.T) {
	done := map[int]int{}
	for why, w := range goodWorlds() {
		for _, d := range deedsToDo() {
			want, code := doPlainly(w, d)
			got, told := impl.Do(w, d)
			if told != code || !alikeWorlds(got, want) {
				t.Errorf("%s: %v of %v tells %v, %d, not %v, %d", why, d, w, got, told, want, code)
			}
			if code == codeDone {
				done[d.Kind]++
			}
		}
	}
	for kind := ddWrite; kind <= ddLeave; kind++ {
		if done[kind] == 0 {
			t.Errorf("kind %d was never done", kind)
		}
	}
}

// A history is a world to which this and that is done, and what its nodes wrote since they lead.
type history struct {
	t      *testing.T
	source *rand.Rand
	world  impl.World
	wrote  [nodeCount]map[int]int
	codes  map[impl.Deed]int
}

func newHistory(t *testing.T, seed int64) *history {
	h := &history{t: t, source: rand.New(rand.NewSource(seed)), world: impl.WorldNew(), codes: map[impl.Deed]int{}}
	for id := range h.wrote {
		h.wrote[id] = map[int]int{}
	}
	return h
}

// does asks for the same of Do as of the plain form, and for what the chapter promises.
func (h *history) does(d impl.Deed) {
	h.t.Helper()
	got, code := wantDoPlainly(h.t, "in a history", h.world, d)
	h.codes[deed(d.Kind, code, 0)]++
	if code == codeBad {
		return
	}
	h.world = got
	if code == codeDone && d.Kind == ddWrite {
		h.wrote[d.A][d.B] = len(got.Log)
	}
	for id, n := range got.Nodes {
		if !n.Prime {
			clear(h.wrote[id])
		}
		for at, val := range h.wrote[id] {
			if read, code := impl.Read(got, id, at); read != val || code != codeDone {
				h.t.Errorf("behind %v node %d reads %d, %d from cell %d, where it wrote %d", d, id, read, code, at, val)
			}
		}
	}
}

// deedByChance is one that may well be done, or whatever it is; at most so many of a hundred are breaks.
func (h *history) deedByChance(breaks int) impl.Deed {
	a, b := h.source.Intn(nodeCount), h.source.Intn(nodeCount)
	switch one := h.source.Intn(100); {
	case one < breaks:
		kind := []int{ddCut, ddFall, ddTear, ddSpoil, ddLeave, ddHold, ddRise}[h.source.Intn(7)]
		if kind == ddTear {
			b = h.source.Intn(mostTorn + 3)
		}
		if kind == ddSpoil {
			a = h.source.Intn(len(h.world.Net) + 1)
		}
		return deed(kind, a, b)
	case one < breaks+5:
		return deed(h.source.Intn(15)-1, h.source.Intn(6)-1, h.source.Intn(11)-1)
	case one < breaks+15:
		return deed(ddJoin, a, b)
	case one < breaks+20:
		return deed(ddRise, a, 0)
	case one < breaks+28:
		return deed(ddLead, h.source.Intn(2), 0)
	case one < breaks+45:
		return deed(ddWrite, h.source.Intn(2), h.source.Intn(cellCount))
	case one < breaks+60:
		return deed(ddCopy, a, b)
	}
	return deed(ddGive, h.source.Intn(len(h.world.Net)+1), 0)
}

func TestWhatIsRefusedTurnsNothingAndWhoWritesReads(t *testing.T) {
	codes := map[impl.Deed]int{}
	for seed := range int64(48) {
		h := newHistory(t, 1200+seed)
		for range 800 {
			h.does(h.deedByChance([]int{1, 3, 8, 25}[seed%4]))
		}
		for what, count := range h.codes {
			codes[what] += count
		}
	}
	for kind := ddWrite; kind <= ddLeave; kind++ {
		for _, code := range []int{codeDone, codeNone, codeIdle} {
			isNever := code == codeIdle && (kind == ddGive || kind == ddSpoil)
			if codes[deed(kind, code, 0)] == 0 && !isNever {
				t.Errorf("of kind %d code %d was never told", kind, code)
			}
		}
	}
	for _, kind := range []int{ddWrite, ddJoin, ddCopy, ddGive} {
		if codes[deed(kind, codeDone, 0)] < 200 {
			t.Errorf("kind %d was done only %d times", kind, codes[deed(kind, codeDone, 0)])
		}
	}
}

// Where hardly anything is given, lines are full: then the one far away is cut off, and behind that nothing is written.
func TestHistoriesOfFullLines(t *testing.T) {
	full, cut := 0, 0
	for seed := range int64(6) {
		h, id := newHistory(t, 1300+seed), int(seed%2)
		h.world = threeWorld(id)
		for range 400 {
			heard, wires := h.world.Nodes[2].Conn[id], len(h.world.Net)
			d := []impl.Deed{deed(ddJoin, id, 2), deed(ddCopy, id, 2), deed(ddGive, h.source.Intn(wires+1), 0), deed(ddSpoil, wires-1, 0)}[h.source.Intn(4)]
			if h.source.Intn(4) > 0 {
				d = deed(ddWrite, id, h.source.Intn(cellCount))
			}
			h.does(d)
			if d.Kind == ddWrite && heard && !h.world.Nodes[2].Conn[id] {
				cut++
			}
		}
		full += h.codes[deed(ddWrite, codeFull, 0)]
	}
	if full < 20 || cut < 6 {
		t.Errorf("of writes %d were full, and %d cut the one far away off", full, cut)
	}
}

// Words by chance, and bytes that are none, come into worlds that are made by hand.
func TestHistoriesOfWhateverIsGiven(t *testing.T) {
	words := wordsToHear()
	for seed := range int64(12) {
		h := newHistory(t, 1400+seed)
		h.world = logged(threeWorld(int(seed%2)), int(seed)*18)
		for range 300 {
			two := pairAndFar[h.source.Intn(len(pairAndFar))]
			if h.world.Nodes[two.id].Conn[two.from] && len(h.world.Net) < mostNet {
				wire := wirePlainly(two.id, two.from, words[h.source.Intn(len(words))])
				if h.source.Intn(9) == 0 {
					wire.Bytes = bytesByChance(h.source, h.source.Intn(30))
				}
				h.world = withWire(h.world, wire.From, wire.To, wire.Bytes)
			}
			for id := range h.wrote {
				clear(h.wrote[id])
			}
			h.does(h.deedByChance(5))
			if code := h.codes[deed(ddGive, codeFull, 0)]; code > 0 && len(h.world.Net) > mostNet/2 {
				h.world = behind(h.world, deed(ddFall, 0, 0), deed(ddRise, 0, 0))
			}
		}
	}
}

func wantDoAll(t *testing.T, why string, w impl.World, list []impl.Deed, want impl.World, codes ...int) {
	t.Helper()
	got, told := impl.DoAll(w, list)
	wantList(t, why+": DoAll", told, codes...)
	wantWorld(t, why+": DoAll", got, want)
}

func doAllPlainly(w impl.World, list []impl.Deed) (impl.World, []int) {
	var codes []int
	if !worldOkPlainly(w) || len(list) > mostDeeds {
		return w, codes
	}
	for _, d := range list {
		now, code := doPlainly(w, d)
		if code == codeDone {
			w = now
		}
		codes = append(codes, code)
	}
	return w, codes
}

func TestDoAll(t *testing.T) {
	list := []impl.Deed{deed(ddWrite, 0, 3), deed(0, 0, 0), deed(ddHold, 0, 0), deed(ddLead, 1, 0), deed(ddLead, 0, 0), deed(ddWrite, 0, 3), deed(ddGive, 0, 0), deed(99, 0, 0), deed(ddWrite, 0, 8), deed(ddWrite, 0, 5), deed(ddHold, 0, 0), deed(ddFall, 3, 0)}
	w := behind(worldPlainly(), deed(ddHold, 0, 0), deed(ddLead, 0, 0), deed(ddWrite, 0, 3), deed(ddWrite, 0, 5))
	wantDoAll(t, "refused among others", worldPlainly(), list, w, 3, 1, 0, 3, 0, 0, 2, 1, 2, 0, 3, 2)
	for why, w := range goodWorlds() {
		wantDoAll(t, why+", no deeds", w, nil, w)
		wantDoAll(t, why+", no deeds", w, []impl.Deed{}, w)
		want, codes := doAllPlainly(w, list)
		wantDoAll(t, why, w, list, want, codes...)
	}
}

func TestDoAllOfTheMostDeeds(t *testing.T) {
	w := worldPlainly()
	var list []impl.Deed
	for n := range mostDeeds / 2 {
		list = append(list, deed(ddFall, n%nodeCount, 0), deed(ddRise, n%nodeCount, 0))
	}
	wantDoAll(t, "the most deeds", w, list, w, make([]int, mostDeeds)...)
	wantDoAll(t, "all but one", w, list[1:], w, append([]int{codeIdle}, make([]int, mostDeeds-2)...)...)
	wantDoAll(t, "one more", w, append(list, deed(ddFall, 0, 0)), w)
	wantDoAll(t, "one more, none", w, append(list, impl.Deed{}), w)
	wantDoAll(t, "far more", w, slices.Repeat(list, 50), w)
	none := slices.Repeat([]impl.Deed{{}}, mostDeeds)
	wantDoAll(t, "the most that are none", w, none, w, slices.Repeat([]int{codeBad}, mostDeeds)...)
	writes := append([]impl.Deed{deed(ddHold, 0, 0), deed(ddLead, 0, 0)}, slices.Repeat([]impl.Deed{deed(ddWrite, 0, 3)}, mostWrites+3)...)
	full, codes := impl.DoAll(w, writes)
	if len(full.Log) != mostWrites || len(full.Safe) != mostWrites || codes[mostWrites+1] != codeDone || codes[mostWrites+2] != codeFull {
		t.Errorf("of more writes than there can be %d are done", len(full.Log))
	}
}

func TestDoAllOfAWorldThatIsNone(t *testing.T) {
	for why, w := range wrongWorlds() {
		wantDoAll(t, why, w, nil, w)
		wantDoAll(t, why, w, []impl.Deed{deed(ddHold, 0, 0), deed(0, 0, 0)}, w)
		wantDoAll(t, why, w, make([]impl.Deed, mostDeeds+1), w)
	}
}

// All that is told of a world, one deed behind the other, is told at once.
func TestDoAllIsDoOneBehindTheOther(t *testing.T) {
	for seed := range int64(8) {
		h := newHistory(t, 1500+seed)
		var list []impl.Deed
		var codes []int
		w := impl.WorldNew()
		for range mostDeeds {
			d := h.deedByChance(6)
			now, code := impl.Do(w, d)
			if code == codeDone {
				w, h.world = now, now
			}
			list, codes = append(list, d), append(codes, code)
		}
		wantDoAll(t, "by chance", impl.WorldNew(), list, w, codes...)
	}
}

func roomyWorld(w impl.World) impl.World {
	w.Nodes = roomy(each(w.Nodes, roomyNode), impl.Node{}, impl.Node{Id: 9})
	w.Net = roomy(each(w.Net, func(wire impl.Wire) impl.Wire {
		wire.Bytes = roomy(wire.Bytes, many(83, 9)...)
		return wire
	}), impl.Wire{From: 7, To: 7}, impl.Wire{From: -1})
	w.Log = roomy(w.Log, impl.Rec{Cell: 9, Up: 900}, impl.Rec{Cell: -1})
	w.Safe = roomy(w.Safe, 901, 0)
	return w
}

// worldAsks are the functions of the chapter, each told as what it answers.
func worldAsks(deeds []impl.Deed) map[string]func(w impl.World) any {
	asks := map[string]func(w impl.World) any{
		"WorldOk": func(w impl.World) any { return impl.WorldOk(w) },
		"Chain":   func(w impl.World) any { return impl.Chain(w, len(w.Log)) },
		"Replay":  func(w impl.World) any { return impl.Replay(w, w.Safe) },
		"Read": func(w impl.World) any {
			val, code := impl.Read(w, 0, 3)
			return []int{val, code}
		},
		"DoAll": func(w impl.World) any {
			out, codes := impl.DoAll(w, deeds)
			return answer{out, codes}
		},
		"DoAll of too many": func(w impl.World) any {
			out, codes := impl.DoAll(w, make([]impl.Deed, mostDeeds+1))
			return answer{out, codes}
		},
	}
	for _, d := range deeds {
		asks[fmt.Sprint("Do ", d)] = func(w impl.World) any {
			out, code := impl.Do(w, d)
			return answer{out, []int{code}}
		}
	}
	return asks
}

type answer struct {
	World impl.World
	Codes []int
}

func someDeeds() []impl.Deed {
	var list []impl.Deed
	for kind := range 14 {
		list = append(list, deed(kind, 0, 1), deed(kind, 1, 2), deed(kind, 2, 0), deed(kind, 0, 2), deed(kind, 3, 8))
	}
	return list
}

// worldsToAsk are worlds of each kind, some of them wrong.
func worldsToAsk() map[string]impl.World {
	list := goodWorlds()
	i := 0
	for why, w := range wrongWorlds() {
		if i%15 == 0 {
			list[why] = w
		}
		i++
	}
	list["made by hand"] = lineage()
	return list
}

func TestWorldsAreNotWrittenInto(t *testing.T) {
	deeds := roomy(someDeeds(), deed(99, 99, 99))
	said := roomText(reflect.ValueOf(deeds))
	for why, w := range worldsToAsk() {
		given := roomyWorld(w)
		was := roomText(reflect.ValueOf(given))
		for what, ask := range worldAsks(deeds) {
			ask(given)
			if now := roomText(reflect.ValueOf(given)); now != was {
				t.Fatalf("%s, %s: %s was changed to %s", why, what, was, now)
			}
		}
		list := roomy(w.Safe, 71, 72)
		safe := roomText(reflect.ValueOf(list))
		impl.Replay(given, list)
		if roomText(reflect.ValueOf(list)) != safe {
			t.Errorf("Replay of %v writes into it", w.Safe)
		}
	}
	if roomText(reflect.ValueOf(deeds)) != said {
		t.Errorf("deeds were changed to %v", deeds)
	}
}

func TestWorldsTellNewMemory(t *testing.T) {
	deeds := someDeeds()
	for why, w := range worldsToAsk() {
		given := roomyWorld(w)
		for what, ask := range worldAsks(deeds) {
			wantApart(t, why+", "+what, given, deeds, ask(given), ask(given))
		}
	}
}

// sharing is a world of which all nodes, wires and lists share what they can.
func sharing() impl.World {
	shared, none := gensFrom(0, cellCount), []bool{false, false, false}
	known := impl.Meta{Gens: shared[3:4], Bits: [][]int{shared[1:3], shared[1:3], shared[1:3]}, Fine: true, Last: 5}
	b := slotPlainly(known, 4)
	w := logged(impl.World{Gen: 9, Safe: shared[1:5]}, cellCount)
	for id := range nodeCount {
		w.Nodes = append(w.Nodes, impl.Node{
			Id: id, Up: true, Image: shared, Meta: known, Slots: impl.Slots{A: b, B: b}, Conn: none,
			Sync: known.Bits, Copies: none, Wait: shared[2:4],
		})
	}
	for id := range w.Nodes {
		w.Nodes[id].Sync = [][]int{shared[:0], shared[:0], shared[:0]}
	}
	w.Nodes[0].Conn, w.Nodes[1].Conn = []bool{false, true, false}, []bool{true, false, false}
	w.Nodes[0].Prime = true
	for range 3 {
		w.Net = append(w.Net, impl.Wire{From: 0, To: 1, Bytes: b[:30]}, impl.Wire{From: 1, To: 0, Bytes: b[:30]})
	}
	return w
}

func TestWorldsTellListsOfTheirOwn(t *testing.T) {
	w := sharing()
	wantWorldOk(t, "lists that share", w, true)
	was := roomText(reflect.ValueOf(w))
	for what, ask := range worldAsks(someDeeds()) {
		wantApart(t, what, ask(w))
		wantApart(t, what, w.Nodes[0].Image, w.Nodes[0].Slots.A, ask(w))
	}
	if roomText(reflect.ValueOf(w)) != was {
		t.Errorf("lists that share were changed to %v", w)
	}
	wrong := worldWith(w, func(w *impl.World) { w.Gen = 0 })
	wantApart(t, "DoAll of a wrong one", wrong, worldAsks(nil)["DoAll"](wrong))
}

func TestWorldsAreToldTheSameEachTime(t *testing.T) {
	for why, w := range worldsToAsk() {
		for what, ask := range worldAsks(someDeeds()) {
			first := fmt.Sprint(ask(w))
			for range 2 {
				if now := fmt.Sprint(ask(cloneWorld(w))); now != first {
					t.Errorf("%s, %s: %s, and then %s", why, what, first, now)
				}
			}
		}
	}
}

// Many that ask at the same time, of the same world, are told the same; and nothing of it runs on behind an answer.
func TestWorldsAreToldTheSameAtOnce(t *testing.T) {
	w, deeds := richWorld(0), someDeeds()
	want, codes := doAllPlainly(w, deeds)
	var all sync.WaitGroup
	for range 24 {
		all.Add(1)
		go func() {
			defer all.Done()
			for range 5 {
				got, told := impl.DoAll(w, deeds)
				wantList(t, "asked at once", told, codes...)
				wantWorld(t, "asked at once", got, want)
				kept := cloneWorld(got)
				impl.DoAll(got, deeds)
				wantWorld(t, "behind an answer", got, kept)
			}
		}()
	}
	all.Wait()
}

func TestVeryLongWorlds(t *testing.T) {
	long := worldPlainly()
	long.Nodes[1].Image = make([]int, 1<<16)
	for why, turn := range map[string]func(w *impl.World){
		"nodes":   func(w *impl.World) { w.Nodes = slices.Repeat(w.Nodes, 1<<10) },
		"a node":  func(w *impl.World) { w.Nodes[1].Image = make([]int, 1<<16) },
		"wires":   func(w *impl.World) { w.Net = make([]impl.Wire, 1<<16) },
		"bytes":   func(w *impl.World) { w.Net = []impl.Wire{{From: 0, To: 1, Bytes: make([]byte, 1<<20)}} },
		"writes":  func(w *impl.World) { *w = logged(*w, 1<<16) },
		"safe":    func(w *impl.World) { w.Safe = gensFrom(1, 1<<16) },
		"nothing": func(w *impl.World) { w.Nodes = make([]impl.Node, 1<<12) },
	} {
		w := worldWith(worldPlainly(), turn)
		wantWorldOk(t, why, w, false)
		wantDoAll(t, why, w, someDeeds(), w)
		for _, d := range someDeeds() {
			wantRefused(t, why, w, d, codeBad)
		}
	}
	if got := impl.Replay(logged(impl.World{}, 1<<12), gensFrom(0, 1<<14)); !slices.Equal(got, gensFrom(1<<12-7, 8)) {
		t.Errorf("Replay of very many tells %v", got)
	}
}
