package tests

import (
	"math/rand"
	"slices"
	"testing"

	"loop.example/g00399/impl"
)

const (
	gensSame   = 0
	gensFirst  = 1
	gensSecond = 2
	gensSplit  = 3
)

// pushNumbers are such as may be pushed and such as may not, at their edges.
var pushNumbers = append([]int{-2, -1, 0, 1, 2, 50, 61, 62, 99999, 100000, 100001, 100002}, farNumbers...)

// pushPlainly counts what stands at each place of the answer.
func pushPlainly(g []int, n int) []int {
	pushed := []int{n}
	for at := 0; at < len(g) && at < mostGens-1; at++ {
		pushed = append(pushed, g[at])
	}
	if gensPlainly(pushed) {
		return pushed
	}
	return g
}

// newerPlainly asks in the order in which the chapter names them.
func newerPlainly(a []int, b []int) int {
	if len(a)+len(b) == 0 {
		return gensSame
	}
	if len(b) == 0 {
		return gensFirst
	}
	if len(a) == 0 {
		return gensSecond
	}
	inA, inB := slices.Index(a, b[0]), slices.Index(b, a[0])
	switch {
	case inA == 0:
		return gensSame
	case inA > 0:
		return gensFirst
	case inB > 0:
		return gensSecond
	}
	return gensSplit
}

func wantPush(t *testing.T, g []int, n int, want ...int) {
	t.Helper()
	if got := impl.GenPush(g, n); !slices.Equal(got, want) {
		t.Errorf("GenPush of %v and %d tells %v, not %v", g, n, got, want)
	}
}

func wantNewer(t *testing.T, a []int, b []int, want int) {
	t.Helper()
	if got := impl.Newer(a, b); got != want {
		t.Errorf("Newer of %v and %v tells %d, not %d", a, b, got, want)
	}
}

// allGens are all lists of up to three out of a few numbers, wrong ones too.
func allGens() [][]int {
	list, longest := [][]int{nil}, [][]int{nil}
	for range 3 {
		var longer [][]int
		for _, g := range longest {
			for _, n := range []int{0, 1, 2, 3, mostGen + 1} {
				longer = append(longer, append(slices.Clone(g), n))
			}
		}
		list, longest = append(list, longer...), longer
	}
	return list
}

// mixedGens are often alike, often too long, and at times wrong.
func mixedGens(seed int64, count int) [][]int {
	source := rand.New(rand.NewSource(seed))
	var list [][]int
	for range count {
		most := []int{2, 5, 14, 30, mostGen}[source.Intn(5)]
		least := source.Intn(8) / 7
		var g []int
		for _, n := range source.Perm(most)[:min(most, source.Intn(mostGens+6))] {
			g = append(g, n+1-least)
		}
		if len(g) > 1 && source.Intn(3) == 0 {
			g[source.Intn(len(g))] = g[source.Intn(len(g))]
		}
		list = append(list, g)
	}
	return list
}

// gensOfAllKinds are good and wrong ones, and long ones whose wrong part begins where it is left away.
func gensOfAllKinds() [][]int {
	list := slices.Concat(goodGens, badGens)
	for _, tail := range [][]int{{0}, {-1}, {mostGen + 1}, {1}, {mostGens - 1}, {7, 7}, {0, 0, 0}, gensFrom(1, 40)} {
		list = append(list, slices.Concat(gensFrom(1, mostGens-1), tail), slices.Concat(gensFrom(1, mostGens-2), tail))
	}
	return list
}

func wantGensOk(t *testing.T, g []int, want bool) {
	t.Helper()
	if impl.GensOk(g) != want {
		t.Errorf("GensOk of %v is %v", g, !want)
	}
}

func TestGensOk(t *testing.T) {
	for _, g := range goodGens {
		wantGensOk(t, g, true)
	}
	for _, g := range badGens {
		wantGensOk(t, g, false)
	}
}

func TestGensOkAtEachPlace(t *testing.T) {
	for count := 1; count <= mostGens; count++ {
		for at := range count {
			for _, n := range append([]int{-1, 0, 1, 2, 99999, 100000, 100001}, farNumbers...) {
				g := gensFrom(50, count)
				g[at] = n
				wantGensOk(t, g, n >= 1 && n <= mostGen)
			}
			for other := range count {
				g := gensFrom(50, count)
				g[at] = g[other]
				wantGensOk(t, g, at == other)
			}
		}
	}
}

func TestGensOkWritesIntoNoArgument(t *testing.T) {
	for _, g := range slices.Concat(goodGens, badGens) {
		room, given := inRoom(g)
		was := slices.Clone(room)
		impl.GensOk(given)
		if !slices.Equal(room, was) {
			t.Errorf("%v was changed to %v", was, room)
		}
	}
}

func TestGensOkLooksAtNoSpareRoom(t *testing.T) {
	wantGensOk(t, gensFrom(1, mostGens+1)[:mostGens], true)
	wantGensOk(t, []int{3, 3, 0}[:1], true)
}

func TestGenNames(t *testing.T) {
	if impl.GnSame != gensSame || impl.GnFirst != gensFirst || impl.GnSecond != gensSecond || impl.GnSplit != gensSplit {
		t.Error("a name of what is newer stands for another number")
	}
}

func TestGenPush(t *testing.T) {
	wantPush(t, nil, 1, 1)
	wantPush(t, []int{}, mostGen, mostGen)
	wantPush(t, []int{1}, 2, 2, 1)
	wantPush(t, []int{2}, 1, 1, 2)
	wantPush(t, []int{7, 3, 5}, 4, 4, 7, 3, 5)
	wantPush(t, gensFrom(1, 10), 90, 90, 1, 2, 3, 4, 5, 6, 7, 8, 9, 10)
	wantPush(t, gensFrom(1, 11), 90, 90, 1, 2, 3, 4, 5, 6, 7, 8, 9, 10, 11)
	wantPush(t, gensFrom(1, 12), 90, 90, 1, 2, 3, 4, 5, 6, 7, 8, 9, 10, 11)
	wantPush(t, gensFrom(1, 13), 90, 90, 1, 2, 3, 4, 5, 6, 7, 8, 9, 10, 11)
	wantPush(t, gensFrom(1, 5000), 90000, 90000, 1, 2, 3, 4, 5, 6, 7, 8, 9, 10, 11)
}

func TestGenPushOfWhatIsNoGeneration(t *testing.T) {
	for _, n := range append([]int{-2, -1, 0, mostGen + 1, mostGen + 2}, farNumbers[:6]...) {
		for count := range mostGens + 4 {
			wantPush(t, gensFrom(50, count), n, gensFrom(50, count)...)
		}
	}
}

func TestGenPushOfOneThatIsThere(t *testing.T) {
	for count := 1; count <= mostGens+4; count++ {
		for at := range count {
			g := gensFrom(50, count)
			if at < mostGens-1 {
				wantPush(t, g, 50+at, g...)
				continue
			}
			wantPush(t, g, 50+at, slices.Concat([]int{50 + at}, gensFrom(50, mostGens-1))...)
		}
	}
}

func TestGenPushUponWrongOnes(t *testing.T) {
	wantPush(t, []int{0}, 5, 0)
	wantPush(t, []int{-1}, 5, -1)
	wantPush(t, []int{mostGen + 1}, 5, mostGen+1)
	wantPush(t, []int{3, 3}, 5, 3, 3)
	wantPush(t, []int{3, 4, 3}, 5, 3, 4, 3)
	wantPush(t, []int{0, 0}, 5, 0, 0)
	wantPush(t, []int{3, 3}, 3, 3, 3)
	wantPush(t, []int{3, 0}, 0, 3, 0)
	for at := range mostGens + 3 {
		for _, n := range []int{0, -1, mostGen + 1, 49, 51, 55} {
			g := gensFrom(50, mostGens+3)
			g[at] = n
			wantPush(t, g, 90, pushPlainly(g, 90)...)
		}
	}
}

func TestGenPushLooksAtNothingThatIsLeftAway(t *testing.T) {
	head := gensFrom(50, mostGens-1)
	for _, tail := range [][]int{{0}, {-1}, {mostGen + 1}, {50}, {50 + mostGens - 2}, {90}, {7, 7}, {90, 90}, {7, 0, 50}} {
		wantPush(t, slices.Concat(head, tail), 90, slices.Concat([]int{90}, head)...)
		short := slices.Concat(head[1:], tail[:1])
		wantPush(t, short, 90, pushPlainly(short, 90)...)
	}
}

func TestGenPushAgainstPlainOne(t *testing.T) {
	lists := slices.Concat(gensOfAllKinds(), allGens(), mixedGens(71, 2000))
	for _, g := range lists {
		for _, n := range slices.Concat(pushNumbers, g) {
			wantPush(t, g, n, pushPlainly(g, n)...)
		}
	}
}

func TestNewer(t *testing.T) {
	wantNewer(t, nil, nil, gensSame)
	wantNewer(t, nil, []int{}, gensSame)
	wantNewer(t, []int{1}, nil, gensFirst)
	wantNewer(t, nil, []int{1}, gensSecond)
	wantNewer(t, []int{4, 2}, []int{4, 9, 8}, gensSame)
	wantNewer(t, []int{5, 4, 3}, []int{4, 3}, gensFirst)
	wantNewer(t, []int{5, 4, 3}, []int{3, 9}, gensFirst)
	wantNewer(t, []int{4, 3}, []int{5, 4, 3}, gensSecond)
	wantNewer(t, []int{3, 9}, []int{5, 4, 3}, gensSecond)
	wantNewer(t, []int{5, 3}, []int{4, 3}, gensSplit)
	wantNewer(t, []int{5, 3, 2}, []int{4, 2, 3}, gensSplit)
	wantNewer(t, []int{1}, []int{2}, gensSplit)
}

func TestNewerWhereEachHasTheOthersFirst(t *testing.T) {
	wantNewer(t, []int{1, 2}, []int{2, 1}, gensFirst)
	wantNewer(t, []int{2, 1}, []int{1, 2}, gensFirst)
	wantNewer(t, []int{3, 1, 2}, []int{2, 3}, gensFirst)
}

func TestNewerAtEachDepth(t *testing.T) {
	for count := 1; count <= mostGens; count++ {
		for at := range count {
			deep, one := gensFrom(50, count), []int{50 + at, 7}
			if at == 0 {
				wantNewer(t, deep, one, gensSame)
				wantNewer(t, one, deep, gensSame)
				continue
			}
			wantNewer(t, deep, one, gensFirst)
			wantNewer(t, one, deep, gensSecond)
		}
		wantNewer(t, gensFrom(50, count), []int{50 + count, 7}, gensSplit)
		wantNewer(t, []int{49, 7}, gensFrom(50, count), gensSplit)
	}
}

func TestNewerOfWrongOnes(t *testing.T) {
	wantNewer(t, []int{0}, []int{0}, gensSame)
	wantNewer(t, []int{0}, nil, gensFirst)
	wantNewer(t, nil, []int{0}, gensSecond)
	wantNewer(t, []int{5, -1}, []int{-1}, gensFirst)
	wantNewer(t, []int{mostGen + 1}, []int{5, 5, mostGen + 1}, gensSecond)
	wantNewer(t, []int{5, 0}, []int{6, 0}, gensSplit)
	wantNewer(t, gensFrom(1, 500), []int{500}, gensFirst)
	wantNewer(t, []int{500}, gensFrom(1, 500), gensSecond)
	wantNewer(t, gensFrom(1, 500), []int{501}, gensSplit)
}

func TestNewerAgainstPlainOne(t *testing.T) {
	few := allGens()
	for _, a := range few {
		for _, b := range few {
			wantNewer(t, a, b, newerPlainly(a, b))
		}
	}
	mixed := slices.Concat(gensOfAllKinds(), mixedGens(72, 300))
	for _, a := range mixed {
		for _, b := range mixed {
			wantNewer(t, a, b, newerPlainly(a, b))
		}
	}
}

func TestNewerLooksAtNoSpareRoom(t *testing.T) {
	room := []int{5, 4, 3}
	wantNewer(t, room[:0], room[:0], gensSame)
	wantNewer(t, room[:1], []int{4}, gensSplit)
	wantNewer(t, []int{3}, room[:2], gensSplit)
	wantNewer(t, room[1:], room, gensSecond)
	wantNewer(t, room, room[1:], gensFirst)
}

func TestWhatIsPushedIsNewer(t *testing.T) {
	for _, g := range slices.Concat(goodGens, mixedGens(73, 2000)) {
		for _, n := range slices.Concat(pushNumbers, g) {
			pushed := impl.GenPush(g, n)
			if slices.Equal(pushed, g) {
				continue
			}
			wantGensOk(t, pushed, true)
			wantNewer(t, pushed, g, gensFirst)
			// One that was left away is still in g: then each has the other's first one.
			back := gensSecond
			if slices.Contains(g, n) {
				back = gensFirst
			}
			wantNewer(t, g, pushed, back)
		}
	}
}

func TestWhatIsPushedIsPushed(t *testing.T) {
	for _, g := range goodGens {
		for _, n := range []int{40, 41, 5000, mostGen - 40} {
			if pushed := impl.GenPush(g, n); len(pushed) == 0 || pushed[0] != n {
				t.Errorf("GenPush of %v and %d tells %v", g, n, pushed)
			}
		}
	}
}

// One that is out of reach has left nothing that tells of it.
func TestALongLineOfPushes(t *testing.T) {
	lines := [][]int{nil}
	for n := 1; n <= 100; n++ {
		lines = append(lines, impl.GenPush(lines[n-1], n))
	}
	for late, a := range lines {
		for early, b := range lines[:late] {
			if early == 0 || late-early < mostGens {
				wantNewer(t, a, b, gensFirst)
				wantNewer(t, b, a, gensSecond)
				continue
			}
			wantNewer(t, a, b, gensSplit)
			wantNewer(t, b, a, gensSplit)
		}
	}
}

func TestTwoThatPushApartAreSplit(t *testing.T) {
	for count := range mostGens + 1 {
		g := gensFrom(50, count)
		wantNewer(t, impl.GenPush(g, 7), impl.GenPush(g, 8), gensSplit)
		wantNewer(t, impl.GenPush(g, 7), impl.GenPush(g, 7), gensSame)
	}
}

func TestGensAreToldTheSameEachTime(t *testing.T) {
	for _, g := range slices.Concat(gensOfAllKinds(), mixedGens(74, 40)) {
		for _, n := range []int{0, 1, 12, 90, mostGen} {
			first := impl.GenPush(g, n)
			for range 40 {
				wantPush(t, g, n, first...)
			}
			wantNewer(t, first, g, impl.Newer(first, g))
		}
	}
}

func TestGensWriteIntoNoArgument(t *testing.T) {
	lists := slices.Concat(gensOfAllKinds(), mixedGens(75, 100))
	for i, g := range lists {
		room, given := inRoom(g)
		otherRoom, other := inRoom(lists[(i*7+1)%len(lists)])
		was, otherWas := slices.Clone(room), slices.Clone(otherRoom)
		for _, n := range slices.Concat(pushNumbers, g) {
			spoilNumbers(impl.GenPush(given, n))
		}
		impl.Newer(given, other)
		impl.Newer(other, given)
		impl.Newer(given, given)
		if !slices.Equal(room, was) || !slices.Equal(otherRoom, otherWas) {
			t.Errorf("%v, %v was changed to %v, %v", was, otherWas, room, otherRoom)
		}
	}
}

func TestGenPushAnswersNewMemory(t *testing.T) {
	for _, g := range gensOfAllKinds() {
		for _, n := range slices.Concat(pushNumbers, g) {
			room, given := inRoom(g)
			first, second := impl.GenPush(given, n), impl.GenPush(given, n)
			want := slices.Clone(first)
			spoilNumbers(room)
			spoilNumbers(second)
			wantList(t, "an answer whose argument was changed", first, want...)
		}
	}
}
