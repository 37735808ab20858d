package tests

import (
	"slices"
	"testing"

	"loop.example/g00399/impl"
)

func wantGensOk(t *testing.T, g []int, want bool) {
	t.Helper()
	if impl.GensOk(g) != want {
		t.Errorf("GensOk of %v is %v", g, !want)
	}
}

func TestGensOk(t *testing.T) {
	for _, g := range goodGens {
		wantGensOk(t, g, true)
	}
	for _, g := range badGens {
		wantGensOk(t, g, false)
	}
}

func TestGensOkAtEachPlace(t *testing.T) {
	for count := 1; count <= mostGens; count++ {
		for at := range count {
			for _, n := range append([]int{-1, 0, 1, 2, 99999, 100000, 100001}, farNumbers...) {
				g := gensFrom(50, count)
				g[at] = n
				wantGensOk(t, g, n >= 1 && n <= mostGen)
			}
			for other := range count {
				g := gensFrom(50, count)
				g[at] = g[other]
				wantGensOk(t, g, at == other)
			}
		}
	}
}

func TestGensOkWritesIntoNoArgument(t *testing.T) {
	for _, g := range slices.Concat(goodGens, badGens) {
		room, given := inRoom(g)
		was := slices.Clone(room)
		impl.GensOk(given)
		if !slices.Equal(room, was) {
			t.Errorf("%v was changed to %v", was, room)
		}
	}
}

func TestGensOkLooksAtNoSpareRoom(t *testing.T) {
	wantGensOk(t, gensFrom(1, mostGens+1)[:mostGens], true)
	wantGensOk(t, []int{3, 3, 0}[:1], true)
}
