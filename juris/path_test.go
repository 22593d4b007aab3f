package juris_test

import (
	"slices"
	"testing"
)

// P15.3: the chapter's examples.
func TestPath(t *testing.T) {
	x := tree(t, -1, 0, 0, 1, -1, 3)
	for i, path := range map[int][]int{5: {5, 3, 1, 0}, 4: {4}, 0: {0}, 2: {2, 0}, 9: nil, 6: nil, -1: nil} {
		if got := slices.Collect(x.Path(i)); !slices.Equal(got, path) {
			t.Errorf("Path(%d): %v", i, got)
		}
	}
}

// R4: a path that is left on the way, at each place, and gone through again.
func TestPathLeftEarly(t *testing.T) {
	path := []int{2, 5, 0, 4, 1, 3}
	told := tree(t, 4, 3, 5, -1, 1, 0).Path(2)
	for stop := range len(path) + 1 {
		var got []int
		for place := range told {
			if len(got) == stop {
				break
			}
			got = append(got, place)
		}
		if !slices.Equal(got, path[:stop]) {
			t.Errorf("up to %d: %v", stop, got)
		}
		if again := slices.Collect(told); !slices.Equal(again, path) {
			t.Errorf("again: %v", again)
		}
	}
	asked := 0
	told(func(int) bool { asked++; return false })
	if asked != 1 {
		t.Errorf("asked %d times behind a no", asked)
	}
}

// R4: one path gone through within itself, and beside another one.
func TestPathsInOneAnother(t *testing.T) {
	x := tree(t, chain(50, 1)...)
	long, short := x.Path(49), x.Path(9)
	steps := 0
	for i := range long {
		for k := range long {
			if k == i {
				break
			}
			steps++
		}
		for range short {
			steps++
		}
	}
	if steps != 49*50/2+50*10 {
		t.Errorf("%d steps", steps)
	}
}

// R4: a path tells what was there when it was made.
func TestPathOfThen(t *testing.T) {
	x := tree(t, -1, 0, 1)
	path, nothing := x.Path(2), x.Path(3)
	*x = *tree(t, -1, -1, -1, 2)
	if got := slices.Collect(path); !slices.Equal(got, []int{2, 1, 0}) {
		t.Errorf("%v", got)
	}
	if got := slices.Collect(nothing); len(got) != 0 {
		t.Errorf("%v", got)
	}
	if got := slices.Collect(x.Path(3)); !slices.Equal(got, []int{3, 2}) {
		t.Errorf("%v", got)
	}
	*x = *tree(t)
	if got := slices.Collect(path); !slices.Equal(got, []int{2, 1, 0}) {
		t.Errorf("%v", got)
	}
}
