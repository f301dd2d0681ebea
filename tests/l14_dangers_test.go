package tests

import (
	"fmt"
	"math/rand/v2"
	"regexp"
	"slices"
	"strings"
	"sync"
	"testing"

	"loop.example/g00953/impl"
)

func danger(radius, x, y int64) impl.Danger {
	return impl.Danger{Name: "reef", At: at(x, y), Radius: radius}
}

// sampleDangers are valid dangers of all sizes, in the middle and at the limits of
// points. They are made once, and never changed.
var sampleDangers = sync.OnceValue(func() []impl.Danger {
	var list []impl.Danger
	names := []string{"a", "z9", "reef", "abcdefghij", "a123456789"}
	for i, p := range append(samplePlaces(), at(50000, 60000), at(20000, 180000), at(40000, 160000), at(40001, 40000)) {
		for j, radius := range []int64{1, 2, 49, 400, 19999, 20000} {
			if (i+j)%3 == 0 || i >= len(samplePlaces()) {
				list = append(list, impl.Danger{Name: names[(i+j)%5], At: p, Radius: radius})
			}
		}
	}
	return list
})

func invalidDangers() []impl.Danger {
	list := []impl.Danger{{}}
	for _, name := range []string{"", "A", "1a", "reef ", " reef", "re ef", "Reef", "abcdefghijk", "r\x00", "\u00e9", strings.Repeat("a", 100000)} {
		list = append(list, impl.Danger{Name: name, At: at(5, 7), Radius: 400})
	}
	for _, p := range invalidPlaces() {
		list = append(list, danger(400, p.X, p.Y))
	}
	for _, n := range append(numbersBeyond(1, impl.MaxDanger), -400, 1<<32+400) {
		list = append(list, danger(n, 5, 7))
	}
	return list
}

// namesOfDangers are in order, as bytes.
func namesOfDangers() []string {
	list := []string{"a", "a0", "a1", "a9", "aa", "ab", "abcdefghij", "abcdefghik", "b", "b10", "b2", "ba", "c", "reef", "reef1", "reef2", "reefs", "rock", "s", "x", "y", "z", "z9", "zz"}
	if len(list) != impl.MaxDangers || !slices.IsSorted(list) {
		panic("the names of dangers of the tests are wrong")
	}
	return list
}

// listOfDangers has some of the sample dangers, with Names in order.
func listOfDangers(count, first int) []impl.Danger {
	samples := sampleDangers()
	list := make([]impl.Danger, count)
	for i := range list {
		list[i] = samples[(first+7*i)%len(samples)]
		list[i].Name = namesOfDangers()[(i + impl.MaxDangers - count)]
	}
	return list
}

// listsOfDangers are lists of all lengths. They are made once, and never changed.
var listsOfDangers = sync.OnceValue(func() [][]impl.Danger {
	lists := [][]impl.Danger{nil, {}}
	for count := 1; count <= impl.MaxDangers; count++ {
		lists = append(lists, listOfDangers(count, 5*count), listOfDangers(count, 5*count+63))
	}
	return lists
})

// invalidDangerLists are lists with an invalid danger, or without order. They are made once, and never changed.
var invalidDangerLists = sync.OnceValue(func() [][]impl.Danger {
	long := listOfDangers(impl.MaxDangers, 3)
	more := impl.Danger{Name: "zzz", At: at(5, 7), Radius: 400}
	lists := [][]impl.Danger{append(slices.Clone(long), more), slices.Repeat(long, 1000), {more, long[0]}, {more, more}}
	for i := range impl.MaxDangers - 1 {
		swapped, twice := slices.Clone(long), slices.Clone(long)
		swapped[i], swapped[i+1] = swapped[i+1], swapped[i]
		twice[i].Name = twice[i+1].Name
		lists = append(lists, swapped, twice)
	}
	for i, wrong := range invalidDangers() {
		list := slices.Clone(long)
		list[i%len(list)] = wrong
		lists = append(lists, list, []impl.Danger{wrong})
	}
	return lists
})

// samplePaths are paths of all lengths, also such as stop, return and cross themselves.
// They are made once, and never changed.
var samplePaths = sync.OnceValue(func() [][]impl.Point {
	whole := []impl.Point{at(0, 0), at(200000, 200000)}
	lists := [][]impl.Point{
		{at(5, 7)}, {at(0, 0)}, {at(200000, 200000)}, {at(77777, 100000)}, {at(5, 7), at(5, 7)}, {at(100000, 100000), at(100000, 100000), at(100000, 100000)},
		whole, {at(200000, 0), at(0, 200000)}, {at(0, 5), at(200000, 5)}, {at(49000, 60300), at(51000, 60300)}, {at(49000, 60300), at(51000, 60300), at(51000, 59000), at(50400, 59000)},
		slices.Repeat(whole, 32), slices.Repeat([]impl.Point{at(0, 200000)}, 64), slices.Repeat([]impl.Point{at(0, 200000), at(199999, 199999), at(50000, 0)}, 21),
	}
	lot := rand.New(rand.NewPCG(14, 15))
	for i := range 40 {
		size := []int64{3, 60, 1000, 30000, 150000}[i%5]
		base := []int64{50000, 0, 20000}[i%3]
		path := []impl.Point{at(base, base)}
		for len(path) < 1+i*13%64 {
			path = append(path, at(base+lot.Int64N(size), base+lot.Int64N(size)))
		}
		lists = append(lists, path)
	}
	return lists
})

func invalidPaths() [][]impl.Point {
	good := []impl.Point{at(1, 2), at(300, 4), at(5, 600)}
	lists := [][]impl.Point{nil, {}, slices.Repeat(good[:1], impl.MaxPlaces+1), slices.Repeat(good, 30000)}
	for _, p := range invalidPlaces() {
		lists = append(lists, []impl.Point{p}, slices.Repeat([]impl.Point{p}, impl.MaxPlaces+1))
		for i := range good {
			path := slices.Clone(good)
			path[i] = p
			lists = append(lists, path)
		}
		lists = append(lists, append(slices.Repeat(good[:1], impl.MaxPlaces-1), p))
	}
	return lists
}

// clearanceModel is the exact distance from all parts of a path, less the radius.
func clearanceModel(d impl.Danger, path []impl.Point) int64 {
	nearest := distanceModel(d.At, path[0])
	for i := 1; i < len(path); i++ {
		nearest = min(nearest, exactDistanceToSegment(path[i-1], path[i], d.At))
	}
	return nearest - d.Radius
}

// sideModel is the kind of the cardinal mark at a place that is not that of a danger.
func sideModel(d impl.Danger, p impl.Point) int64 {
	switch bearing := bearingOf(d.At, p); {
	case bearing < 45:
		return 3
	case bearing < 135:
		return 4
	case bearing < 225:
		return 5
	case bearing < 315:
		return 6
	}
	return 3
}

// cardinalMark is an aid with the usual mark of a kind at a place.
func cardinalMark(number, kind int64, p impl.Point) impl.Aid {
	a := impl.Aid{Number: number, Name: "mark", At: p}
	a.Mark, _ = impl.StandardMark(kind)
	return a
}

func dangerPrint(d impl.Danger) string {
	return fmt.Sprintf("%.20q %v %d", d.Name, d.At, d.Radius)
}

func TestP15Constants(t *testing.T) {
	check(t, "the limits of dangers", fmt.Sprint(impl.MaxDangers, impl.MaxDanger), "24 20000")
}

func TestP15DangersAreValidWithinTheirLimits(t *testing.T) {
	for _, d := range sampleDangers() {
		check(t, "whether it is valid: "+dangerPrint(d), impl.ValidDanger(d), true)
	}
	for _, d := range invalidDangers() {
		check(t, "whether it is valid: "+dangerPrint(d), impl.ValidDanger(d), false)
		check(t, "the text of "+dangerPrint(d), impl.DangerText(d), "")
	}
	for n := int64(-10); n <= 20010; n++ {
		check(t, fmt.Sprint("whether the radius ", n, " is valid"), impl.ValidDanger(danger(n, 5, 7)), n >= 1 && n <= 20000)
	}
}

func TestP15ListsOfDangersAreInOrder(t *testing.T) {
	for _, list := range listsOfDangers() {
		check(t, fmt.Sprint("whether it is valid: ", list), impl.ValidDangers(list), true)
	}
	for i, list := range invalidDangerLists() {
		check(t, fmt.Sprint("whether list ", i, " is valid"), impl.ValidDangers(list), false)
	}
}

func checkDangers(t *testing.T, what string, got []impl.Danger, code int64, want []impl.Danger, wantCode int64) {
	t.Helper()
	if !slices.Equal(got, want) || code != wantCode {
		t.Errorf("%s: got %v %d, want %v %d", what, got, code, want, wantCode)
	}
}

func TestP15DangersAreAddedAtTheirPlaces(t *testing.T) {
	for _, whole := range listsOfDangers() {
		for i, d := range whole {
			rest := slices.Delete(slices.Clone(whole), i, i+1)
			got, code := impl.AddDanger(rest, d)
			checkDangers(t, "a list with "+d.Name, got, code, whole, impl.OK)
			other := danger(7, 7, 7)
			other.Name = d.Name
			got, code = impl.AddDanger(whole, other)
			checkDangers(t, "no list with another one named "+d.Name, got, code, nil, impl.ErrExists)
		}
	}
	first, code := impl.AddDanger(nil, danger(1, 2, 3))
	checkDangers(t, "a list of one", first, code, []impl.Danger{danger(1, 2, 3)}, impl.OK)
	full := listOfDangers(impl.MaxDangers, 0)
	for _, name := range []string{"a00", "m", "zzz"} {
		d := impl.Danger{Name: name, At: at(1, 2), Radius: 3}
		got, code := impl.AddDanger(full, d)
		checkDangers(t, "a list with one more", got, code, nil, impl.ErrFull)
		got, code = impl.AddDanger(full[:23], d)
		want := append(slices.Clone(full[:23]), d)
		slices.SortFunc(want, func(a, b impl.Danger) int { return strings.Compare(a.Name, b.Name) })
		checkDangers(t, "a list with the last one", got, code, want, impl.OK)
	}
}

func TestP15InvalidDangersAreNotAdded(t *testing.T) {
	full := listOfDangers(impl.MaxDangers, 0)
	for _, d := range invalidDangers() {
		for _, list := range [][]impl.Danger{nil, full, full[5:10]} {
			got, code := impl.AddDanger(list, d)
			checkDangers(t, "no list with "+dangerPrint(d), got, code, nil, impl.ErrInvalid)
		}
	}
	for _, list := range invalidDangerLists() {
		for _, d := range []impl.Danger{danger(1, 2, 3), full[0], {}} {
			got, code := impl.AddDanger(list, d)
			checkDangers(t, "no longer list", got, code, nil, impl.ErrInvalid)
		}
	}
}

// namesModel are the names of the dangers that have a property.
func namesModel(list []impl.Danger, has func(d impl.Danger) bool) []string {
	var names []string
	for _, d := range list {
		if has(d) {
			names = append(names, d.Name)
		}
	}
	return names
}

func checkNames(t *testing.T, what string, got []string, code int64, want []string) {
	t.Helper()
	check(t, what, fmt.Sprintf("%q %d", got, code), fmt.Sprintf("%q %d", want, impl.OK))
}

func TestP15DangersHaveThePlacesWithinTheirRadius(t *testing.T) {
	for _, list := range listsOfDangers() {
		places := []impl.Point{at(100000, 100000), at(0, 0)}
		for _, d := range list {
			for _, n := range []int64{0, 1, d.Radius - 1, d.Radius, d.Radius + 1} {
				places = append(places, at(d.At.X+n, d.At.Y), at(d.At.X, d.At.Y-n), at(d.At.X-n, d.At.Y+1), at(d.At.X+n*3/5, d.At.Y+n*4/5))
			}
		}
		for _, p := range places {
			got, code := impl.DangersAt(list, p)
			if !impl.ValidPoint(p) {
				check(t, fmt.Sprint("no dangers at ", p), fmt.Sprint(got, code), "[] 1")
				continue
			}
			want := namesModel(list, func(d impl.Danger) bool { return distanceModel(d.At, p) <= d.Radius })
			checkNames(t, fmt.Sprint("the dangers at ", p, " of ", list), got, code, want)
		}
	}
}

func TestP15PlacesAtTheEdgeAreInTheDanger(t *testing.T) {
	list := []impl.Danger{danger(500, 5000, 5000)}
	for _, c := range []struct {
		x, y int64
		want string
	}{
		{0, 0, "[reef]"}, {500, 0, "[reef]"}, {501, 0, "[]"}, {0, -500, "[reef]"}, {0, -501, "[]"}, {300, 400, "[reef]"}, {-300, -401, "[reef]"}, {-302, 400, "[]"},
		// The distance is rounded down.
		{500, 31, "[reef]"}, {500, 32, "[]"}, {-31, 500, "[reef]"}, {-32, -500, "[]"},
	} {
		got, code := impl.DangersAt(list, at(5000+c.x, 5000+c.y))
		check(t, fmt.Sprint("the dangers at ", c), fmt.Sprint(got, code), c.want+" 0")
	}
	none, code := impl.DangersAt(nil, at(0, 0))
	checkNames(t, "the dangers of none", none, code, nil)
}

func TestP15ClearancesAreThoseOfTheNearestSegment(t *testing.T) {
	for i, d := range sampleDangers() {
		for j, path := range samplePaths() {
			if len(path) > 5 && (i+j)%7 != 0 {
				continue
			}
			got, code := impl.ClearanceOf(d, path)
			checkNumber(t, fmt.Sprint("the clearance of ", d, path), got, code, clearanceModel(d, path))
			back := slices.Clone(path)
			slices.Reverse(back)
			backwards, _ := impl.ClearanceOf(d, back)
			check(t, fmt.Sprint("the clearance on the way back of ", d, path), backwards, got)
		}
	}
	d := danger(400, 5000, 5000)
	for _, c := range []struct {
		path []impl.Point
		want int64
	}{
		{[]impl.Point{at(5000, 5000)}, -400}, {[]impl.Point{at(5000, 5399)}, -1}, {[]impl.Point{at(5000, 5400)}, 0}, {[]impl.Point{at(5000, 5401)}, 1}, {[]impl.Point{at(5000, 6000)}, 600},
		{[]impl.Point{at(4000, 5300), at(6000, 5300)}, -100}, {[]impl.Point{at(4000, 5000), at(6000, 5000)}, -400}, {[]impl.Point{at(4000, 5400), at(6000, 5400)}, 0},
		{[]impl.Point{at(0, 5700), at(10000, 5700), at(10000, 0), at(5300, 0), at(5300, 4600)}, 100}, {[]impl.Point{at(6000, 6000), at(9000, 9000), at(5000, 5500), at(5000, 5500)}, 100},
		{[]impl.Point{at(5003, 5404), at(5003, 5404)}, 4}, {[]impl.Point{at(5003, 5404), at(9000, 5404)}, 4},
	} {
		got, code := impl.ClearanceOf(d, c.path)
		checkNumber(t, fmt.Sprint("the clearance of ", c.path), got, code, c.want)
	}
}

func TestP15DangersOnAPathAreThoseWithoutClearance(t *testing.T) {
	found, missed := 0, 0
	for i, list := range listsOfDangers() {
		for j, path := range samplePaths() {
			if len(path) > 5 && (i+j)%5 != 0 {
				continue
			}
			margins := []int64{0, 1, 400, 19999, 20000}
			for _, d := range list {
				if (i+j)%11 == 0 {
					clearance := clearanceModel(d, path)
					margins = append(margins, clearance-1, clearance, clearance+1)
				}
			}
			for _, margin := range margins {
				if margin < 0 || margin > 20000 {
					continue
				}
				got, code := impl.DangersOn(list, path, margin)
				want := namesModel(list, func(d impl.Danger) bool {
					clearance, _ := impl.ClearanceOf(d, path)
					return clearance < margin
				})
				found, missed = found+len(want), missed+len(list)-len(want)
				checkNames(t, fmt.Sprint("the dangers within ", margin, " metres of ", path, list), got, code, want)
			}
		}
	}
	if found < 1000 || missed < 1000 {
		t.Errorf("only %d dangers are on the paths, and %d are not", found, missed)
	}
}

func TestP15DangersAreOnThePathsWithoutEnoughClearance(t *testing.T) {
	list := []impl.Danger{{Name: "a", At: at(5000, 5000), Radius: 400}, {Name: "b", At: at(9000, 5000), Radius: 500}, {Name: "c", At: at(5000, 9000), Radius: 1}}
	path := []impl.Point{at(5000, 6000), at(9000, 6000)}
	for _, c := range []struct {
		margin int64
		want   string
	}{
		{0, "[] 0"}, {1, "[] 0"}, {500, "[] 0"}, {501, "[b] 0"}, {600, "[b] 0"}, {601, "[a b] 0"}, {2999, "[a b] 0"}, {3000, "[a b c] 0"}, {20000, "[a b c] 0"}, {20001, "[] 2"}, {-1, "[] 2"}, {1 << 32, "[] 2"},
	} {
		got, code := impl.DangersOn(list, path, c.margin)
		check(t, fmt.Sprint("the dangers within ", c.margin), fmt.Sprint(got, code), c.want)
	}
	// With the margin 0 a path at the edge is clear, and one that leads through the danger is not.
	for y, want := range map[int64]string{5400: "[] 0", 5399: "[a] 0", 5000: "[a] 0", 4600: "[] 0"} {
		got, code := impl.DangersOn(list[:1], []impl.Point{at(0, y), at(9000, y)}, 0)
		check(t, fmt.Sprint("the dangers at ", y), fmt.Sprint(got, code), want)
	}
	for _, n := range numbersBeyond(0, impl.MaxDanger) {
		got, code := impl.DangersOn(list, path, n)
		check(t, fmt.Sprint("the dangers within ", n), fmt.Sprint(got, code), "[] 2")
	}
}

func TestP15InvalidPathsHaveNoDangers(t *testing.T) {
	good, path := listOfDangers(5, 3), []impl.Point{at(5, 7), at(9, 9)}
	for _, margin := range []int64{0, 400, -1, 20001} {
		checkNoNames := func(list []impl.Danger, path []impl.Point) {
			t.Helper()
			got, code := impl.DangersOn(list, path, margin)
			check(t, fmt.Sprint("no dangers within ", margin), fmt.Sprint(got, code), "[] 1")
		}
		for _, wrong := range invalidPaths() {
			checkNoNames(good, wrong)
			checkNoNames(nil, wrong)
			clearance, code := impl.ClearanceOf(good[0], wrong)
			checkNoNumber(t, fmt.Sprint("clearance of a path of ", len(wrong)), clearance, code, impl.ErrInvalid)
		}
		for _, wrong := range invalidDangerLists() {
			checkNoNames(wrong, path)
			checkNoNames(wrong, nil)
			got, code := impl.DangersAt(wrong, path[0])
			check(t, "no dangers at a place", fmt.Sprint(got, code), "[] 1")
		}
	}
	for _, d := range invalidDangers() {
		clearance, code := impl.ClearanceOf(d, path)
		checkNoNumber(t, "clearance of "+dangerPrint(d), clearance, code, impl.ErrInvalid)
	}
	for _, p := range invalidPlaces() {
		got, code := impl.DangersAt(good, p)
		check(t, fmt.Sprint("no dangers at ", p), fmt.Sprint(got, code), "[] 1")
	}
}

func TestP15PlacesAtTheEdgesOfQuadrants(t *testing.T) {
	d := danger(400, 100000, 100000)
	for _, c := range []struct{ x, y, want int64 }{
		{0, 1, 3}, {1, 0, 4}, {0, -1, 5}, {-1, 0, 6}, {0, 100000, 3}, {100000, 0, 4}, {0, -100000, 5}, {-100000, 0, 6},
		// The diagonals belong to the quadrant that follows clockwise.
		{1, 1, 4}, {1, -1, 5}, {-1, -1, 6}, {-1, 1, 3}, {100000, 100000, 4}, {100000, -100000, 5}, {-100000, -100000, 6}, {-100000, 100000, 3},
		// So do the places whose bearing is nearer to the diagonal than to the degree before it.
		{99, 100, 4}, {100, 99, 4}, {98, 100, 3}, {100, -101, 5}, {101, -100, 5}, {100, -98, 4}, {-99, -100, 6}, {-98, -100, 5}, {-100, 99, 3}, {-100, 98, 6}, {-101, 100, 3},
		// Just between two degrees the lesser one is the bearing.
		{12233, 12449, 3}, {12234, 12449, 4}, {12233, 12448, 4}, {12449, -12233, 4}, {12449, -12234, 5}, {12448, -12233, 5},
		{-12233, -12449, 5}, {-12234, -12449, 6}, {-12233, -12448, 6}, {-12449, 12233, 6}, {-12449, 12234, 3}, {-12448, 12233, 3},
		{8 * 12233, 8 * 12449, 3}, {-8 * 12449, 8 * 12233, 6}, {8*12233 + 1, 8 * 12449, 4}, {-8 * 12449, 8*12233 + 1, 3},
	} {
		got, code := impl.CardinalAt(d, at(d.At.X+c.x, d.At.Y+c.y))
		checkNumber(t, fmt.Sprint("the mark at ", c), got, code, c.want)
	}
}

func TestP15CardinalMarksStandInTheirQuadrants(t *testing.T) {
	for _, d := range sampleDangers() {
		for _, p := range samplePlaces() {
			got, code := impl.CardinalAt(d, p)
			if p == d.At {
				checkNoNumber(t, fmt.Sprint("mark at the place of ", d), got, code, impl.ErrState)
				continue
			}
			checkNumber(t, fmt.Sprint("the mark at ", p, " of ", d), got, code, sideModel(d, p))
		}
	}
	d := danger(30, 5000, 5000)
	for x := int64(-60); x <= 60; x++ {
		for y := int64(-60); y <= 60; y++ {
			if x == 0 && y == 0 {
				continue
			}
			got, code := impl.CardinalAt(d, at(5000+x, 5000+y))
			checkNumber(t, fmt.Sprint("the mark at ", x, y), got, code, sideModel(d, at(5000+x, 5000+y)))
		}
	}
}

func TestP15InvalidPlacesHaveNoCardinalMark(t *testing.T) {
	for _, d := range invalidDangers() {
		for _, p := range []impl.Point{at(5, 7), at(9, 9), d.At, at(-1, 0)} {
			got, code := impl.CardinalAt(d, p)
			checkNoNumber(t, fmt.Sprint("mark at ", p, " of ", dangerPrint(d)), got, code, impl.ErrInvalid)
		}
		for _, away := range []int64{0, 100, -1, 20001} {
			got, code := impl.CardinalPlaces(d, away)
			check(t, fmt.Sprint("no places at ", away, " from ", dangerPrint(d)), fmt.Sprint(got, code), "[] 1")
		}
	}
	for _, p := range invalidPlaces() {
		got, code := impl.CardinalAt(danger(400, 5, 7), p)
		checkNoNumber(t, fmt.Sprint("mark at ", p), got, code, impl.ErrInvalid)
	}
}

// distancesAway are distances from the edge of a danger, at the limits and such that
// a place is just at the limit of points, or beyond it.
func distancesAway(d impl.Danger) []int64 {
	list := []int64{0, 1, 2, 100, 10000, 19999, 20000}
	for _, n := range []int64{d.At.X, d.At.Y, 200000 - d.At.X, 200000 - d.At.Y} {
		list = append(list, n-d.Radius-1, n-d.Radius, n-d.Radius+1)
	}
	list = slices.DeleteFunc(list, func(n int64) bool { return n < 0 || n > 20000 })
	slices.Sort(list)
	return slices.Compact(list)
}

// placesModel are the places to the north, east, south and west.
func placesModel(d impl.Danger, away int64) ([]impl.Point, int64) {
	reach := d.Radius + away
	x, y := d.At.X, d.At.Y
	if min(x, y) < reach || max(x, y) > 200000-reach {
		return nil, impl.ErrState
	}
	return []impl.Point{at(x, y+reach), at(x+reach, y), at(x, y-reach), at(x-reach, y)}, impl.OK
}

func TestP15CardinalPlacesAreAroundTheDanger(t *testing.T) {
	codes := map[int64]int{}
	for _, d := range sampleDangers() {
		for _, away := range distancesAway(d) {
			want, wantCode := placesModel(d, away)
			got, code := impl.CardinalPlaces(d, away)
			codes[code]++
			check(t, fmt.Sprint("the places at ", away, " from ", d), fmt.Sprint(got, code), fmt.Sprint(want, wantCode))
		}
		for _, n := range append(numbersBeyond(0, impl.MaxDanger), 1<<32) {
			got, code := impl.CardinalPlaces(d, n)
			check(t, fmt.Sprint("the places at ", n, " from ", d), fmt.Sprint(got, code), "[] 2")
		}
	}
	if codes[impl.OK] < 100 || codes[impl.ErrState] < 100 {
		t.Errorf("the places have the codes %v", codes)
	}
	// Each of the four limits of points by itself.
	for _, c := range []struct {
		x, y int64
		want int64
	}{
		{500, 500, 0}, {499, 500, 6}, {500, 499, 6}, {199500, 199500, 0}, {199501, 199500, 6}, {199500, 199501, 6}, {100000, 100000, 0}, {0, 100000, 6}, {100000, 0, 6}, {200000, 100000, 6}, {100000, 200000, 6},
	} {
		got, code := impl.CardinalPlaces(danger(400, c.x, c.y), 100)
		check(t, fmt.Sprint("the places around ", c), [2]int64{int64(len(got)), code}, [2]int64{map[int64]int64{0: 4}[c.want], c.want})
	}
}

// eachMarkedDanger visits dangers with cardinal marks at their four places.
func eachMarkedDanger(visit func(d impl.Danger, away int64, marks []impl.Aid)) {
	for _, d := range sampleDangers() {
		for _, away := range distancesAway(d) {
			places, code := impl.CardinalPlaces(d, away)
			if code != impl.OK {
				continue
			}
			var marks []impl.Aid
			for i, p := range places {
				marks = append(marks, cardinalMark(int64(10*i+10), int64(3+i), p))
			}
			visit(d, away, marks)
		}
	}
}

func checkSides(t *testing.T, d impl.Danger, marks []impl.Aid, away int64, want ...int64) {
	t.Helper()
	what := fmt.Sprint(d, " at ", away)
	got, code := impl.MarkedSides(d, marks, away)
	check(t, "the marked sides of "+what, fmt.Sprint(got, code), fmt.Sprint(want, impl.OK))
	check(t, "whether it is marked: "+what, impl.IsMarked(d, marks, away), len(want) == 4)
}

func TestP15TheFourPlacesAreMarkedByTheCardinalMarks(t *testing.T) {
	visits := 0
	eachMarkedDanger(func(d impl.Danger, away int64, marks []impl.Aid) {
		visits++
		for i, a := range marks {
			kind, code := impl.CardinalAt(d, a.At)
			what := fmt.Sprint(d, " at ", away, " with ", a.At)
			checkNumber(t, "the mark of "+what, kind, code, a.Mark.Kind)
			check(t, "whether it marks "+what, impl.MarksDanger(d, a, away), true)
			check(t, "whether it marks it within the most: "+what, impl.MarksDanger(d, a, 20000), true)
			if away > 0 {
				check(t, "whether it marks it within one metre less: "+what, impl.MarksDanger(d, a, away-1), false)
			}
			for kind := int64(0); kind <= 9; kind++ {
				if kind != a.Mark.Kind {
					check(t, fmt.Sprint("whether the kind ", kind, " marks ", what), impl.MarksDanger(d, cardinalMark(5, kind, a.At), away), false)
				}
			}
			rest := slices.Delete(slices.Clone(marks), i, i+1)
			sides := slices.DeleteFunc([]int64{3, 4, 5, 6}, func(kind int64) bool { return kind == a.Mark.Kind })
			checkSides(t, d, rest, away, sides...)
		}
		checkSides(t, d, marks, away, 3, 4, 5, 6)
		checkSides(t, d, marks, 20000, 3, 4, 5, 6)
		if away > 0 {
			checkSides(t, d, marks, away-1)
		}
	})
	if visits < 300 {
		t.Errorf("only %d dangers are marked", visits)
	}
}

func TestP15MarksStandFromTheEdgeOn(t *testing.T) {
	d := danger(400, 5000, 5000)
	for _, c := range []struct {
		x, y, kind, away int64
		want             bool
	}{
		{0, 500, 3, 100, true}, {0, 500, 3, 99, false}, {0, 500, 4, 100, false}, {0, 400, 3, 0, true}, {0, 399, 3, 0, false}, {0, 399, 3, 20000, false}, {0, 401, 3, 0, false}, {0, 401, 3, 1, true}, {0, 0, 3, 20000, false}, {0, 0, 0, 20000, false}, {0, 1, 3, 20000, false},
		{-500, 0, 6, 100, true}, {-501, 0, 6, 100, false}, {300, 400, 3, 100, true}, {300, 401, 3, 100, true}, {301, 401, 3, 100, false}, {400, 300, 4, 100, true}, {400, -300, 4, 100, true}, {-300, -400, 5, 100, true}, {-300, -400, 6, 100, false}, {300, 400, 4, 100, false},
		// Distances are rounded down.
		{31, 500, 3, 100, true}, {32, 500, 3, 100, false}, {28, 400, 3, 0, true}, {29, 400, 3, 0, false}, {30, 399, 3, 0, true}, {28, 399, 3, 0, false},
		{300, 300, 4, 24, true}, {300, 300, 4, 23, false}, {300, 300, 3, 24, false}, {-300, 300, 3, 24, true}, {-300, 300, 6, 24, false},
	} {
		a := cardinalMark(5, c.kind, at(5000+c.x, 5000+c.y))
		check(t, fmt.Sprint("whether it marks the danger: ", c), impl.MarksDanger(d, a, c.away), c.want)
	}
}

// marksModel reports whether an aid marks a danger.
func marksModel(d impl.Danger, a impl.Aid, away int64) bool {
	distance := distanceModel(d.At, a.At)
	return a.Mark.Kind >= 3 && a.Mark.Kind <= 6 && distance >= d.Radius && distance-d.Radius <= away && sideModel(d, a.At) == a.Mark.Kind
}

// drawnMarks are lists of lights around a danger, drawn by lot, the same ones in each run.
func drawnMarks(d impl.Danger, count int) [][]impl.Aid {
	lot := rand.New(rand.NewPCG(15, 16))
	var lists [][]impl.Aid
	for i := range count {
		var list []impl.Aid
		for j := range i % (impl.MaxAids + 1) {
			a := cardinalMark(int64(7*j+1), lot.Int64N(10), at(d.At.X+lot.Int64N(2001)-1000, d.At.Y+lot.Int64N(2001)-1000))
			if i%3 == 0 {
				a.Mark.Kind = sideModel(d, a.At)
				a = cardinalMark(a.Number, a.Mark.Kind, a.At)
			}
			if j%4 == 0 {
				a.Mark.Topmark = ""
			}
			list = append(list, a)
		}
		lists = append(lists, list)
	}
	return lists
}

func TestP15MarkedSidesAreThoseOfMarks(t *testing.T) {
	d := danger(400, 50000, 60000)
	lengths := map[int]int{}
	for _, list := range drawnMarks(d, 400) {
		for _, away := range []int64{0, 1, 100, 400, 20000} {
			var want []int64
			for kind := int64(3); kind <= 6; kind++ {
				if slices.ContainsFunc(list, func(a impl.Aid) bool { return a.Mark.Kind == kind && marksModel(d, a, away) }) {
					want = append(want, kind)
				}
			}
			lengths[len(want)]++
			checkSides(t, d, list, away, want...)
			for _, a := range list {
				check(t, fmt.Sprint("whether it marks the danger at ", away, a), impl.MarksDanger(d, a, away), marksModel(d, a, away))
			}
		}
	}
	for n := range 5 {
		if lengths[n] < 20 {
			t.Errorf("only %d lists mark %d sides", lengths[n], n)
		}
	}
}

func TestP15SidesAreReportedOnceAndInOrder(t *testing.T) {
	d := danger(400, 5000, 5000)
	north, east, south, west := at(5000, 5500), at(5500, 5000), at(5000, 4500), at(4500, 5000)
	checkSides(t, d, nil, 100)
	checkSides(t, d, []impl.Aid{}, 100)
	checkSides(t, d, []impl.Aid{cardinalMark(1, 6, west), cardinalMark(2, 5, south), cardinalMark(3, 4, east), cardinalMark(4, 3, north)}, 100, 3, 4, 5, 6)
	checkSides(t, d, []impl.Aid{cardinalMark(1, 6, west), cardinalMark(2, 3, north), cardinalMark(3, 6, west), cardinalMark(4, 3, north)}, 100, 3, 6)
	checkSides(t, d, []impl.Aid{cardinalMark(1, 6, east), cardinalMark(2, 5, north), cardinalMark(3, 4, west), cardinalMark(4, 3, south)}, 100)
	checkSides(t, d, []impl.Aid{cardinalMark(1, 5, north), cardinalMark(2, 5, at(5000, 9000)), cardinalMark(3, 5, south)}, 100, 5)
	var many []impl.Aid
	for i := range int64(impl.MaxAids) {
		many = append(many, cardinalMark(i+1, 4, at(5400+i, 5000)))
	}
	checkSides(t, d, many, 0, 4)
	lit := lightWith(9, "W")
	lit.At, lit.Mark = south, cardinalMark(1, 5, south).Mark
	checkSides(t, d, []impl.Aid{lit}, 100, 5)
}

func TestP15InvalidArgumentsMarkNothing(t *testing.T) {
	d := danger(400, 5000, 5000)
	var marks []impl.Aid
	for i, p := range []impl.Point{at(5000, 5500), at(5500, 5000), at(5000, 4500), at(4500, 5000)} {
		marks = append(marks, cardinalMark(int64(i+1), int64(i+3), p))
	}
	checkNothing := func(d impl.Danger, list []impl.Aid, away, want int64) {
		t.Helper()
		what := fmt.Sprint(dangerPrint(d), " at ", away)
		sides, code := impl.MarkedSides(d, list, away)
		check(t, "no sides of "+what, fmt.Sprint(sides, code), fmt.Sprint("[] ", want))
		check(t, "whether it is marked: "+what, impl.IsMarked(d, list, away), false)
	}
	for _, away := range numbersBeyond(0, impl.MaxDanger) {
		checkNothing(d, marks, away, impl.ErrRange)
		check(t, fmt.Sprint("whether it marks the danger at ", away), impl.MarksDanger(d, marks[0], away), false)
	}
	for _, away := range []int64{100, 20000, -1, 20001} {
		for _, wrong := range invalidDangers() {
			checkNothing(wrong, marks, away, impl.ErrInvalid)
			for _, a := range marks {
				check(t, "whether it marks "+dangerPrint(wrong), impl.MarksDanger(wrong, a, away), false)
			}
		}
		for _, list := range disorderedLists() {
			checkNothing(d, list, away, impl.ErrInvalid)
		}
		for _, wrong := range invalidAids() {
			if impl.ValidPoint(wrong.At) {
				wrong.At = marks[0].At
			}
			if impl.ValidMark(wrong.Mark) {
				wrong.Mark = marks[0].Mark
			}
			check(t, "whether it marks the danger: "+aidPrint(wrong), impl.MarksDanger(d, wrong, away), false)
			checkNothing(d, []impl.Aid{wrong}, away, impl.ErrInvalid)
		}
		back := slices.Clone(marks)
		slices.Reverse(back)
		checkNothing(d, back, away, impl.ErrInvalid)
	}
}

// dangerModel is the text of a danger.
func dangerModel(d impl.Danger) string {
	return fmt.Sprintf("%s %d,%d %d", d.Name, d.At.X, d.At.Y, d.Radius)
}

func TestP15DangersAreRestoredFromTheirTexts(t *testing.T) {
	for _, d := range sampleDangers() {
		text := dangerModel(d)
		check(t, "the text of "+dangerPrint(d), impl.DangerText(d), text)
		read, ok := impl.ReadDanger(text)
		check(t, text+" is read", ok, true)
		check(t, "the danger of "+text, read, d)
	}
	check(t, "the text of a reef", impl.DangerText(danger(400, 5000, 5000)), "reef 5000,5000 400")
}

func checkNoDanger(t *testing.T, s string) {
	t.Helper()
	d, ok := impl.ReadDanger(s)
	check(t, fmt.Sprintf("%.90q is read", s), ok, false)
	check(t, fmt.Sprintf("the danger of %.90q", s), dangerPrint(d), dangerPrint(impl.Danger{}))
}

func TestP15OtherTextsHaveNoDanger(t *testing.T) {
	good := []string{"reef", "5000,5000", "400"}
	others := [][]string{
		{"", "Reef", "REEF", "1reef", "re-ef", "reef-", "abcdefghijk", "-", "0", "r\u00f6ef", "reef\t", strings.Repeat("a", 10000)},
		{"", "-", "5000", "5000,", ",5000", "5,5,5", "5;5", "-1,5", "5,-1", "200001,0", "0,200001", "05,5", "5,+5", "(5,5)", "5,05", "5, 5"},
		{"", "-", "0", "-1", "-400", "+400", "0400", "400m", "400.0", "4e2", "0x190", "20001", "4294967696", "18446744073709552016", "\uff14\uff10\uff10", strings.Repeat("1", 10000)},
	}
	checkWrongWords(t, good, others, checkNoDanger)
	checkMissingWords(t, good, checkNoDanger)
	all := strings.Join(good, " ")
	for _, s := range []string{"", " ", "  ", all + " ", " " + all, all + "\n", strings.ReplaceAll(all, " ", "\t"), strings.ReplaceAll(all, " ", "  "), strings.ReplaceAll(all, " ", ""), strings.ReplaceAll(all, " ", ","), strings.ToUpper(all), all + " " + all, "reef 400 5000,5000", " 0,0 0", "0 0,0 0", strings.Repeat(" ", 100000), strings.Repeat(all+" ", 1000)} {
		checkNoDanger(t, s)
	}
}

var dangerForm = regexp.MustCompile(`^[a-z][a-z0-9]{0,9} ([0-9]+),([0-9]+) ([0-9]+)$`)

func isDangerText(s string) bool {
	parts := dangerForm.FindStringSubmatch(s)
	return parts != nil && isNumberText(parts[1], 0, 200000) && isNumberText(parts[2], 0, 200000) && isNumberText(parts[3], 1, 20000)
}

func TestP15ChangedTextsHaveDangersIfTheyAreCanonical(t *testing.T) {
	texts := []string{"reef 5000,5000 400", "a 0,0 1", "z123456789 200000,200000 20000", "abcdefghij 9,10 199", "a0 19999,99 2000"}
	checkChangedTexts(t, texts, 1000, isDangerText, func(s string) (string, bool) {
		d, ok := impl.ReadDanger(s)
		return dangerModel(d), ok
	}, checkNoDanger)
}

// dangerAnswers prints the results of all functions of chapter 14.
func dangerAnswers(list []impl.Danger, d impl.Danger, path []impl.Point, marks []impl.Aid, away int64) string {
	p := at(7, 7)
	if len(path) > 0 {
		p = path[0]
	}
	more, one := impl.AddDanger(list, d)
	there, two := impl.DangersAt(list, p)
	clearance, three := impl.ClearanceOf(d, path)
	on, four := impl.DangersOn(list, path, away)
	kind, five := impl.CardinalAt(d, p)
	places, six := impl.CardinalPlaces(d, away)
	sides, seven := impl.MarkedSides(d, marks, away)
	text := impl.DangerText(d)
	read, ok := impl.ReadDanger(text)
	var isMark []bool
	for _, a := range marks {
		isMark = append(isMark, impl.MarksDanger(d, a, away))
	}
	return fmt.Sprint(more, one, there, two, clearance, three, on, four, kind, five, places, six, sides, seven, text, read, ok,
		isMark, impl.IsMarked(d, marks, away), impl.ValidDanger(d), impl.ValidDangers(list))
}

// marksAround has a cardinal mark on each side, one of which has a light with sectors.
func marksAround(d impl.Danger) []impl.Aid {
	places, _ := impl.CardinalPlaces(d, 100)
	var marks []impl.Aid
	for i, p := range places {
		marks = append(marks, cardinalMark(int64(i+1), int64(i+3), p))
	}
	lit := lightWith(900, "WR")
	lit.At = d.At
	return append(marks, lit)
}

func TestP1DangersHaveEqualResults(t *testing.T) {
	numbers := append(extremeNumbers(), 2, 100, 400, 19999, 20000, 20001, 199999, 200000, 200001)
	checkEqualResults(t, numbers, func(a, b, c int64) string {
		d, path := danger(a, b, c), []impl.Point{at(a, b), at(5, 7), at(c, a)}
		return dangerAnswers([]impl.Danger{d}, danger(400, b, a), path[:1], []impl.Aid{cardinalMark(1, 3, at(b, c))}, c) +
			dangerAnswers(nil, d, path, marksAround(danger(400, 5000, 5000)), 100)
	})
	for i, d := range append(invalidDangers(), sampleDangers()...) {
		list, path := listsOfDangers()[i%len(listsOfDangers())], samplePaths()[i%len(samplePaths())]
		if i%5 == 0 {
			list, path = invalidDangerLists()[0], invalidPaths()[i%len(invalidPaths())]
		}
		marks := marksAround(d)
		want := dangerAnswers(list, d, path, marks, 100)
		check(t, "the second results for "+dangerPrint(d), dangerAnswers(slices.Clone(list), d, slices.Clone(path), slices.Clone(marks), 100), want)
	}
	checkEqualReadings(t, func(s string) string {
		d, ok := impl.ReadDanger(s)
		return fmt.Sprint(d, ok, impl.ValidDanger(impl.Danger{Name: s, At: at(5, 7), Radius: 400}))
	}, "reef 5000,5000 400", "reef 5000,5000", "reef 5000,5000 0")
}

func TestP1DangersDoNotDisturbEachOther(t *testing.T) {
	checkUndisturbed(t, func(n int64) string {
		d := sampleDangers()[8*n+100]
		return dangerAnswers(listsOfDangers()[2*n], d, samplePaths()[n], marksAround(d), 100*n)
	})
}

func TestP1DangersAreNotModified(t *testing.T) {
	lists := append(invalidDangerLists()[3:], listsOfDangers()...)
	paths := append(invalidPaths()[4:], samplePaths()...)
	for i, list := range lists {
		memory := append(slices.Clone(list), danger(7, 7, 7), danger(-7, -7, -7))
		path := append(slices.Clone(paths[i%len(paths)]), at(7, 7), at(-7, 7))
		for _, d := range []impl.Danger{danger(400, 5000, 5000), {Name: "a00", At: at(20000, 180000), Radius: 2}, {Name: "zzz", At: at(5, 7), Radius: 1}} {
			around := marksAround(d)
			last, group, sectors := withMemory(around[len(around)-1])
			marks := append(around[:len(around)-1], last, buoy(7), impl.Aid{Number: -1})
			print := func() string { return fmt.Sprint(memory, path, aidsPrint(marks), group, sectors) }
			before := print()
			dangerAnswers(memory[:len(memory)-2], d, path[:len(path)-2], marks[:len(marks)-2], 100)
			check(t, "whether what has been asked for remains as it is: "+dangerPrint(d), print() == before, true)
		}
	}
}

func TestP1ResultsOfDangersShareNoMemory(t *testing.T) {
	for _, whole := range listsOfDangers() {
		list, path := slices.Clone(whole), []impl.Point{at(5, 7), at(150000, 150000)}
		d := impl.Danger{Name: "m", At: at(40001, 40000), Radius: 400}
		more, _ := impl.AddDanger(list, d)
		there, _ := impl.DangersAt(list, at(5, 7))
		on, _ := impl.DangersOn(list, path, 20000)
		places, _ := impl.CardinalPlaces(d, 100)
		sides, _ := impl.MarkedSides(d, marksAround(d), 100)
		again, _ := impl.AddDanger(list, d)
		checkApart(t, func() string { return dangerAnswers(whole, d, path, marksAround(d), 100) },
			resultOf(list), resultOf(more), resultOf(there), resultOf(on), resultOf(places), resultOf(sides), resultOf(again))
	}
}
