package tests

import (
	"fmt"
	"math"
	"math/rand/v2"
	"regexp"
	"slices"
	"strings"
	"sync"
	"testing"

	"loop.example/g00953/impl"
)

func leading(front, rear impl.Point, low, high int64) impl.Leading {
	return impl.Leading{Front: front, Rear: rear, Low: low, High: high}
}

// northward is a leading line of some length that steers to the north.
func northward(length int64) impl.Leading {
	return leading(at(100000, 100000), at(100000, 100000+length), 50, 90)
}

// sampleLeadings are valid lines in all directions, from the shortest ones to those
// between two corners. They are made once, and never changed.
var sampleLeadings = sync.OnceValue(func() []impl.Leading {
	heights := [][2]int64{{50, 90}, {0, 1}, {0, 3000}, {2999, 3000}, {100, 101}, {0, 40}, {1500, 2600}}
	var list []impl.Leading
	add := func(front, rear impl.Point) {
		if front != rear && impl.ValidPoint(rear) {
			h := heights[len(list)%len(heights)]
			list = append(list, leading(front, rear, h[0], h[1]))
		}
	}
	for _, front := range fewPlaces() {
		for _, rear := range fewPlaces() {
			add(front, rear)
		}
	}
	lot := rand.New(rand.NewPCG(16, 15))
	for i := range 140 {
		size := []int64{3, 20, 400, 9000, 60000}[i%5]
		front := at(60000+lot.Int64N(80000), 60000+lot.Int64N(80000))
		add(front, at(front.X+lot.Int64N(2*size+1)-size, front.Y+lot.Int64N(2*size+1)-size))
	}
	for _, way := range [][2]int64{{0, 1}, {1, 0}, {0, -1}, {-1, 0}, {1, 1}, {-1, 2}, {1000, 0}, {0, 1000}, {-1000, 0}, {0, -1000}, {3000, 4000}, {-4000, 3000}, {-700, -700}} {
		add(at(100000, 100000), at(100000+way[0], 100000+way[1]))
	}
	return list
})

func invalidLeadings() []impl.Leading {
	front, rear := at(1000, 1000), at(1000, 2000)
	list := []impl.Leading{{}, leading(front, front, 50, 90), leading(at(0, 0), at(0, 0), 0, 1), leading(at(200000, 200000), at(200000, 200000), 50, 90)}
	for _, p := range append(invalidPlaces(), at(1<<32+1000, 1000), at(1000, 1<<32)) {
		list = append(list, leading(p, rear, 50, 90), leading(front, p, 50, 90), leading(p, p, 50, 90))
	}
	for _, n := range append(numbersBeyond(0, impl.MaxHeight), 1<<32+60) {
		list = append(list, leading(front, rear, n, 90), leading(front, rear, 50, n), leading(front, rear, n, n))
	}
	for _, h := range [][2]int64{{0, 0}, {1, 0}, {50, 50}, {91, 90}, {3000, 3000}, {3000, 2999}, {3000, 0}, {3000, 3001}, {-1, 3001}, {-2, -1}, {3001, 3002}} {
		list = append(list, leading(front, rear, h[0], h[1]))
	}
	return list
}

// placesAround are valid places on a line and beside it, in front of its lights, at
// them, between them and behind them, and some far away.
func placesAround(l impl.Leading) []impl.Point {
	x, y := l.Rear.X-l.Front.X, l.Rear.Y-l.Front.Y
	list := append(fewPlaces(), at(100000, 0), at(0, 100000))
	for _, along := range []int64{-12, -4, -2, -1, 0, 1, 4, 6} {
		for _, beside := range []int64{-3, 0, 1} {
			list = append(list, at(l.Front.X+(along*x-beside*y)/4, l.Front.Y+(along*y+beside*x)/4))
		}
	}
	for _, light := range []impl.Point{l.Front, l.Rear} {
		for d := int64(-2); d <= 2; d++ {
			list = append(list, at(light.X+d, light.Y), at(light.X, light.Y+d), at(light.X+d, light.Y+d), at(light.X-d, light.Y+d), at(light.X+2*d, light.Y-d))
		}
	}
	return slices.DeleteFunc(list, func(p impl.Point) bool { return !impl.ValidPoint(p) })
}

func eachLineAndPlace(visit func(l impl.Leading, p impl.Point)) {
	for _, l := range sampleLeadings() {
		for _, p := range placesAround(l) {
			visit(l, p)
		}
	}
}

func offModel(l impl.Leading, p impl.Point) int64 {
	f, r := l.Front, l.Rear
	return roundedQuotient((r.X-f.X)*(p.Y-f.Y)-(r.Y-f.Y)*(p.X-f.X), distanceModel(f, r))
}

func aheadModel(l impl.Leading, p impl.Point) int64 {
	f, r := l.Front, l.Rear
	return roundedQuotient((f.X-r.X)*(p.X-f.X)+(f.Y-r.Y)*(p.Y-f.Y), distanceModel(f, r))
}

// openModel is for a place that is not that of a light.
func openModel(l impl.Leading, p impl.Point) int64 {
	f, r := l.Front, l.Rear
	return roundedQuotient(1000000*((f.X-p.X)*(r.Y-p.Y)-(f.Y-p.Y)*(r.X-p.X)), distanceModel(p, f)*distanceModel(p, r))
}

// aboveModel reports whether a rear light of some height is seen above the front light.
func aboveModel(l impl.Leading, high int64, p impl.Point, eye int64) bool {
	return (high-eye)*distanceModel(p, l.Front) > (l.Low-eye)*distanceModel(p, l.Rear)
}

func TestP16Constants(t *testing.T) {
	check(t, "the limits of leading lines", fmt.Sprint(impl.MaxOpen, impl.MaxBand), "100000 5000")
}

func TestP16LeadingLinesHaveTwoLights(t *testing.T) {
	for _, l := range sampleLeadings() {
		check(t, fmt.Sprint("whether it is valid: ", l), impl.ValidLeading(l), true)
	}
	for _, l := range invalidLeadings() {
		check(t, fmt.Sprint("whether it is valid: ", l), impl.ValidLeading(l), false)
		check(t, fmt.Sprint("the text of ", l), impl.LeadingText(l), "")
	}
	heights := []int64{-3, -2, -1, 0, 1, 2, 3, 1499, 1500, 1501, 2997, 2998, 2999, 3000, 3001, 3002}
	for _, low := range heights {
		for _, high := range heights {
			l := leading(at(5, 7), at(7, 5), low, high)
			check(t, fmt.Sprint("whether it is valid: ", l), impl.ValidLeading(l), low >= 0 && low < high && high <= 3000)
		}
	}
	for _, p := range samplePlaces() {
		for _, q := range fewPlaces() {
			check(t, fmt.Sprint("whether there is a line from ", p, " to ", q), impl.ValidLeading(leading(p, q, 50, 90)), p != q)
		}
	}
}

func TestP16InvalidLinesHaveNoResults(t *testing.T) {
	for _, l := range invalidLeadings() {
		checkInvalidLine(t, l, at(1000, 0))
		checkInvalidLine(t, l, l.Front)
		checkInvalidLine(t, l, at(-1, 0))
		bearing, code := impl.SteerOf(l)
		checkNoNumber(t, fmt.Sprint("bearing of ", l), bearing, code, impl.ErrInvalid)
		for _, n := range []int64{0, 1, 50000, -1, 100001} {
			band, code := impl.BandAt(l, 1000, n)
			checkNoNumber(t, fmt.Sprint("band of ", l), band, code, impl.ErrInvalid)
			band, code = impl.BandAt(l, n, 50000)
			checkNoNumber(t, fmt.Sprint("band of ", l, " at ", n), band, code, impl.ErrInvalid)
		}
	}
	for _, l := range sampleLeadings() {
		for _, p := range append(invalidPlaces(), at(200001, -1), at(1<<32+1000, 1000)) {
			checkInvalidLine(t, l, p)
		}
	}
}

// checkInvalidLine asks for a line and a place one of which is not valid.
func checkInvalidLine(t *testing.T, l impl.Leading, p impl.Point) {
	t.Helper()
	what := fmt.Sprint(l, " at ", p)
	n, code := impl.OffLine(l, p)
	checkNoNumber(t, "number of metres beside "+what, n, code, impl.ErrInvalid)
	n, code = impl.AheadOf(l, p)
	checkNoNumber(t, "number of metres in front of "+what, n, code, impl.ErrInvalid)
	n, code = impl.OpenOf(l, p)
	checkNoNumber(t, "opening of "+what, n, code, impl.ErrInvalid)
	for _, limit := range []int64{0, 100000, 100001} {
		check(t, "whether the lights are in line: "+what, impl.InLine(l, p, limit), false)
	}
	for _, eye := range []int64{0, 30, -1, 3001} {
		checkNoSight(t, l, p, eye, impl.ErrInvalid)
	}
}

func TestP16ShipsSteerFromTheFrontToTheRearLight(t *testing.T) {
	for _, l := range sampleLeadings() {
		bearing, code := impl.SteerOf(l)
		checkNumber(t, fmt.Sprint("the bearing of ", l), bearing, code, bearingOf(l.Front, l.Rear))
	}
	for _, c := range []struct{ x, y, want int64 }{
		{0, 1, 0}, {1, 0, 90}, {0, -1, 180}, {-1, 0, 270}, {1, 1, 45}, {1, -1, 135}, {-1, -1, 225}, {-1, 1, 315}, {-38, 4363, 0}, {-39, 4363, 359}, {100000, 0, 90},
	} {
		bearing, code := impl.SteerOf(leading(at(100000, 100000), at(100000+c.x, 100000+c.y), 50, 90))
		checkNumber(t, fmt.Sprint("the bearing of the line to ", c.x, c.y), bearing, code, c.want)
	}
}

func TestP16PlacesAreBesideTheLineAndInFrontOfIt(t *testing.T) {
	signs := map[[2]bool]int{}
	eachLineAndPlace(func(l impl.Leading, p impl.Point) {
		what := fmt.Sprint(l, " at ", p)
		off, code := impl.OffLine(l, p)
		checkNumber(t, "the metres beside "+what, off, code, offModel(l, p))
		ahead, code := impl.AheadOf(l, p)
		checkNumber(t, "the metres in front of "+what, ahead, code, aheadModel(l, p))
		if side := impl.SideOf(l.Front, l.Rear, p); off > 0 && side != 1 || off < 0 && side != -1 {
			t.Errorf("%s is %d metres beside the line, on the side %d", what, off, side)
		}
		// Toward the rear light there is no sea.
		if ahead > 0 && distanceModel(p, l.Rear) < distanceModel(p, l.Front) {
			t.Errorf("%s is nearer to the rear light, and %d metres in front of the lights", what, ahead)
		}
		signs[[2]bool{off > 0, ahead > 0}]++
	})
	for _, key := range [][2]bool{{true, true}, {true, false}, {false, true}, {false, false}} {
		if signs[key] < 500 {
			t.Errorf("the places are beside and in front of the lines %v times", signs)
		}
	}
}

func TestP16PlacesAtALine(t *testing.T) {
	north, steep, corners := leading(at(1000, 1000), at(1000, 2000), 50, 90), leading(at(10, 10), at(11, 12), 50, 90), leading(at(0, 0), at(200000, 200000), 50, 90)
	for _, c := range []struct {
		l                impl.Leading
		x, y, off, ahead int64
	}{
		{north, 1100, 0, -100, 1000}, {north, 900, 0, 100, 1000}, {north, 1000, 0, 0, 1000}, {north, 1000, 999, 0, 1}, {north, 1000, 1000, 0, 0}, {north, 1000, 1001, 0, -1}, {north, 1000, 2000, 0, -1000}, {north, 1000, 3000, 0, -2000},
		{north, 900, 1000, 100, 0}, {north, 1100, 1500, -100, -500}, {north, 1100, 5000, -100, -4000}, {north, 200000, 200000, -199000, -199000},
		// The Distance of these lights is 2, so that halves occur: they are rounded away from 0.
		{steep, 10, 11, 1, -1}, {steep, 10, 9, -1, 1}, {steep, 11, 10, -1, -1}, {steep, 9, 10, 1, 1}, {steep, 10, 13, 2, -3}, {steep, 10, 7, -2, 3}, {steep, 11, 12, 0, -3}, {steep, 9, 8, 0, 3}, {steep, 12, 9, -3, 0}, {steep, 11, 9, -2, 1}, {steep, 9, 11, 2, -1},
		{corners, 200000, 0, -141422, -141422}, {corners, 0, 200000, 141422, -141422}, {corners, 200000, 200000, 0, -282843},
	} {
		off, code := impl.OffLine(c.l, at(c.x, c.y))
		checkNumber(t, fmt.Sprint("the metres beside ", c), off, code, c.off)
		ahead, code := impl.AheadOf(c.l, at(c.x, c.y))
		checkNumber(t, fmt.Sprint("the metres in front of ", c), ahead, code, c.ahead)
	}
}

func TestP16LightsAreOpenBesideTheLine(t *testing.T) {
	opened := 0
	eachLineAndPlace(func(l impl.Leading, p impl.Point) {
		what := fmt.Sprint(l, " at ", p)
		got, code := impl.OpenOf(l, p)
		if p == l.Front || p == l.Rear {
			checkNoNumber(t, "opening of "+what, got, code, impl.ErrState)
			return
		}
		checkNumber(t, "the opening of "+what, got, code, openModel(l, p))
		back, _ := impl.OpenOf(leading(l.Rear, l.Front, l.Low, l.High), p)
		check(t, "the opening of both lights in the other order: "+what, back, -got)
		if side := impl.SideOf(l.Front, l.Rear, p); got > 0 && side != 1 || got < 0 && side != -1 {
			t.Errorf("%s has the opening %d, on the side %d", what, got, side)
		}
		if got != 0 {
			opened++
		}
	})
	if opened < 2000 {
		t.Errorf("the lights are open at %d places only", opened)
	}
	for _, c := range []struct {
		l          impl.Leading
		x, y, want int64
	}{
		{leading(at(1000, 1000), at(1000, 2000), 50, 90), 1100, 0, -49751}, {leading(at(1000, 1000), at(1000, 2000), 50, 90), 900, 0, 49751}, {leading(at(1000, 1000), at(1000, 2000), 50, 90), 1000, 1500, 0}, {leading(at(1000, 1000), at(1000, 2000), 50, 90), 1000, 9000, 0},
		{leading(at(1000, 1000), at(1000, 2000), 50, 90), 1500, 1500, -1000302}, {leading(at(0, 0), at(0, 4), 0, 1), 3, 4, -800000}, {leading(at(0, 0), at(4, 0), 0, 1), 4, 3, 800000},
		{leading(at(0, 0), at(200000, 0), 0, 1), 0, 200000, 707109}, {leading(at(0, 0), at(200000, 0), 0, 1), 100000, 100000, 1000005},
		// The Distances are 8 and 16, so that halves occur: they are rounded away from 0.
		{leading(at(101, 108), at(106, 115), 0, 1), 100, 100, -257813}, {leading(at(99, 108), at(94, 115), 0, 1), 100, 100, 257813},
	} {
		got, code := impl.OpenOf(c.l, at(c.x, c.y))
		checkNumber(t, fmt.Sprint("the opening of ", c), got, code, c.want)
	}
}

// eachPlaceOn visits places that are exactly on a line: those in front of the lights,
// and those at the lights, between them and behind them.
func eachPlaceOn(l impl.Leading, visit func(p impl.Point, isAhead bool)) {
	x, y := l.Rear.X-l.Front.X, l.Rear.Y-l.Front.Y
	divisor := max(x, -x, y, -y)
	for x%divisor != 0 || y%divisor != 0 {
		divisor--
	}
	for _, i := range []int64{-200000, -7777, -1000, -divisor - 1, -divisor, -10, -2, -1, 0, 1, divisor / 2, divisor - 1, divisor, divisor + 1, 2 * divisor, 100000} {
		p := at(l.Front.X+i*(x/divisor), l.Front.Y+i*(y/divisor))
		if impl.ValidPoint(p) {
			visit(p, i < 0)
		}
	}
}

func TestP16OnALeadingLineTheLightsAreInLine(t *testing.T) {
	visits := map[bool]int{}
	for _, l := range sampleLeadings() {
		eachPlaceOn(l, func(p impl.Point, isAhead bool) {
			visits[isAhead]++
			what := fmt.Sprint(l, " at ", p)
			off, code := impl.OffLine(l, p)
			checkNumber(t, "the metres beside "+what, off, code, 0)
			ahead, code := impl.AheadOf(l, p)
			check(t, "whether it is in front of "+what, fmt.Sprint(ahead > 0, code), fmt.Sprint(isAhead, impl.OK))
			if p != l.Front && p != l.Rear {
				open, code := impl.OpenOf(l, p)
				checkNumber(t, "the opening of "+what, open, code, 0)
			}
			for _, limit := range []int64{0, 1, 50000, 99999, 100000} {
				check(t, fmt.Sprint("whether the lights are in line within ", limit, ": ", what), impl.InLine(l, p, limit), isAhead)
			}
			for _, limit := range numbersBeyond(0, impl.MaxOpen) {
				check(t, fmt.Sprint("whether the lights are in line within ", limit, ": ", what), impl.InLine(l, p, limit), false)
			}
		})
	}
	if visits[true] < 500 || visits[false] < 500 {
		t.Errorf("the places on the lines are in front of the lights %v times", visits)
	}
}

func TestP16LightsAreInLineWithinALimit(t *testing.T) {
	found := map[bool]int{}
	eachLineAndPlace(func(l impl.Leading, p impl.Point) {
		open, isLight := int64(0), p == l.Front || p == l.Rear
		if !isLight {
			open = openModel(l, p)
		}
		size := max(open, -open)
		for _, limit := range []int64{-1, 0, 1, 99999, 100000, 100001, size - 1, size, size + 1} {
			want := !isLight && limit >= size && limit <= 100000 && aheadModel(l, p) > 0
			found[want]++
			check(t, fmt.Sprint("whether the lights are in line within ", limit, ": ", l, " at ", p), impl.InLine(l, p, limit), want)
		}
	})
	if found[true] < 2000 || found[false] < 2000 {
		t.Errorf("the lights are in line %v times", found)
	}
}

func TestP16BehindTheLightsNothingIsInLine(t *testing.T) {
	l := leading(at(1000, 1000), at(1000, 2000), 50, 90)
	for _, c := range []struct {
		x, y, limit int64
		want        bool
	}{
		{1100, 0, 49751, true}, {1100, 0, 49750, false}, {900, 0, 49751, true}, {900, 0, 49750, false}, {1000, 0, 0, true}, {1000, 999, 0, true}, {1001, 0, 0, false},
		{1000, 1000, 100000, false}, {1000, 1001, 100000, false}, {1000, 1500, 100000, false}, {1000, 2000, 100000, false}, {1000, 2001, 100000, false}, {1000, 3000, 0, false}, {1000, 200000, 100000, false}, {1001, 3000, 100000, false},
		// Beside the front light the ship is not yet in front of it.
		{200000, 1000, 100000, false}, {200000, 999, 100000, true}, {0, 1000, 100000, false}, {200000, 1001, 100000, false},
		{1000, 0, 100000, true}, {1000, 0, 100001, false}, {1000, 0, -1, false},
	} {
		check(t, fmt.Sprint("whether the lights are in line: ", c), impl.InLine(l, at(c.x, c.y), c.limit), c.want)
	}
}

func TestP16LessThanHalfAMetreIsNotInFront(t *testing.T) {
	thirds, halves := leading(at(1000, 1000), at(1001, 1003), 50, 90), leading(at(1000, 1000), at(1001, 1002), 50, 90)
	for _, c := range []struct {
		l       impl.Leading
		x, y    int64
		isAhead bool
	}{
		{thirds, 701, 1100, false}, {thirds, 700, 1100, false}, {thirds, 699, 1100, false}, {thirds, 698, 1100, true}, {thirds, 1299, 900, false}, {thirds, 1298, 900, true},
		{halves, 801, 1100, false}, {halves, 800, 1100, false}, {halves, 799, 1100, true}, {halves, 1200, 900, false}, {halves, 1199, 900, true},
	} {
		p := at(c.x, c.y)
		what := fmt.Sprint(c.l, " at ", p)
		check(t, "whether the lights are in line: "+what, impl.InLine(c.l, p, 100000), c.isAhead)
		if !c.isAhead {
			checkNoSight(t, c.l, p, 30, impl.ErrState)
			continue
		}
		_, code := impl.RearAbove(c.l, p, 30)
		check(t, "the code of "+what, code, impl.OK)
		checkLeastRear(t, c.l, p, 30)
	}
}

func rootModel(n int64) int64 {
	root := int64(math.Sqrt(float64(n)))
	for root*root > n {
		root--
	}
	for (root+1)*(root+1) <= n {
		root++
	}
	return root
}

// areNarrowModel are, for all numbers of metres beside a line up to MaxBand, whether
// the lights are open by at most a limit.
func areNarrowModel(n, d, limit int64) []bool {
	list := make([]bool, 5001)
	for v := range int64(len(list)) {
		list[v] = 1000000*v*n <= limit*rootModel(d*d+v*v)*rootModel((d+n)*(d+n)+v*v)
	}
	return list
}

func bandModel(n, d, limit int64) int64 {
	first := slices.Index(areNarrowModel(n, d, limit), false)
	if first < 0 {
		return 5000
	}
	return int64(first) - 1
}

// limitsNear are limits of openings, many of them near the greatest opening at a distance.
func limitsNear(n, d int64) []int64 {
	widest := 1000000 * n / (2*d + n)
	list := []int64{0, 1, 2, 1000, 50000, 99999, 100000}
	for _, step := range []int64{0, 1, 5, 40, 300, 2000, 9000} {
		list = append(list, widest-step, widest+step)
	}
	return slices.DeleteFunc(list, func(limit int64) bool { return limit < 0 || limit > 100000 })
}

func TestP16BandsAreAsWideAsTheLightsAreInLine(t *testing.T) {
	kinds := map[string]int{}
	for i, n := range []int64{1, 2, 3, 7, 10, 60, 100, 450, 1000, 5000, 30000, 100000} {
		for j, d := range []int64{1, 2, 5, 10, 99, 500, 1000, 4000, 4800, 10000, 60000, 99999, 100000} {
			l := northward(n)
			if (i+j)%2 == 1 {
				l = leading(at(100000, 100000), at(100000-n, 100000), 0, 3000)
			}
			for _, limit := range limitsNear(n, d) {
				got, code := impl.BandAt(l, d, limit)
				want := bandModel(n, d, limit)
				checkNumber(t, fmt.Sprint("the band of ", l, " at ", d, " within ", limit), got, code, want)
				again := want < 5000 && slices.Contains(areNarrowModel(n, d, limit)[want+1:], true)
				kinds[fmt.Sprint("none ", want == 0, ", full ", want == 5000, ", again ", again)]++
			}
		}
	}
	for _, kind := range []string{"none true, full false, again false", "none true, full false, again true", "none false, full false, again false", "none false, full false, again true", "none false, full true, again false"} {
		if kinds[kind] < 20 {
			t.Errorf("the bands are of the kinds %v", kinds)
		}
	}
}

func TestP16BandsOfLines(t *testing.T) {
	corners := leading(at(0, 0), at(200000, 200000), 50, 90)
	for _, c := range []struct {
		l                     impl.Leading
		distance, limit, want int64
	}{
		{northward(1000), 1000, 50000, 100}, {northward(1000), 1000, 0, 0}, {northward(1000), 1000, 499, 0}, {northward(1000), 1000, 500, 1}, {northward(1000), 1000, 2000, 4}, {northward(1000), 1000, 100000, 205},
		// Farther beside the lights they close again.
		{northward(1), 1, 100000, 0}, {northward(10), 100, 47000, 85}, {northward(10), 100, 48000, 98}, {northward(10), 100, 49000, 5000}, {northward(1), 100000, 1, 5000}, {northward(1), 100000, 100000, 5000},
		{corners, 100000, 100000, 5000}, {corners, 1, 100000, 0}, {corners, 1000, 100000, 100}, {corners, 30000, 100000, 3338}, {corners, 100000, 1000, 135}, {northward(100000), 100000, 100000, 5000},
		// The Distance of these lights is 1.
		{leading(at(5, 5), at(6, 6), 0, 1), 1000, 500, 963},
	} {
		got, code := impl.BandAt(c.l, c.distance, c.limit)
		checkNumber(t, fmt.Sprint("the band of ", c), got, code, c.want)
	}
}

func TestP16PlacesInTheBandAreInLine(t *testing.T) {
	for _, n := range []int64{1, 10, 100, 1000, 20000, 100000} {
		l := northward(n)
		for _, d := range []int64{1, 10, 500, 4000, 40000, 100000} {
			for _, limit := range limitsNear(n, d) {
				band, _ := impl.BandAt(l, d, limit)
				for _, w := range []int64{0, 1, band / 3, band - 1, band} {
					if w < 0 || w > band {
						continue
					}
					for _, x := range []int64{-w, w} {
						p := at(100000+x, 100000-d)
						check(t, fmt.Sprint("whether the lights are in line within ", limit, ": ", l, " at ", p), impl.InLine(l, p, limit), true)
					}
				}
				if band == impl.MaxBand {
					continue
				}
				open, _ := impl.OpenOf(l, at(100000-band-1, 100000-d))
				if open < limit {
					t.Errorf("%v is open by %d beside the band %d at %d within %d", l, open, band, d, limit)
				}
			}
		}
	}
}

func TestP16BandsHaveLimits(t *testing.T) {
	l := northward(1000)
	for _, distance := range append(numbersBeyond(1, impl.MaxRange), 1<<32+1000) {
		for _, limit := range []int64{0, 50000, -1, 100001} {
			band, code := impl.BandAt(l, distance, limit)
			checkNoNumber(t, fmt.Sprint("band at ", distance, " within ", limit), band, code, impl.ErrRange)
		}
	}
	for _, limit := range append(numbersBeyond(0, impl.MaxOpen), 1<<32+50000) {
		for _, distance := range []int64{1, 1000, 100000, 0} {
			band, code := impl.BandAt(l, distance, limit)
			checkNoNumber(t, fmt.Sprint("band at ", distance, " within ", limit), band, code, impl.ErrRange)
		}
	}
}

// checkNoSight asks for what is not seen because of an error.
func checkNoSight(t *testing.T, l impl.Leading, p impl.Point, eye, want int64) {
	t.Helper()
	what := fmt.Sprint(l, " at ", p, " from ", eye)
	isAbove, code := impl.RearAbove(l, p, eye)
	check(t, "whether the rear light is seen above: "+what, fmt.Sprint(isAbove, code), fmt.Sprint(false, want))
	high, code := impl.LeastRear(l, p, eye)
	checkNoNumber(t, "height of the rear light: "+what, high, code, want)
}

func eyesFor(l impl.Leading) []int64 {
	list := []int64{0, 1, 30, 2999, 3000, l.Low - 1, l.Low, l.Low + 1, l.High, l.High + 1}
	return slices.DeleteFunc(list, func(eye int64) bool { return eye < 0 || eye > 3000 })
}

func TestP16RearLightsAreSeenAboveFrontLights(t *testing.T) {
	seen := map[bool]int{}
	eachLineAndPlace(func(l impl.Leading, p impl.Point) {
		isAhead := aheadModel(l, p) > 0
		for _, eye := range eyesFor(l) {
			if !isAhead {
				checkNoSight(t, l, p, eye, impl.ErrState)
				continue
			}
			want := aboveModel(l, l.High, p, eye)
			seen[want]++
			got, code := impl.RearAbove(l, p, eye)
			check(t, fmt.Sprint("whether the rear light is seen above: ", l, " at ", p, " from ", eye), fmt.Sprint(got, code), fmt.Sprint(want, impl.OK))
			checkLeastRear(t, l, p, eye)
		}
	})
	if seen[true] < 2000 || seen[false] < 2000 {
		t.Errorf("the rear lights are seen above %v times", seen)
	}
}

// checkLeastRear asks for the least height of a rear light at a place in front of the lights.
func checkLeastRear(t *testing.T, l impl.Leading, p impl.Point, eye int64) {
	t.Helper()
	what := fmt.Sprint(l, " at ", p, " from ", eye)
	got, code := impl.LeastRear(l, p, eye)
	if !aboveModel(l, 3000, p, eye) {
		checkNoNumber(t, "height of the rear light: "+what, got, code, impl.ErrNotFound)
		return
	}
	check(t, "whether there is a height of the rear light: "+what, code, impl.OK)
	if got <= l.Low || got > 3000 || !aboveModel(l, got, p, eye) || got > l.Low+1 && aboveModel(l, got-1, p, eye) {
		t.Errorf("%s: the least height of the rear light is %d", what, got)
	}
	l.High = got
	isAbove, _ := impl.RearAbove(l, p, eye)
	check(t, "whether the least rear light is seen above: "+what, isAbove, true)
	if l.High--; l.High > l.Low {
		isAbove, code = impl.RearAbove(l, p, eye)
		check(t, "whether a lower rear light is seen above: "+what, fmt.Sprint(isAbove, code), "false 0")
	}
}

func TestP16LeastHeightsDoNotDependOnTheRearLight(t *testing.T) {
	for _, l := range sampleLeadings() {
		for _, p := range placesAround(l) {
			want, wantCode := impl.LeastRear(l, p, 30)
			for _, high := range []int64{l.Low + 1, 3000} {
				got, code := impl.LeastRear(leading(l.Front, l.Rear, l.Low, high), p, 30)
				check(t, fmt.Sprint("the least height of ", l, " at ", p, " instead of ", high), [2]int64{got, code}, [2]int64{want, wantCode})
			}
		}
	}
}

func TestP16HeightsOfLights(t *testing.T) {
	for _, c := range []struct {
		y, low, high, eye int64
		isAbove           bool
		least             int64
	}{
		// 1000 m in front of the lights, the rear light is twice as far away as the front light.
		{0, 50, 90, 0, false, 101}, {0, 50, 100, 0, false, 101}, {0, 50, 101, 0, true, 101}, {0, 40, 90, 0, true, 81}, {0, 50, 90, 20, true, 81}, {0, 50, 80, 20, false, 81},
		{0, 50, 90, 50, true, 51}, {0, 50, 51, 50, true, 51}, {0, 50, 51, 49, false, 52}, {0, 50, 51, 51, true, 51}, {0, 50, 51, 60, true, 51}, {0, 50, 51, 3000, true, 51},
		{0, 0, 1, 0, true, 1}, {0, 1499, 3000, 0, true, 2999}, {0, 1499, 2998, 0, false, 2999}, {0, 2999, 3000, 3000, true, 3000}, {0, 2999, 3000, 2999, true, 3000},
		// 1 m in front of them it is 1001 times as far away, and a little higher is enough only from the eye's height on.
		{999, 2, 2003, 0, true, 2003}, {999, 2, 2002, 0, false, 2003}, {999, 3, 3000, 1, true, 2004}, {999, 100, 101, 100, true, 101}, {999, 100, 1101, 99, true, 1101}, {999, 100, 1100, 99, false, 1101},
	} {
		l, p := leading(at(1000, 1000), at(1000, 2000), c.low, c.high), at(1000, c.y)
		isAbove, code := impl.RearAbove(l, p, c.eye)
		check(t, fmt.Sprint("whether the rear light is seen above: ", c), fmt.Sprint(isAbove, code), fmt.Sprint(c.isAbove, impl.OK))
		high, code := impl.LeastRear(l, p, c.eye)
		checkNumber(t, fmt.Sprint("the least height of the rear light: ", c), high, code, c.least)
	}
	// No height up to MaxHeight is enough.
	for _, c := range [][4]int64{{0, 1500, 1600, 0}, {0, 2000, 2001, 0}, {0, 2999, 3000, 2998}, {999, 3, 4, 0}, {999, 2999, 3000, 0}} {
		l, p := leading(at(1000, 1000), at(1000, 2000), c[1], c[2]), at(1000, c[0])
		isAbove, code := impl.RearAbove(l, p, c[3])
		check(t, fmt.Sprint("whether the rear light is seen above: ", c), fmt.Sprint(isAbove, code), "false 0")
		high, code := impl.LeastRear(l, p, c[3])
		checkNoNumber(t, fmt.Sprint("height of the rear light: ", c), high, code, impl.ErrNotFound)
	}
}

func TestP16BehindTheLightsNoneIsSeenAbove(t *testing.T) {
	l := leading(at(1000, 1000), at(1000, 2000), 50, 90)
	for _, p := range []impl.Point{l.Front, l.Rear, at(1000, 1001), at(1000, 1500), at(1000, 1999), at(1000, 2001), at(1000, 9000), at(0, 1000), at(200000, 1000), at(0, 3000)} {
		for _, eye := range []int64{0, 30, 50, 90, 3000} {
			checkNoSight(t, l, p, eye, impl.ErrState)
		}
		for _, eye := range numbersBeyond(0, impl.MaxHeight) {
			checkNoSight(t, l, p, eye, impl.ErrRange)
		}
	}
	for _, p := range []impl.Point{at(1000, 0), at(0, 999), at(200000, 999)} {
		for _, eye := range append(numbersBeyond(0, impl.MaxHeight), 1<<32+30) {
			checkNoSight(t, l, p, eye, impl.ErrRange)
		}
		_, code := impl.RearAbove(l, p, 0)
		check(t, fmt.Sprint("the code at ", p), code, impl.OK)
	}
}

func checkDesign(t *testing.T, what string, got impl.Leading, code int64, want impl.Leading, wantCode int64) {
	t.Helper()
	if got != want || code != wantCode {
		t.Errorf("%s: got %v %d, want %v %d", what, got, code, want, wantCode)
	}
}

func TestP16LinesAreDesignedInADirection(t *testing.T) {
	codes := map[int64]int{}
	for i, front := range append(fewPlaces(), at(500, 199000), at(60000, 70000)) {
		for bearing := range int64(360) {
			for j, distance := range []int64{1, 2, 57, 1000, 99999, 100000} {
				if (i+j+int(bearing))%3 != 0 {
					continue
				}
				low, high := 7*bearing, 7*bearing+1+int64(j)
				want, wantCode := leading(front, at(front.X+roundedMillionths(distance*impl.Sine(bearing)), front.Y+roundedMillionths(distance*impl.Cosine(bearing))), low, high), int64(impl.OK)
				if max(want.Rear.X, want.Rear.Y) > 200000 || min(want.Rear.X, want.Rear.Y) < 0 {
					want, wantCode = impl.Leading{}, impl.ErrState
				}
				codes[wantCode]++
				got, code := impl.DesignLeading(front, bearing, distance, low, high)
				checkDesign(t, fmt.Sprint("the line from ", front, " to ", bearing, distance), got, code, want, wantCode)
			}
		}
	}
	if codes[impl.OK] < 2000 || codes[impl.ErrState] < 2000 {
		t.Errorf("the designed lines have the codes %v", codes)
	}
}

func TestP16OnADesignedLineTheLightsAreInLine(t *testing.T) {
	for bearing := range int64(360) {
		for _, distance := range []int64{200, 1000, 40000} {
			l, code := impl.DesignLeading(at(100000, 100000), bearing, distance, 50, 90)
			what := fmt.Sprint("the line to ", bearing, distance)
			check(t, "the code of "+what, code, impl.OK)
			check(t, "whether it is valid: "+what, impl.ValidLeading(l), true)
			steered, _ := impl.SteerOf(l)
			check(t, "the bearing of "+what, steered, bearing)
			for _, d := range []int64{distance / 3, distance / 2, distance} {
				// Both the rear light and the ship are at whole metres, and so at most a metre beside.
				p, _ := impl.Move(l.Front, bearing+180, d)
				off, _ := impl.OffLine(l, p)
				ahead, _ := impl.AheadOf(l, p)
				if max(off, -off) > 2 || max(ahead-d, d-ahead) > 1 {
					t.Errorf("%s: a ship at %d is %d beside it and %d in front of it", what, d, off, ahead)
				}
				check(t, fmt.Sprint("whether the lights are in line at ", d, " of ", what), impl.InLine(l, p, 3000000/d), true)
				if bearing%90 == 0 {
					check(t, fmt.Sprint("whether the lights are exactly in line at ", d, " of ", what), impl.InLine(l, p, 0), true)
				}
				behind, _ := impl.Move(l.Front, bearing, d)
				check(t, fmt.Sprint("whether the lights are in line behind, at ", d, " of ", what), impl.InLine(l, behind, 100000), false)
			}
		}
	}
}

func TestP16DesignsHaveLimits(t *testing.T) {
	front := at(1000, 1000)
	checkCode := func(front impl.Point, bearing, distance, low, high, want int64) {
		t.Helper()
		got, code := impl.DesignLeading(front, bearing, distance, low, high)
		checkDesign(t, fmt.Sprint("no line from ", front, " to ", bearing, distance, low, high), got, code, impl.Leading{}, want)
	}
	for _, p := range append(invalidPlaces(), at(1<<32+1000, 1000)) {
		checkCode(p, 90, 500, 10, 20, impl.ErrInvalid)
		checkCode(p, 360, 0, 20, 10, impl.ErrInvalid)
	}
	for _, bearing := range append(numbersBeyond(0, 359), 450, -270, 1<<32+90) {
		checkCode(front, bearing, 500, 10, 20, impl.ErrRange)
		checkCode(front, bearing, 100000, 10, 20, impl.ErrRange)
	}
	for _, distance := range append(numbersBeyond(1, impl.MaxRange), 300000, 1<<32+500) {
		checkCode(front, 90, distance, 10, 20, impl.ErrRange)
		checkCode(front, 270, distance, 10, 20, impl.ErrRange)
	}
	for _, n := range append(numbersBeyond(0, impl.MaxHeight), 1<<32+15) {
		checkCode(front, 90, 500, n, 20, impl.ErrRange)
		checkCode(front, 90, 500, 10, n, impl.ErrRange)
		checkCode(front, 270, 5000, n, 20, impl.ErrRange)
	}
	for _, h := range [][2]int64{{20, 20}, {21, 20}, {0, 0}, {3000, 3000}, {3000, 0}} {
		checkCode(front, 90, 500, h[0], h[1], impl.ErrRange)
		checkCode(front, 180, 1001, h[0], h[1], impl.ErrRange)
	}
	// Each of the four limits of points by itself; the place of a failed move is no light.
	for _, c := range []struct{ bearing, distance int64 }{{180, 1001}, {270, 1001}, {225, 1415}, {135, 2000}, {315, 2000}, {181, 100000}} {
		checkCode(front, c.bearing, c.distance, 10, 20, impl.ErrState)
		checkCode(at(199000, 199000), (c.bearing+180)%360, c.distance, 10, 20, impl.ErrState)
	}
	for _, c := range []struct{ bearing, distance, x, y int64 }{{180, 1000, 1000, 0}, {270, 1000, 0, 1000}, {90, 500, 1500, 1000}, {0, 100000, 1000, 101000}, {225, 1414, 0, 0}, {359, 1, 1000, 1001}, {45, 1, 1001, 1001}} {
		got, code := impl.DesignLeading(front, c.bearing, c.distance, 0, 3000)
		checkDesign(t, fmt.Sprint("the line to ", c), got, code, leading(front, at(c.x, c.y), 0, 3000), impl.OK)
	}
}

// leadingModel is the text of a leading line.
func leadingModel(l impl.Leading) string {
	return fmt.Sprintf("%d,%d %d,%d %d %d", l.Front.X, l.Front.Y, l.Rear.X, l.Rear.Y, l.Low, l.High)
}

func TestP16LeadingLinesAreRestoredFromTheirTexts(t *testing.T) {
	for _, l := range sampleLeadings() {
		text := leadingModel(l)
		check(t, fmt.Sprint("the text of ", l), impl.LeadingText(l), text)
		read, ok := impl.ReadLeading(text)
		check(t, text+" is read", ok, true)
		check(t, "the line of "+text, read, l)
	}
	check(t, "the text of a line", impl.LeadingText(leading(at(1000, 1000), at(1000, 2000), 50, 90)), "1000,1000 1000,2000 50 90")
}

func checkNoLeading(t *testing.T, s string) {
	t.Helper()
	l, ok := impl.ReadLeading(s)
	check(t, fmt.Sprintf("%.90q is read", s), ok, false)
	check(t, fmt.Sprintf("the line of %.90q", s), l, impl.Leading{})
}

func TestP16OtherTextsHaveNoLeadingLine(t *testing.T) {
	good := []string{"1000,1000", "1000,2000", "50", "90"}
	points := []string{"", "-", "1000", "1000,", ",1000", "5,5,5", "5;5", "-1,5", "5,-1", "-0,5", "200001,0", "0,200001", "05,5", "5,+5", "(5,5)", "5,05", "x", strings.Repeat("1", 10000)}
	heights := []string{"", "-", "-1", "-50", "-0", "+50", "050", "50m", "50.0", "5e1", "0x32", "3001", "4294967346", "18446744073709551666", "\uff15\uff10", strings.Repeat("1", 10000)}
	others := [][]string{append(points, good[1]), append(points, good[0]), append(heights, "90", "91", "3000"), append(heights, "50", "49", "0")}
	checkWrongWords(t, good, others, checkNoLeading)
	checkMissingWords(t, good, checkNoLeading)
	all := strings.Join(good, " ")
	for _, s := range []string{"", " ", "   ", all + " ", " " + all, all + "\n", all + " 0", strings.ReplaceAll(all, " ", "\t"), strings.ReplaceAll(all, " ", "  "), strings.ReplaceAll(all, " ", ""), strings.ReplaceAll(all, " ", ","), all + " " + all, "50 90 1000,1000 1000,2000", "0,0 0,0 0 0", "0,0 0,0 0 1", "x y 0 1", "0,0 y 0 1", "x 0,0 0 1", "0,0 0,1 x 1", "0,0 0,1 0 x", strings.Repeat(" ", 100000), strings.Repeat(all+" ", 1000)} {
		checkNoLeading(t, s)
	}
}

var leadingForm = regexp.MustCompile(`^([0-9]+),([0-9]+) ([0-9]+),([0-9]+) ([0-9]+) ([0-9]+)$`)

func isLeadingText(s string) bool {
	parts := leadingForm.FindStringSubmatch(s)
	if parts == nil {
		return false
	}
	for i, part := range parts[1:] {
		if !isNumberText(part, 0, []int64{200000, 200000, 200000, 200000, 3000, 3000}[i]) {
			return false
		}
	}
	low, high := parts[5], parts[6]
	isLower := len(low) < len(high) || len(low) == len(high) && low < high
	return isLower && (parts[1] != parts[3] || parts[2] != parts[4])
}

func TestP16ChangedTextsHaveLeadingLinesIfTheyAreCanonical(t *testing.T) {
	texts := []string{"1000,1000 1000,2000 50 90", "0,0 0,1 0 1", "200000,200000 199999,199999 2999 3000", "9,10 19,10 199 299", "19999,99 5,20000 99 100"}
	checkChangedTexts(t, texts, 1000, isLeadingText, func(s string) (string, bool) {
		l, ok := impl.ReadLeading(s)
		return leadingModel(l), ok
	}, checkNoLeading)
}

// leadingAnswers prints the results of all functions of chapter 15.
func leadingAnswers(l impl.Leading, p impl.Point, n, limit int64) string {
	steered, one := impl.SteerOf(l)
	off, two := impl.OffLine(l, p)
	ahead, three := impl.AheadOf(l, p)
	open, four := impl.OpenOf(l, p)
	band, five := impl.BandAt(l, n, limit)
	isAbove, six := impl.RearAbove(l, p, n)
	least, seven := impl.LeastRear(l, p, n)
	designed, eight := impl.DesignLeading(p, limit, n, l.Low, l.High)
	text := impl.LeadingText(l)
	read, ok := impl.ReadLeading(text)
	return fmt.Sprint(impl.ValidLeading(l), steered, one, off, two, ahead, three, open, four, impl.InLine(l, p, limit), band, five,
		isAbove, six, least, seven, designed, eight, text, read, ok)
}

func TestP1LeadingLinesHaveEqualResults(t *testing.T) {
	numbers := append(extremeNumbers(), 2, 30, 90, 359, 360, 2999, 3000, 3001, 99999, 100000, 100001, 199999, 200000, 200001)
	checkEqualResults(t, numbers, func(a, b, c int64) string {
		return leadingAnswers(leading(at(a, b), at(b, c), c, a), at(c, 7), a, b) +
			leadingAnswers(leading(at(1000, 1000), at(1000, 2000), 50, 90), at(a, b), c, a) +
			leadingAnswers(leading(at(1000, 1000), at(1000, 2000), a, b), at(1000, 0), 30, c)
	})
	for i, l := range append(invalidLeadings(), sampleLeadings()...) {
		p := samplePlaces()[i%len(samplePlaces())]
		check(t, fmt.Sprint("the second results for ", l), leadingAnswers(l, p, 30, 90), leadingAnswers(l, p, 30, 90))
	}
	checkEqualReadings(t, func(s string) string { return fmt.Sprint(impl.ReadLeading(s)) },
		"1000,1000 1000,2000 50 90", "1000,1000 1000,2000 50", "1000,1000 1000,1000 50 90")
}

func TestP1LeadingLinesDoNotDisturbEachOther(t *testing.T) {
	checkUndisturbed(t, func(n int64) string {
		l := sampleLeadings()[9*n+20]
		return leadingAnswers(l, placesAround(l)[n], 100*n, 20*n) + leadingAnswers(northward(n+1), at(100000-n, 90000), n+1, 90)
	})
}
