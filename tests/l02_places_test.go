package tests

import (
	"fmt"
	"math"
	"math/big"
	"slices"
	"strconv"
	"strings"
	"testing"

	"loop.example/g00953/impl"
)

func at(x, y int64) impl.Point {
	return impl.Point{X: x, Y: y}
}

// samplePlaces are valid points: corners, edges, and points close to each other.
func samplePlaces() []impl.Point {
	var list []impl.Point
	numbers := []int64{0, 1, 2, 5, 77777, 100000, 100001, 199998, 199999, 200000}
	for _, x := range numbers {
		for _, y := range numbers {
			list = append(list, at(x, y))
		}
	}
	return list
}

// fewPlaces are some of the sample places, for tests of three points.
func fewPlaces() []impl.Point {
	return []impl.Point{at(0, 0), at(0, 1), at(1, 0), at(2, 3), at(3, 14), at(100000, 100000), at(77777, 5), at(0, 200000), at(200000, 0), at(199999, 200000), at(200000, 200000)}
}

func invalidPlaces() []impl.Point {
	list := []impl.Point{}
	for _, n := range []int64{-1, 200001, math.MinInt64, math.MaxInt64} {
		list = append(list, at(n, 7), at(7, n), at(n, n))
	}
	return list
}

// manyAngles are all angles of some turns, and those at the limits of an int64.
func manyAngles() []int64 {
	var list []int64
	for d := int64(-800); d <= 800; d++ {
		list = append(list, d)
	}
	for d := range int64(400) {
		list = append(list, math.MinInt64+d, math.MaxInt64-d)
	}
	return list
}

// sameAngle returns the number from 0 to 359 that is the same angle, computed without limits.
func sameAngle(degrees *big.Int) int64 {
	return new(big.Int).Mod(degrees, big.NewInt(360)).Int64()
}

func squareOfDistance(a, b impl.Point) int64 {
	return (a.X-b.X)*(a.X-b.X) + (a.Y-b.Y)*(a.Y-b.Y)
}

func TestP3ValidPoints(t *testing.T) {
	check(t, "MaxCoordinate", impl.MaxCoordinate, 200000)
	check(t, "MaxPlaces", impl.MaxPlaces, 64)
	for _, p := range samplePlaces() {
		check(t, fmt.Sprint(p), impl.ValidPoint(p), true)
	}
	for _, p := range invalidPlaces() {
		check(t, fmt.Sprint(p), impl.ValidPoint(p), false)
	}
}

func TestP3SinesOfAllAngles(t *testing.T) {
	for _, d := range manyAngles() {
		angle := big.NewInt(d)
		radians := float64(sameAngle(angle)) * math.Pi / 180
		check(t, fmt.Sprint("Sine ", d), impl.Sine(d), int64(math.Round(1000000*math.Sin(radians))))
		angle.Add(angle, big.NewInt(90))
		check(t, fmt.Sprint("Cosine ", d), impl.Cosine(d), impl.Sine(sameAngle(angle)))
	}
	for d, want := range map[int64]int64{0: 0, 1: 17452, 9: 156434, 10: 173648, 45: 707107, 89: 999848, 90: 1000000, 91: 999848, 179: 17452, 180: 0, 181: -17452, 270: -1000000, 359: -17452, -1: -17452, 360: 0} {
		check(t, fmt.Sprint("Sine ", d), impl.Sine(d), want)
	}
}

func TestP3TurnsAreTheSmallerAngles(t *testing.T) {
	for _, a := range manyAngles() {
		for _, b := range []int64{0, 1, 10, 179, 180, 181, 350, 359, -1, 720, math.MinInt64, math.MaxInt64} {
			difference := sameAngle(new(big.Int).Sub(big.NewInt(a), big.NewInt(b)))
			want := min(difference, 360-difference)
			check(t, fmt.Sprint("Turn ", a, b), impl.Turn(a, b), want)
			check(t, fmt.Sprint("Turn ", b, a), impl.Turn(b, a), want)
		}
	}
	check(t, "Turn over north", impl.Turn(350, 20), 30)
	check(t, "Turn to the opposite", impl.Turn(10, 190), 180)
}

func TestP3DistancesAreRoundedDown(t *testing.T) {
	for _, a := range samplePlaces() {
		for _, b := range samplePlaces() {
			d, square := impl.Distance(a, b), squareOfDistance(a, b)
			if d < 0 || d*d > square || (d+1)*(d+1) <= square {
				t.Errorf("the distance of %v and %v is %d", a, b, d)
			}
			check(t, fmt.Sprint("the distance of ", b, a), impl.Distance(b, a), d)
			check(t, fmt.Sprint("no distance of ", a, b), d == 0, a == b)
		}
	}
	check(t, "the distance of 0,0 and 3,4", impl.Distance(at(0, 0), at(3, 4)), 5)
	check(t, "the distance of two corners", impl.Distance(at(200000, 0), at(0, 200000)), 282842)
}

// bearingOf tries all directions, as the document does.
func bearingOf(a, b impl.Point) int64 {
	var best, most int64
	for d := range int64(360) {
		sine := math.Round(1000000 * math.Sin(float64(d)*math.Pi/180))
		cosine := math.Round(1000000 * math.Cos(float64(d)*math.Pi/180))
		value := (b.X-a.X)*int64(sine) + (b.Y-a.Y)*int64(cosine)
		if d == 0 || value > most {
			best, most = d, value
		}
	}
	return best
}

func TestP3BearingsAreTheFirstBestDirections(t *testing.T) {
	for _, a := range samplePlaces() {
		for _, b := range samplePlaces() {
			d := impl.Bearing(a, b)
			check(t, fmt.Sprint("the bearing of ", b, " from ", a), d, bearingOf(a, b))
			if a != b && impl.Turn(d+180, impl.Bearing(b, a)) > 1 {
				t.Errorf("the bearing back from %v to %v is %d", b, a, impl.Bearing(b, a))
			}
		}
	}
}

func TestP3BearingsAtTheEndsOfTheCircle(t *testing.T) {
	center := at(100000, 100000)
	for _, c := range []struct{ x, y, want int64 }{
		{0, 1, 0}, {1, 0, 90}, {0, -1, 180}, {-1, 0, 270}, {1, 1, 45}, {1, -1, 135}, {-1, -1, 225}, {-1, 1, 315}, {0, 0, 0},
		// Two directions are equally near: the lesser one, and 0 before 359.
		{-38, 4363, 0}, {38, 4363, 0}, {4363, 38, 89}, {4363, -38, 90}, {38, -4363, 179}, {-38, -4363, 180}, {-4363, -38, 269}, {-4363, 38, 270},
		// A little farther on, one of them is nearer.
		{-39, 4363, 359}, {-37, 4363, 0}, {39, 4363, 1}, {4363, 37, 90}, {4363, -39, 91}, {-4363, -37, 270}, {-4363, 39, 271},
	} {
		check(t, fmt.Sprint("the bearing to ", c.x, c.y), impl.Bearing(center, at(center.X+c.x, center.Y+c.y)), c.want)
	}
	for _, p := range samplePlaces() {
		check(t, fmt.Sprint("the bearing of an equal point ", p), impl.Bearing(p, p), 0)
	}
}

func TestP3MovesGoInTheirDirection(t *testing.T) {
	center := at(100000, 100000)
	for bearing := int64(-360); bearing < 720; bearing++ {
		for _, d := range []int64{0, 1, 2, 59, 200, 12345, 99999, 100000} {
			what := fmt.Sprint("the move by ", d, " toward ", bearing)
			p, code := impl.Move(center, bearing, d)
			check(t, what, code, impl.OK)
			x, y := roundedMillionths(d*impl.Sine(bearing)), roundedMillionths(d*impl.Cosine(bearing))
			check(t, what, p, at(center.X+x, center.Y+y))
			if moved := impl.Distance(center, p); max(moved-d, d-moved) > 1 {
				t.Errorf("%s has the distance %d", what, moved)
			}
			if d >= 200 {
				check(t, what+" has the bearing", impl.Bearing(center, p), sameAngle(big.NewInt(bearing)))
			}
			back, _ := impl.Move(p, bearing+180, d)
			check(t, what+" and back", back, center)
		}
	}
}

// roundedMillionths divides by a million, halves away from 0.
func roundedMillionths(n int64) int64 {
	whole, rest := n/1000000, n%1000000
	switch {
	case rest >= 500000:
		return whole + 1
	case rest <= -500000:
		return whole - 1
	}
	return whole
}

func TestP3MovesAlongBearingsArriveNearby(t *testing.T) {
	for _, a := range fewPlaces() {
		for _, b := range fewPlaces() {
			d := impl.Distance(a, b)
			p, code := impl.Move(a, impl.Bearing(a, b), d)
			if code == impl.ErrState {
				continue
			}
			check(t, fmt.Sprint("the move from ", a, " to ", b), code, impl.OK)
			// Half a degree is less than a hundredth of the distance aside.
			if impl.Distance(p, b) > d/100+2 {
				t.Errorf("the move from %v to %v arrives at %v", a, b, p)
			}
		}
	}
}

func TestP3MovesHaveLimits(t *testing.T) {
	for _, c := range []struct {
		p       impl.Point
		bearing int64
		d       int64
		want    impl.Point
		code    int64
	}{
		{at(1000, 1000), 270, 400, at(600, 1000), impl.OK},
		{at(0, 0), 0, 0, at(0, 0), impl.OK},
		{at(0, 0), 45, 282842, at(200000, 200000), impl.OK},
		{at(0, 0), 0, 200000, at(0, 200000), impl.OK},
		{at(0, 0), 0, 200001, at(0, 0), impl.ErrState},
		{at(0, 0), 45, 300000, at(0, 0), impl.ErrState},
		{at(0, 0), 45, 300001, at(0, 0), impl.ErrRange},
		{at(5, 5), 90, -1, at(0, 0), impl.ErrRange},
		{at(5, 5), 90, math.MinInt64, at(0, 0), impl.ErrRange},
		{at(5, 5), 90, math.MaxInt64, at(0, 0), impl.ErrRange},
		{at(0, 5), 270, 1, at(0, 0), impl.ErrState},
		{at(5, 0), 180, 1, at(0, 0), impl.ErrState},
		{at(200000, 5), 90, 1, at(0, 0), impl.ErrState},
		{at(-1, 0), 90, 1, at(0, 0), impl.ErrInvalid},
		{at(0, 200001), 180, -1, at(0, 0), impl.ErrInvalid},
	} {
		p, code := impl.Move(c.p, c.bearing, c.d)
		check(t, fmt.Sprint("the point of ", c), p, c.want)
		check(t, fmt.Sprint("the code of ", c), code, c.code)
	}
	for _, bearing := range []int64{math.MinInt64, math.MaxInt64} {
		p, _ := impl.Move(at(500, 500), bearing, 300)
		same, _ := impl.Move(at(500, 500), sameAngle(big.NewInt(bearing)), 300)
		check(t, fmt.Sprint("the move toward ", bearing), p, same)
	}
}

func TestP3SidesOfLines(t *testing.T) {
	for _, a := range fewPlaces() {
		for _, b := range fewPlaces() {
			for _, c := range fewPlaces() {
				// Twice the area of the triangle, which is positive for turns to the left.
				area := a.X*(b.Y-c.Y) + b.X*(c.Y-a.Y) + c.X*(a.Y-b.Y)
				want := int64(big.NewInt(area).Sign())
				what := fmt.Sprint("the side of ", c, " on ", a, b)
				check(t, what, impl.SideOf(a, b, c), want)
				check(t, what+" and back", impl.SideOf(b, a, c), -want)
				check(t, what+" in turn", impl.SideOf(b, c, a), want)
			}
			check(t, fmt.Sprint("the side on a point ", a), impl.SideOf(a, a, b), 0)
		}
	}
	check(t, "one metre to the left", impl.SideOf(at(0, 0), at(200000, 200000), at(199999, 200000)), 1)
	check(t, "one metre to the right", impl.SideOf(at(0, 0), at(200000, 200000), at(200000, 199999)), -1)
	check(t, "behind the end", impl.SideOf(at(0, 10), at(20, 10), at(50, 10)), 0)
}

func TestP3PointsBetweenAreTheSameFromBothEnds(t *testing.T) {
	places := append(fewPlaces(), at(1, 1), at(1, 2), at(2, 0), at(2, 1), at(3, 0), at(0, 3))
	for _, a := range places {
		for _, b := range places {
			for _, n := range []int64{1, 2, 3, 4, 7, 999999, 1000000} {
				for _, i := range []int64{0, 1, 2, 3, n / 2, n - n/2, n - 1, n} {
					checkBetween(t, a, b, i, n)
				}
			}
		}
	}
}

func checkBetween(t *testing.T, a, b impl.Point, i, n int64) {
	t.Helper()
	what := fmt.Sprint("between ", a, b, i, n)
	p, code := impl.Between(a, b, i, n)
	if i > n {
		check(t, what, code, impl.ErrRange)
		return
	}
	check(t, what, code, impl.OK)
	q, _ := impl.Between(b, a, n-i, n)
	check(t, what+" from the other end", q, p)
	// The exact point is at most half a metre away in each coordinate.
	if exact := (n-i)*a.X + i*b.X; max(2*(n*p.X-exact), 2*(exact-n*p.X)) > n {
		t.Errorf("%s: X is %d", what, p.X)
	}
	if exact := (n-i)*a.Y + i*b.Y; max(2*(n*p.Y-exact), 2*(exact-n*p.Y)) > n {
		t.Errorf("%s: Y is %d", what, p.Y)
	}
	if i == 0 || i == n {
		check(t, what+" is an end", p, []impl.Point{a, b}[i/n])
	}
	if impl.DistanceToSegment(a, b, p) != 0 {
		t.Errorf("%s: %v is not on the segment", what, p)
	}
}

func TestP3HalvesAreRoundedFromTheSameEnd(t *testing.T) {
	for _, c := range []struct{ a, b, want impl.Point }{
		{at(0, 0), at(3, 0), at(2, 0)},
		{at(0, 0), at(0, 3), at(0, 2)},
		{at(0, 0), at(3, 3), at(2, 2)},
		// From the west to the east, also where Y decreases.
		{at(0, 3), at(3, 0), at(2, 1)},
		{at(0, 3), at(2, 0), at(1, 1)},
		{at(0, 3), at(1, 0), at(1, 1)},
		{at(5, 5), at(5, 5), at(5, 5)},
	} {
		p, _ := impl.Between(c.a, c.b, 1, 2)
		q, _ := impl.Between(c.b, c.a, 1, 2)
		check(t, fmt.Sprint("the middle of ", c.a, c.b), p, c.want)
		check(t, fmt.Sprint("the middle of ", c.b, c.a), q, c.want)
	}
	third, _ := impl.Between(at(10, 0), at(0, 0), 1, 3)
	check(t, "a third of the way to the west", third, at(7, 0))
}

func TestP3BetweenHasLimits(t *testing.T) {
	for _, c := range []struct {
		a, b       impl.Point
		i, n, code int64
	}{
		{at(0, 0), at(9, 9), 0, 0, impl.ErrRange},
		{at(0, 0), at(9, 9), 0, -1, impl.ErrRange},
		{at(0, 0), at(9, 9), -1, 1, impl.ErrRange},
		{at(0, 0), at(9, 9), 2, 1, impl.ErrRange},
		{at(0, 0), at(9, 9), 0, 1000001, impl.ErrRange},
		{at(9, 9), at(0, 0), 1000001, 1000000, impl.ErrRange},
		{at(9, 9), at(0, 0), math.MinInt64, math.MaxInt64, impl.ErrRange},
		{at(0, 0), at(200001, 9), 1, 2, impl.ErrInvalid},
		{at(0, -1), at(9, 9), 2, 1, impl.ErrInvalid},
	} {
		p, code := impl.Between(c.a, c.b, c.i, c.n)
		check(t, fmt.Sprint("the code of ", c), code, c.code)
		check(t, fmt.Sprint("the point of ", c), p, impl.Point{})
	}
	p, code := impl.Between(at(200000, 0), at(0, 200000), 999999, 1000000)
	check(t, "the last point but one", fmt.Sprint(p, code), "{0 200000} 0")
}

// exactDistanceToSegment returns the distance of p from the segment, rounded down, over rational numbers.
func exactDistanceToSegment(a, b, p impl.Point) int64 {
	length := squareOfDistance(a, b)
	part := new(big.Rat)
	if length > 0 {
		part.SetFrac64((b.X-a.X)*(p.X-a.X)+(b.Y-a.Y)*(p.Y-a.Y), length)
	}
	if part.Sign() < 0 {
		part.SetInt64(0)
	}
	if part.Cmp(big.NewRat(1, 1)) > 0 {
		part.SetInt64(1)
	}
	offset := func(from, to, of int64) *big.Rat {
		foot := new(big.Rat).Mul(part, big.NewRat(to-from, 1))
		d := foot.Sub(foot, big.NewRat(of-from, 1))
		return new(big.Rat).Mul(d, d)
	}
	square := new(big.Rat).Add(offset(a.X, b.X, p.X), offset(a.Y, b.Y, p.Y))
	whole := new(big.Int).Quo(square.Num(), square.Denom())
	return whole.Sqrt(whole).Int64()
}

func TestP3DistancesToSegmentsAreExact(t *testing.T) {
	for _, a := range fewPlaces() {
		for _, b := range fewPlaces() {
			for _, p := range samplePlaces() {
				d := impl.DistanceToSegment(a, b, p)
				what := fmt.Sprint("the distance of ", p, " from ", a, b)
				check(t, what, d, exactDistanceToSegment(a, b, p))
				check(t, what+" and back", impl.DistanceToSegment(b, a, p), d)
				if d > min(impl.Distance(a, p), impl.Distance(b, p)) {
					t.Errorf("%s is more than that from an end", what)
				}
			}
		}
		check(t, "the distance from an equal end", impl.DistanceToSegment(a, a, at(9, 9)), impl.Distance(a, at(9, 9)))
	}
	check(t, "beside the segment", impl.DistanceToSegment(at(0, 10), at(20, 10), at(5, 15)), 5)
	check(t, "behind the end", impl.DistanceToSegment(at(0, 10), at(20, 10), at(23, 14)), 5)
	check(t, "before the beginning", impl.DistanceToSegment(at(6, 10), at(20, 10), at(3, 6)), 5)
	check(t, "far from a diagonal", impl.DistanceToSegment(at(0, 0), at(200000, 200000), at(0, 200000)), 141421)
}

func TestP3TheNearestPointIsTheFirstOne(t *testing.T) {
	for _, c := range []struct {
		list []impl.Point
		p    impl.Point
		want int64
	}{
		{[]impl.Point{at(5, 5)}, at(0, 0), 0},
		{[]impl.Point{at(9, 0), at(1, 0), at(0, 1)}, at(0, 0), 1},
		{[]impl.Point{at(9, 0), at(0, 1), at(1, 0), at(0, 1)}, at(0, 0), 1},
		{[]impl.Point{at(3, 3), at(3, 3)}, at(3, 3), 0},
		// Rounded down, all of these distances are 1.
		{[]impl.Point{at(1, 1), at(1, 0)}, at(0, 0), 1},
		{[]impl.Point{at(0, 0), at(200000, 200000), at(199999, 200000)}, at(200000, 0), 0},
		{[]impl.Point{at(0, 200000), at(1, 200000), at(0, 199999), at(1, 200000)}, at(200000, 0), 1},
	} {
		got, code := impl.NearestOf(c.list, c.p)
		check(t, fmt.Sprint("the nearest of ", c.list), got, c.want)
		check(t, fmt.Sprint("the code of ", c.list), code, impl.OK)
	}
	list := slices.Repeat([]impl.Point{at(200000, 200000)}, impl.MaxPlaces-1)
	got, code := impl.NearestOf(append(list, at(199999, 200000)), at(0, 0))
	check(t, "the nearest of MaxPlaces points", fmt.Sprint(got, code), "63 0")
}

func TestP3TheNearestPointIsFoundAmongAll(t *testing.T) {
	places := samplePlaces()
	for begin := range len(places) - impl.MaxPlaces {
		list := places[begin : begin+impl.MaxPlaces]
		for _, p := range places {
			got, _ := impl.NearestOf(list, p)
			for i, q := range list {
				d, least := squareOfDistance(p, q), squareOfDistance(p, list[got])
				if d < least || d == least && i < int(got) {
					t.Fatalf("%v is nearer to %v than %v is", q, p, list[got])
				}
			}
		}
	}
}

func TestP3TheNearestPointHasLimits(t *testing.T) {
	tooMany := make([]impl.Point, impl.MaxPlaces+1)
	withInvalid := append(slices.Clone(tooMany), at(0, -1))
	for _, c := range []struct {
		list []impl.Point
		p    impl.Point
		code int64
	}{
		{nil, at(0, 0), impl.ErrState},
		{[]impl.Point{}, at(0, 0), impl.ErrState},
		{tooMany, at(0, 0), impl.ErrFull},
		{withInvalid, at(0, 0), impl.ErrInvalid},
		{tooMany, at(-1, 0), impl.ErrInvalid},
		{nil, at(200001, 0), impl.ErrInvalid},
		{[]impl.Point{at(1, 1), at(0, 200001)}, at(0, 0), impl.ErrInvalid},
	} {
		got, code := impl.NearestOf(c.list, c.p)
		check(t, fmt.Sprint("the code for ", len(c.list), c.p), code, c.code)
		check(t, fmt.Sprint("the index for ", len(c.list), c.p), got, 0)
	}
}

func TestP3PointsAreReadBack(t *testing.T) {
	for _, p := range samplePlaces() {
		s := impl.PointText(p)
		check(t, fmt.Sprint("the text of ", p), s, strconv.FormatInt(p.X, 10)+","+strconv.FormatInt(p.Y, 10))
		q, ok := impl.ReadPoint(s)
		check(t, "reading "+s, ok, true)
		check(t, "the point of "+s, q, p)
	}
	for _, p := range invalidPlaces() {
		check(t, fmt.Sprint("the text of ", p), impl.PointText(p), "")
	}
}

func TestP3OnlyTextsOfPointsAreRead(t *testing.T) {
	texts := textsOver("-,02 ", 5)
	texts = append(texts, "3,-4", "+3,4", "03,4", "3,04", "3;4", "3,4\n", "3,4,5", "3,4,", "3, 4", "200001,0", "0,200001", "200000,200000", "1e3,4",
		"18446744073709551616,0", "0,9223372036854775808", strings.Repeat("0,", 64)+"0", strings.Repeat("9", 5000)+",1", "{3 4}", "3.0,4", "\uff13,4")
	for _, s := range texts {
		p, ok := impl.ReadPoint(s)
		if ok {
			check(t, strconv.Quote(s)+" is a text of", impl.PointText(p), s)
			continue
		}
		check(t, "the point of "+strconv.Quote(s), p, impl.Point{})
		x, y, _ := strings.Cut(s, ",")
		m, isX := impl.ReadDecimal(x)
		n, isY := impl.ReadDecimal(y)
		check(t, strconv.Quote(s)+" is a point", isX && isY && impl.ValidPoint(at(m, n)), false)
	}
}

func TestP3InvalidPointsHaveNoPlace(t *testing.T) {
	good, other := at(3, 4), at(90, 200)
	for _, bad := range invalidPlaces() {
		check(t, fmt.Sprint("numbers for ", bad), fmt.Sprint(
			impl.Distance(bad, good), impl.Distance(good, bad), impl.Distance(bad, bad),
			impl.Bearing(bad, good), impl.Bearing(good, bad), impl.Bearing(bad, bad),
			impl.SideOf(bad, good, other), impl.SideOf(good, bad, other), impl.SideOf(good, other, bad),
			impl.DistanceToSegment(bad, good, other), impl.DistanceToSegment(good, bad, other), impl.DistanceToSegment(good, other, bad),
		), "0 0 0 0 0 0 0 0 0 0 0 0")
		p, code := impl.Move(bad, 0, 0)
		check(t, fmt.Sprint("the move from ", bad), fmt.Sprint(p, code), "{0 0} 1")
		p, code = impl.Between(good, bad, 0, 1)
		check(t, fmt.Sprint("between one and ", bad), fmt.Sprint(p, code), "{0 0} 1")
		p, code = impl.Between(bad, good, 1, 1)
		check(t, fmt.Sprint("between one and ", bad), fmt.Sprint(p, code), "{0 0} 1")
		i, code := impl.NearestOf([]impl.Point{good, bad, other}, good)
		check(t, fmt.Sprint("the nearest one beside ", bad), fmt.Sprint(i, code), "0 1")
		i, code = impl.NearestOf([]impl.Point{good, other}, bad)
		check(t, fmt.Sprint("the nearest one to ", bad), fmt.Sprint(i, code), "0 1")
	}
}

// placeAnswers prints the results of all functions of chapter 2 for some numbers as coordinates, angles, distances and parts.
func placeAnswers(a, b, c int64) string {
	p, q := at(a, b), at(b, c)
	moved, code := impl.Move(p, c, a)
	between, other := impl.Between(p, q, a, c)
	index, third := impl.NearestOf([]impl.Point{q, p}, at(c, a))
	text := impl.PointText(p)
	read, ok := impl.ReadPoint(text)
	return fmt.Sprint(impl.ValidPoint(p), impl.Sine(a), impl.Cosine(b), impl.Turn(a, b), impl.Distance(p, q), impl.Bearing(p, q),
		moved, code, impl.SideOf(p, q, at(c, a)), between, other, impl.DistanceToSegment(p, q, at(c, a)), index, third, text, read, ok)
}

func TestP1PlacesHaveEqualResults(t *testing.T) {
	checkEqualResults(t, append(extremeNumbers(), 5, 90, 359, 199999, 200000, 200001, 300000, 300001), placeAnswers)
}

func TestP1PlacesDoNotDisturbEachOther(t *testing.T) {
	checkUndisturbed(t, func(n int64) string { return placeAnswers(n, 90, 7) })
}

func TestP1ListsOfPointsAreNotModified(t *testing.T) {
	filled := slices.Repeat([]impl.Point{at(9, 9), at(1, 2), at(1, 2)}, 30)
	invalid := append(slices.Clone(filled[:5]), at(-1, 0), at(0, 0))
	for _, list := range [][]impl.Point{filled[:0], filled[:7], filled[:impl.MaxPlaces], filled[:impl.MaxPlaces+1], invalid[:6]} {
		whole := list[:cap(list)]
		before := slices.Clone(whole)
		first := fmt.Sprint(impl.NearestOf(list, at(0, 0)))
		check(t, "the second result", fmt.Sprint(impl.NearestOf(list, at(0, 0))), first)
		check(t, "the result for equal points", fmt.Sprint(impl.NearestOf(slices.Clip(slices.Clone(list)), at(0, 0))), first)
		if !slices.Equal(whole, before) {
			t.Errorf("NearestOf modified its list of %d points", len(list))
		}
	}
}

func TestP1TextsOfPointsHaveEqualResults(t *testing.T) {
	checkEqualReadings(t, func(s string) string { return fmt.Sprint(impl.ReadPoint(s)) }, "3,4", "200000,0")
}
