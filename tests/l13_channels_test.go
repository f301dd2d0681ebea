package tests

import (
	"fmt"
	"math/rand/v2"
	"regexp"
	"slices"
	"strings"
	"sync"
	"testing"

	"loop.example/g00953/impl"
)

func channel(width int64, line ...impl.Point) impl.Channel {
	return impl.Channel{Name: "main", Line: line, Width: width}
}

func buoyAt(kind, x, y int64) impl.Buoy {
	return impl.Buoy{At: at(x, y), Kind: kind}
}

// straightChannels lead from one place in many directions, over many distances.
func straightChannels() []impl.Channel {
	var list []impl.Channel
	widths := []int64{10, 11, 100, 101, 4999, 5000}
	for i, d := range []impl.Point{at(1, 0), at(0, 1), at(-1, 0), at(0, -1), at(3, 4), at(-4, 3), at(-3, -4), at(4, -3), at(1, 1), at(1, -2), at(-7, 2), at(-50, -49)} {
		for j, n := range []int64{1, 49, 50, 333, 1000} {
			list = append(list, channel(widths[(i+j)%6], at(50000, 50000), at(50000+n*d.X, 50000+n*d.Y)))
		}
	}
	return list
}

// bentChannels turn, return, cross themselves and come near the limits of points.
func bentChannels() []impl.Channel {
	a, b, c := at(6000, 6000), at(7000, 6000), at(7000, 7300)
	whole := []impl.Point{at(0, 0), at(200000, 200000)}
	long := slices.Concat(whole, whole, whole, whole, whole, whole)
	return []impl.Channel{
		channel(100, at(0, 1000), at(1000, 1000)), channel(100, a, b, c), channel(101, c, b, a), channel(500, a, b, a), channel(999, a, b, a, b), channel(100, a, c, b, a), channel(5000, a, b, c, a, b, c),
		channel(10, a, at(6001, 6000), at(6002, 6000), at(6003, 6001), at(6003, 6002)), channel(20, at(6000, 6000), at(6000, 6100), at(6100, 6100), at(6100, 6000), at(6000, 6000), at(6000, 6100)),
		channel(10, long...), channel(5000, at(0, 0), at(200000, 0), at(200000, 200000), at(0, 200000), at(0, 0)), channel(300, whole...), channel(12, at(5, 0), at(5, 200000)), channel(10, at(5, 5), at(5, 199995), at(199995, 199995)), channel(11, at(199994, 7), at(199994, 1550)),
		channel(14, at(7, 0), at(7, 80)), channel(16, at(7, 0), at(7, 80)), channel(14, at(0, 199993), at(80, 199993)), channel(16, at(0, 199993), at(80, 199993)),
	}
}

// drawnChannels are drawn by lot, the same ones in each run, in areas of several sizes.
func drawnChannels(count int) []impl.Channel {
	lot := rand.New(rand.NewPCG(13, 14))
	var list []impl.Channel
	for i := range count {
		size := []int64{3, 60, 1000, 30000, 150000}[i%5]
		base := []int64{6000, 20, 40000}[i%3]
		line := []impl.Point{at(base, base)}
		for len(line) < 2+i%11 {
			p := at(base+lot.Int64N(size), base+lot.Int64N(size))
			if p != line[len(line)-1] {
				line = append(line, p)
			}
		}
		list = append(list, channel(10+lot.Int64N([]int64{20, 500, 4991}[i%3]), line...))
	}
	return list
}

// sampleChannels are valid channels of all sorts. They are made once, and never changed.
var sampleChannels = sync.OnceValue(func() []impl.Channel {
	return slices.Concat(straightChannels(), bentChannels(), drawnChannels(110))
})

// invalidChannels differ from a valid one in one part.
func invalidChannels() []impl.Channel {
	good := sampleChannels()[61]
	var list []impl.Channel
	add := func(change func(ch *impl.Channel)) {
		ch := good
		ch.Line = slices.Clone(good.Line)
		change(&ch)
		list = append(list, ch)
	}
	list = append(list, impl.Channel{})
	for _, name := range []string{"", "A", "1a", "main ", " main", "ma in", "Main", "abcdefghijk", "m\x00", "\u00e9", strings.Repeat("a", 100000)} {
		add(func(ch *impl.Channel) { ch.Name = name })
	}
	for _, n := range append(numbersBeyond(10, impl.MaxWidth), 0, -100, 1<<32+100) {
		add(func(ch *impl.Channel) { ch.Width = n })
	}
	many := slices.Repeat([]impl.Point{at(1, 2), at(3, 4)}, 50000)
	for _, n := range []int{0, 1, 13, 14, 100000} {
		add(func(ch *impl.Channel) { ch.Line = many[:n:n] })
	}
	for i := range good.Line {
		for _, p := range invalidPlaces() {
			add(func(ch *impl.Channel) { ch.Line[i] = p })
			add(func(ch *impl.Channel) { ch.Line = slices.Insert(ch.Line, i, p) })
		}
		add(func(ch *impl.Channel) { ch.Line = slices.Insert(ch.Line, i, ch.Line[i]) })
	}
	return list
}

// invalidBuoys are lists of buoys that are not valid. They are made once, and never changed.
var invalidBuoys = sync.OnceValue(func() [][]impl.Buoy {
	good := []impl.Buoy{buoyAt(1, 5, 7), buoyAt(9, 200000, 0), buoyAt(2, 5, 7)}
	lists := [][]impl.Buoy{make([]impl.Buoy, 1), slices.Repeat(good[:1], impl.MaxBuoys+1), slices.Repeat(good, 30000)}
	for i := range good {
		for _, kind := range append(numbersBeyond(impl.MkLeft, impl.MkSpecial), -1, 1<<32+1) {
			list := slices.Clone(good)
			list[i].Kind = kind
			lists = append(lists, list)
		}
		for _, p := range invalidPlaces() {
			list := slices.Clone(good)
			list[i].At = p
			lists = append(lists, list)
		}
	}
	return lists
})

// stretch is a part of a line, and what is added up to its beginning and to its end.
type stretch struct {
	from, to   impl.Point
	begin, end int64
}

func distanceModel(p, q impl.Point) int64 {
	square := squareOf(p, q)
	return square.Sqrt(square).Int64()
}

func stretchesOf(ch impl.Channel) []stretch {
	var list []stretch
	sum := int64(0)
	for i := 0; i+1 < len(ch.Line); i++ {
		s := stretch{from: ch.Line[i], to: ch.Line[i+1], begin: sum}
		sum += distanceModel(s.from, s.to)
		s.end = sum
		list = append(list, s)
	}
	return list
}

func lengthModel(ch impl.Channel) int64 {
	list := stretchesOf(ch)
	return list[len(list)-1].end
}

// stretchModel returns the first part of a channel that reaches a distance, and the place there.
func stretchModel(ch impl.Channel, d int64) (stretch, impl.Point) {
	list := stretchesOf(ch)
	i := slices.IndexFunc(list, func(s stretch) bool { return s.end >= d })
	s := list[i]
	p, _ := impl.Between(s.from, s.to, d-s.begin, s.end-s.begin)
	return s, p
}

// gatesModel returns the gates of a valid channel with a valid spacing.
func gatesModel(ch impl.Channel, spacing int64) ([]impl.Gate, int64) {
	var places []int64
	length := lengthModel(ch)
	for d := int64(0); d < length; d += spacing {
		places = append(places, d)
	}
	places = append(places, length)
	if len(places) > 32 {
		return nil, impl.ErrFull
	}
	var gates []impl.Gate
	for _, d := range places {
		s, p := stretchModel(ch, d)
		x := roundedQuotient((s.to.Y-s.from.Y)*(ch.Width/2), s.end-s.begin)
		y := roundedQuotient((s.to.X-s.from.X)*(ch.Width/2), s.end-s.begin)
		gates = append(gates, impl.Gate{At: d, Left: at(p.X-x, p.Y+y), Right: at(p.X+x, p.Y-y)})
	}
	for _, g := range gates {
		for _, n := range []int64{g.Left.X, g.Left.Y, g.Right.X, g.Right.Y} {
			if n < 0 || n > 200000 {
				return nil, impl.ErrState
			}
		}
	}
	return gates, impl.OK
}

// spacingsFor are spacings at the limits, and such that the gates are just as many as they may be.
func spacingsFor(ch impl.Channel) []int64 {
	length := lengthModel(ch)
	list := []int64{50, 51, 400, 199999, 200000}
	for _, parts := range []int64{1, 2, 3, 7, 30, 31, 32} {
		for d := int64(-1); d <= 1; d++ {
			list = append(list, length/parts+d)
		}
	}
	list = slices.DeleteFunc(list, func(n int64) bool { return n < 50 || n > 200000 })
	slices.Sort(list)
	return slices.Compact(list)
}

// nearestModel returns the exact distance of a place from a channel, and on which side of the first nearest part it is.
func nearestModel(ch impl.Channel, p impl.Point) (distance, side int64) {
	for i, s := range stretchesOf(ch) {
		d := exactDistanceToSegment(s.from, s.to, p)
		if i > 0 && d >= distance {
			continue
		}
		distance = d
		area := (s.to.X-s.from.X)*(p.Y-s.from.Y) - (s.to.Y-s.from.Y)*(p.X-s.from.X)
		side = max(-1, min(1, area))
	}
	return distance, side
}

// placesNear are places on a channel, at its sides and at the limits of points.
func placesNear(ch impl.Channel) []impl.Point {
	list := []impl.Point{at(0, 0), at(200000, 200000), at(0, 200000), at(6500, 6500), at(49990, 50000)}
	half := ch.Width / 2
	for i, s := range stretchesOf(ch) {
		if i > 3 {
			break
		}
		middle, _ := impl.Between(s.from, s.to, 1, 2)
		for _, d := range []int64{0, 1, -1, half, -half, half + 1} {
			list = append(list, at(s.from.X+d, s.from.Y), at(s.to.X, s.to.Y+d), at(middle.X+d, middle.Y-d), at(middle.X, middle.Y+d))
		}
	}
	return slices.DeleteFunc(list, func(p impl.Point) bool { return !impl.ValidPoint(p) })
}

func channelPrint(ch impl.Channel) string {
	return fmt.Sprintf("%.20q %d %.200s", ch.Name, ch.Width, fmt.Sprint(ch.Line))
}

func TestP14Constants(t *testing.T) {
	check(t, "the limits of channels", fmt.Sprint(impl.MaxBends, impl.MaxWidth, impl.MaxGates, impl.MaxBuoys, impl.LeastGates), "12 5000 32 64 50")
}

func TestP14ChannelsAreValidWithinTheirLimits(t *testing.T) {
	for _, ch := range sampleChannels() {
		check(t, "whether it is valid: "+channelPrint(ch), impl.ValidChannel(ch), true)
	}
	for _, name := range []string{"a", "z9", "abcdefghij", "a123456789"} {
		for _, width := range []int64{10, 11, 4999, 5000} {
			for bends := 2; bends <= 12; bends++ {
				ch := impl.Channel{Name: name, Line: slices.Repeat([]impl.Point{at(0, 200000), at(0, 199999)}, 6)[:bends], Width: width}
				check(t, "whether it is valid: "+channelPrint(ch), impl.ValidChannel(ch), true)
			}
		}
	}
	for _, ch := range invalidChannels() {
		check(t, "whether it is valid: "+channelPrint(ch), impl.ValidChannel(ch), false)
	}
}

func TestP14BuoysAreValidWithinTheirLimits(t *testing.T) {
	check(t, "whether no buoys are valid", impl.ValidBuoys(nil) && impl.ValidBuoys([]impl.Buoy{}), true)
	for kind := int64(1); kind <= 9; kind++ {
		for _, p := range samplePlaces() {
			for _, count := range []int{1, 2, 63, 64} {
				check(t, fmt.Sprint("whether they are valid: ", count, kind, p), impl.ValidBuoys(slices.Repeat([]impl.Buoy{{At: p, Kind: kind}}, count)), true)
			}
		}
	}
	for i, list := range invalidBuoys() {
		check(t, fmt.Sprint("whether list ", i, " is valid"), impl.ValidBuoys(list), false)
	}
}

// checkNoChannelAnswers asks all functions of the chapter that return a code, with other arguments that are wrong in any way.
func checkNoChannelAnswers(t *testing.T, ch impl.Channel, list []impl.Buoy, p impl.Point, n int64) {
	t.Helper()
	what := channelPrint(ch)
	if !impl.ValidChannel(ch) {
		length, code := impl.ChannelLength(ch)
		checkNoNumber(t, "length of "+what, length, code, impl.ErrInvalid)
		place, code := impl.PlaceAlong(ch, n)
		check(t, "no place along "+what, fmt.Sprint(place, code), "{0 0} 1")
		gates, one := impl.GatesFor(ch, n)
		buoys, two := impl.BuoysFor(ch, n)
		check(t, "no gates and buoys of "+what, fmt.Sprint(gates, one, buoys, two), "[] 1 [] 1")
		back, code := impl.ReverseChannel(ch)
		check(t, "no way back of "+what, channelPrint(back)+fmt.Sprint(code), channelPrint(impl.Channel{})+"1")
		check(t, "no text of "+what, impl.ChannelText(ch), "")
	}
	if !impl.ValidChannel(ch) || !impl.ValidPoint(p) {
		side, code := impl.SideOfChannel(ch, p)
		checkNoNumber(t, fmt.Sprint("side of ", p, what), side, code, impl.ErrInvalid)
		check(t, fmt.Sprint("whether it is there: ", p, what), impl.InChannel(ch, p), false)
	}
	if !impl.ValidChannel(ch) || !impl.ValidBuoys(list) {
		missing, one := impl.MissingBuoys(ch, n, list, n)
		wrong, two := impl.WrongBuoys(ch, list)
		check(t, fmt.Sprint("no missing or wrong ones of ", len(list), " for ", what), fmt.Sprint(missing, one, wrong, two), "[] 1 [] 1")
	}
}

func TestP14InvalidArgumentsHaveNoResults(t *testing.T) {
	good, list := channel(100, at(0, 1000), at(1000, 1000)), []impl.Buoy{buoyAt(1, 5, 7)}
	for _, n := range []int64{0, 400, -1, 49, 200001} {
		for _, ch := range invalidChannels() {
			checkNoChannelAnswers(t, ch, list, at(5, 7), n)
			checkNoChannelAnswers(t, ch, invalidBuoys()[0], at(-1, 0), n)
		}
		for _, p := range invalidPlaces() {
			checkNoChannelAnswers(t, good, list, p, n)
		}
		for _, buoys := range invalidBuoys() {
			checkNoChannelAnswers(t, good, buoys, at(5, 7), n)
		}
	}
}

func TestP14SameChannelsAreEqualInAllFields(t *testing.T) {
	list := append(invalidChannels(), sampleChannels()...)
	list = append(list, channel(100, at(0, 1), at(2, 3)), channel(100, at(0, 1), at(2, 4)), channel(100, at(0, 1), at(1, 3)), channel(101, at(0, 1), at(2, 3)), channel(100, at(2, 3), at(0, 1)), channel(100, at(0, 1)), channel(100, at(0, 1), at(2, 3), at(2, 3)), impl.Channel{Name: "mine", Line: []impl.Point{at(0, 1), at(2, 3)}, Width: 100})
	print := func(ch impl.Channel) string { return fmt.Sprint(ch.Name, ch.Width, ch.Line) }
	prints := make([]string, len(list))
	for i, ch := range list {
		prints[i] = print(ch)
		copied := ch
		copied.Line = slices.Clone(ch.Line)
		check(t, "whether it is the same: "+channelPrint(ch), impl.SameChannel(ch, copied), true)
	}
	for i, a := range list {
		for j, b := range list {
			if impl.SameChannel(a, b) != (prints[i] == prints[j]) {
				t.Errorf("whether they are the same: %s and %s", channelPrint(a), channelPrint(b))
			}
		}
	}
	check(t, "whether no line and an empty line are the same", impl.SameChannel(impl.Channel{}, channel(0)), false)
	check(t, "whether nil and an empty line are the same", impl.SameChannel(impl.Channel{}, impl.Channel{Line: []impl.Point{}}), true)
}

func TestP14LengthsAreSumsOfDistances(t *testing.T) {
	for _, ch := range sampleChannels() {
		got, code := impl.ChannelLength(ch)
		checkNumber(t, "the length of "+channelPrint(ch), got, code, lengthModel(ch))
	}
	for _, c := range []struct {
		ch   impl.Channel
		want int64
	}{
		{channel(100, at(0, 1000), at(1000, 1000)), 1000}, {channel(10, at(3, 3), at(3, 4)), 1}, {channel(10, at(0, 0), at(3, 4), at(3, 5)), 6},
		// Each of the distances is rounded down.
		{channel(10, at(0, 0), at(1, 1), at(2, 2), at(3, 3)), 3}, {channel(10, at(0, 0), at(3, 3)), 4}, {channel(10, slices.Repeat([]impl.Point{at(0, 0), at(200000, 200000)}, 6)...), 11 * 282842},
	} {
		got, code := impl.ChannelLength(c.ch)
		checkNumber(t, "the length of "+channelPrint(c.ch), got, code, c.want)
	}
}

// distancesAlong are distances at and near the points of a channel, and some between them.
func distancesAlong(ch impl.Channel) []int64 {
	list := []int64{0, 1, 2}
	for _, s := range stretchesOf(ch) {
		list = append(list, s.end-1, s.end, s.end+1, (s.begin+s.end)/2, (s.begin+2*s.end)/3, s.begin+(s.end-s.begin)/7)
	}
	length := lengthModel(ch)
	for i := range int64(50) {
		list = append(list, length*i/50)
	}
	return slices.DeleteFunc(list, func(d int64) bool { return d > length })
}

func TestP14PlacesAreOnTheLine(t *testing.T) {
	for _, ch := range sampleChannels() {
		for _, d := range distancesAlong(ch) {
			s, want := stretchModel(ch, d)
			got, code := impl.PlaceAlong(ch, d)
			what := fmt.Sprint("the place at ", d, " along ", channelPrint(ch))
			check(t, what, got, want)
			check(t, "the code of "+what, code, impl.OK)
			check(t, "how far it is from the line: "+what, impl.DistanceToSegment(s.from, s.to, got), 0)
			check(t, "whether it is in the channel: "+what, impl.InChannel(ch, got), true)
			if d == s.end {
				check(t, what+", an end", got, s.to)
			}
		}
		first, _ := impl.PlaceAlong(ch, 0)
		check(t, "the beginning of "+channelPrint(ch), first, ch.Line[0])
		last, _ := impl.PlaceAlong(ch, lengthModel(ch))
		check(t, "the end of "+channelPrint(ch), last, ch.Line[len(ch.Line)-1])
	}
}

func TestP14PlacesHaveLimits(t *testing.T) {
	for _, ch := range sampleChannels() {
		for _, d := range append(numbersBeyond(0, lengthModel(ch)), -lengthModel(ch), 1<<32) {
			got, code := impl.PlaceAlong(ch, d)
			check(t, fmt.Sprint("no place at ", d, " along ", channelPrint(ch)), fmt.Sprint(got, code), "{0 0} 2")
		}
	}
	bent := channel(100, at(0, 0), at(1, 1), at(2, 2), at(9, 2))
	want := []impl.Point{at(0, 0), at(1, 1), at(2, 2), at(3, 2), at(4, 2)}
	for d, p := range want {
		got, code := impl.PlaceAlong(bent, int64(d))
		check(t, fmt.Sprint("the place at ", d), fmt.Sprint(got, code), fmt.Sprint(p, impl.OK))
	}
}

func TestP14GatesAreAtMultiplesAndAtTheEnd(t *testing.T) {
	codes := map[int64]int{}
	counts := map[int]int{}
	for _, ch := range sampleChannels() {
		for _, spacing := range spacingsFor(ch) {
			want, code := gatesModel(ch, spacing)
			got, gotCode := impl.GatesFor(ch, spacing)
			what := fmt.Sprint("the gates with ", spacing, " along ", channelPrint(ch))
			check(t, what, fmt.Sprint(got, gotCode), fmt.Sprint(want, code))
			codes[code]++
			counts[len(want)]++
		}
	}
	for _, code := range []int64{impl.OK, impl.ErrFull, impl.ErrState} {
		if codes[code] < 30 {
			t.Errorf("only %d channels have the code %d", codes[code], code)
		}
	}
	for _, count := range []int{2, 3, 4, 31, 32} {
		if counts[count] < 5 {
			t.Errorf("only %d channels have %d gates", counts[count], count)
		}
	}
}

func TestP14TheLastGateIsAtTheLength(t *testing.T) {
	for _, c := range []struct {
		ch      impl.Channel
		spacing int64
		want    string
	}{
		{channel(100, at(0, 1000), at(1000, 1000)), 400, "[{0 {0 1050} {0 950}} {400 {400 1050} {400 950}} {800 {800 1050} {800 950}} {1000 {1000 1050} {1000 950}}]"},
		{channel(100, at(0, 1000), at(1000, 1000)), 500, "[{0 {0 1050} {0 950}} {500 {500 1050} {500 950}} {1000 {1000 1050} {1000 950}}]"},
		{channel(100, at(0, 1000), at(1000, 1000)), 999, "[{0 {0 1050} {0 950}} {999 {999 1050} {999 950}} {1000 {1000 1050} {1000 950}}]"},
		{channel(100, at(0, 1000), at(1000, 1000)), 1000, "[{0 {0 1050} {0 950}} {1000 {1000 1050} {1000 950}}]"},
		{channel(100, at(0, 1000), at(1000, 1000)), 200000, "[{0 {0 1050} {0 950}} {1000 {1000 1050} {1000 950}}]"},
		{channel(11, at(50, 50), at(50, 51)), 50, "[{0 {45 50} {55 50}} {1 {45 51} {55 51}}]"},
		// At a bend, the gate belongs to the part that ends there.
		{channel(20, at(100, 100), at(200, 100), at(200, 150)), 50, "[{0 {100 110} {100 90}} {50 {150 110} {150 90}} {100 {200 110} {200 90}} {150 {190 150} {210 150}}]"},
		{channel(20, at(100, 100), at(200, 100), at(200, 150)), 101, "[{0 {100 110} {100 90}} {101 {190 101} {210 101}} {150 {190 150} {210 150}}]"},
		{channel(10, at(100, 100), at(100, 50), at(50, 50)), 50, "[{0 {105 100} {95 100}} {50 {105 50} {95 50}} {100 {50 45} {50 55}}]"},
		// The distance is rounded down, and so the buoys are a little farther from each other; halves are rounded away from 0.
		{channel(10, at(100, 100), at(101, 101)), 50, "[{0 {95 105} {105 95}} {1 {96 106} {106 96}}]"},
		{channel(10, at(100, 100), at(102, 101)), 50, "[{0 {97 105} {103 95}} {2 {99 106} {105 96}}]"},
	} {
		got, code := impl.GatesFor(c.ch, c.spacing)
		check(t, fmt.Sprint("the gates with ", c.spacing, " along ", channelPrint(c.ch)), fmt.Sprint(got, code), c.want+" 0")
	}
}

// checkNoGates asks for the gates and for what depends on them.
func checkNoGates(t *testing.T, ch impl.Channel, spacing, want int64) {
	t.Helper()
	gates, one := impl.GatesFor(ch, spacing)
	buoys, two := impl.BuoysFor(ch, spacing)
	missing, three := impl.MissingBuoys(ch, spacing, nil, 0)
	what := fmt.Sprint("no gates with ", spacing, " along ", channelPrint(ch))
	check(t, what, fmt.Sprint(gates, one, buoys, two, missing, three), fmt.Sprint("[] ", want, " [] ", want, " [] ", want))
	missing, code := impl.MissingBuoys(ch, spacing, nil, -1)
	check(t, what+" if the tolerance is wrong", fmt.Sprint(missing, code), "[] 2")
}

func TestP14GatesHaveLimits(t *testing.T) {
	inside, outside, short := channel(20, at(0, 100), at(1550, 100)), channel(300, at(0, 100), at(1550, 100)), channel(20, at(0, 100), at(1, 100))
	for _, ch := range append(sampleChannels(), inside, outside, short) {
		for _, spacing := range append(numbersBeyond(50, 200000), 0, 1, 48, -50, -400, 1<<32+400) {
			checkNoGates(t, ch, spacing, impl.ErrRange)
		}
	}
	for length := int64(1540); length <= 1660; length++ {
		in, out := channel(20, at(0, 100), at(length, 100)), channel(300, at(0, 100), at(length, 100))
		gates, code := impl.GatesFor(in, 50)
		// 31 multiples, and the one at the end.
		if length > 1550 {
			checkNoGates(t, in, 50, impl.ErrFull)
			checkNoGates(t, out, 50, impl.ErrFull)
			continue
		}
		check(t, fmt.Sprint("the gates of a channel of ", length), fmt.Sprint(len(gates), code), "32 0")
		checkNoGates(t, out, 50, impl.ErrState)
	}
	for _, ch := range []impl.Channel{
		channel(20, at(0, 9), at(500, 9)), channel(20, at(0, 199991), at(500, 199991)), channel(20, at(9, 0), at(9, 500)), channel(20, at(199991, 0), at(199991, 500)),
		channel(20, at(0, 500), at(500, 9)), channel(20, at(100, 100), at(100, 9), at(500, 9)), channel(20, at(0, 200000), at(200000, 0)),
		channel(20, at(5000, 5000), at(5000, 0), at(9, 0)), channel(20, at(200000, 5000), at(200000, 0)), channel(20, at(0, 5), at(5000, 5000), at(9000, 5000)),
	} {
		checkNoGates(t, ch, 200000, impl.ErrState)
	}
	for _, ch := range []impl.Channel{channel(20, at(0, 10), at(500, 10)), channel(20, at(0, 199990), at(500, 199990)), channel(20, at(10, 0), at(10, 500)), channel(20, at(199990, 0), at(199990, 500)), channel(21, at(0, 10), at(500, 10))} {
		_, code := impl.GatesFor(ch, 200000)
		check(t, "the code of gates along "+channelPrint(ch), code, impl.OK)
	}
}

func TestP14BuoysAreThoseOfTheGates(t *testing.T) {
	for _, ch := range sampleChannels() {
		for _, spacing := range spacingsFor(ch) {
			gates, code := gatesModel(ch, spacing)
			var want []impl.Buoy
			for _, g := range gates {
				want = append(want, impl.Buoy{At: g.Left, Kind: 1}, impl.Buoy{At: g.Right, Kind: 2})
			}
			got, gotCode := impl.BuoysFor(ch, spacing)
			what := fmt.Sprint("the buoys with ", spacing, " along ", channelPrint(ch))
			check(t, what, fmt.Sprint(got, gotCode), fmt.Sprint(want, code))
			check(t, "whether they are valid: "+what, impl.ValidBuoys(got), true)
		}
	}
}

func TestP14PlacesInChannelsAndTheirSides(t *testing.T) {
	found := map[string]int{}
	for _, ch := range sampleChannels() {
		for _, p := range placesNear(ch) {
			distance, side := nearestModel(ch, p)
			what := fmt.Sprint(p, " and ", channelPrint(ch))
			isIn := impl.InChannel(ch, p)
			check(t, "whether it is in the channel: "+what, isIn, distance <= ch.Width/2)
			got, code := impl.SideOfChannel(ch, p)
			checkNumber(t, "the side of "+what, got, code, side)
			found[fmt.Sprint(isIn, got)]++
		}
	}
	for _, s := range []string{"true 0", "true 1", "true -1", "false 0", "false 1", "false -1"} {
		if found[s] < 30 {
			t.Errorf("only %d places are %s", found[s], s)
		}
	}
}

func TestP14PlacesOnTheLineHaveNoSide(t *testing.T) {
	ch := channel(100, at(1000, 1000), at(2000, 1000), at(2000, 3000), at(3000, 3000))
	for _, c := range []struct {
		p    impl.Point
		isIn bool
		side int64
	}{
		{at(1000, 1000), true, 0}, {at(1500, 1000), true, 0}, {at(2000, 1000), true, 0}, {at(2000, 1001), true, 0}, {at(2000, 3000), true, 0}, {at(3000, 3000), true, 0},
		{at(1500, 1001), true, 1}, {at(1500, 999), true, -1}, {at(1999, 2000), true, 1}, {at(2001, 2000), true, -1}, {at(2500, 3001), true, 1}, {at(2500, 2999), true, -1},
		// Before the beginning, behind the end and beyond a bend, but on the lines through the parts.
		{at(950, 1000), true, 0}, {at(949, 1000), false, 0}, {at(0, 1000), false, 0}, {at(3050, 3000), true, 0}, {at(3051, 3000), false, 0}, {at(2050, 1000), true, 0},
		// Equally far from two parts: the first one counts.
		{at(2030, 970), true, -1}, {at(1990, 1010), true, 1}, {at(2000, 950), true, -1}, {at(1970, 3030), true, 1},
		// Rounded down, the distance is 50.
		{at(1500, 1050), true, 1}, {at(1500, 1051), false, 1}, {at(960, 970), true, -1}, {at(964, 964), true, -1}, {at(963, 964), false, -1},
	} {
		check(t, fmt.Sprint("whether it is in the channel: ", c.p), impl.InChannel(ch, c.p), c.isIn)
		side, code := impl.SideOfChannel(ch, c.p)
		checkNumber(t, fmt.Sprint("the side of ", c.p), side, code, c.side)
	}
	// The first part is a little farther than the last one, but both distances are 2.
	twice := channel(10, at(1000, 1003), at(2000, 1007), at(2000, 1500), at(1000, 1500), at(1000, 1010), at(2000, 1010))
	for y, want := range map[int64]int64{1006: 1, 1007: 1, 1008: 1, 1009: -1, 1010: 0, 1004: -1} {
		side, code := impl.SideOfChannel(twice, at(1500, y))
		checkNumber(t, fmt.Sprint("the side between two parts at ", y), side, code, want)
	}
	there := channel(10, at(1000, 1000), at(2000, 1000), at(1000, 1000))
	for y, want := range map[int64]int64{1001: 1, 1000: 0, 999: -1} {
		side, code := impl.SideOfChannel(there, at(1500, y))
		checkNumber(t, fmt.Sprint("the side of the way there at ", y), side, code, want)
	}
	odd := channel(11, at(1000, 1000), at(2000, 1000))
	check(t, "whether half of an odd width is rounded", fmt.Sprint(impl.InChannel(odd, at(1500, 1005)), impl.InChannel(odd, at(1500, 1006))), "true false")
}

// missingModel returns the wanted buoys for which none of a list is near enough.
func missingModel(wanted, list []impl.Buoy, tolerance int64) []impl.Buoy {
	var missing []impl.Buoy
	for _, w := range wanted {
		isThere := false
		for _, b := range list {
			// A distance is rounded down, so it is at most the tolerance until it reaches the next number.
			isThere = isThere || b.Kind == w.Kind && squareOfDistance(b.At, w.At) < (tolerance+1)*(tolerance+1)
		}
		if !isThere {
			missing = append(missing, w)
		}
	}
	return missing
}

func checkMissing(t *testing.T, ch impl.Channel, spacing int64, list []impl.Buoy, tolerance int64, want []impl.Buoy) {
	t.Helper()
	got, code := impl.MissingBuoys(ch, spacing, list, tolerance)
	what := fmt.Sprint("what is missing with ", spacing, tolerance, " along ", channelPrint(ch))
	check(t, what, fmt.Sprint(got, code), fmt.Sprint(want, impl.OK))
}

// eachMarkedChannel visits the channels that have gates, with their buoys.
func eachMarkedChannel(visit func(ch impl.Channel, spacing int64, buoys []impl.Buoy)) {
	for i, ch := range sampleChannels() {
		spacings := spacingsFor(ch)
		for j, spacing := range spacings {
			if len(spacings) > 6 && (i+j)%3 != 0 {
				continue
			}
			if buoys, code := impl.BuoysFor(ch, spacing); code == impl.OK {
				visit(ch, spacing, buoys)
			}
		}
	}
}

func TestP14ChannelsWithTheirBuoysLackNone(t *testing.T) {
	visits := 0
	eachMarkedChannel(func(ch impl.Channel, spacing int64, buoys []impl.Buoy) {
		visits++
		backwards := slices.Clone(buoys)
		slices.Reverse(backwards)
		for _, tolerance := range []int64{0, 1, 5, 4999, 5000} {
			checkMissing(t, ch, spacing, buoys, tolerance, nil)
			checkMissing(t, ch, spacing, backwards, tolerance, nil)
		}
		checkMissing(t, ch, spacing, nil, 5000, buoys)
		checkMissing(t, ch, spacing, []impl.Buoy{}, 0, buoys)
	})
	if visits < 300 {
		t.Errorf("only %d channels have buoys", visits)
	}
}

func TestP14WithoutOneOfItsBuoysAChannelLacksThisOne(t *testing.T) {
	missed := 0
	eachMarkedChannel(func(ch impl.Channel, spacing int64, buoys []impl.Buoy) {
		for i, b := range buoys {
			rest := slices.Delete(slices.Clone(buoys), i, i+1)
			want := []impl.Buoy{b}
			if slices.Contains(rest, b) {
				want = nil
			}
			missed += len(want)
			checkMissing(t, ch, spacing, rest, 0, want)
			checkMissing(t, ch, spacing, rest, 40, missingModel(buoys, rest, 40))
			for kind := int64(1); kind <= 9; kind++ {
				if kind != b.Kind && len(buoys) < 12 {
					other := slices.Clone(buoys)
					other[i].Kind = kind
					checkMissing(t, ch, spacing, other, 0, want)
				}
			}
		}
	})
	if missed < 3000 {
		t.Errorf("only %d buoys are missed", missed)
	}
}

func TestP14BuoysAreMissingFarFromTheirPlaces(t *testing.T) {
	ch := channel(1000, at(50000, 50000), at(90000, 50000))
	buoys, _ := impl.BuoysFor(ch, 20000)
	for _, tolerance := range []int64{0, 1, 5, 13, 4999, 5000} {
		for i, b := range buoys {
			for _, d := range []impl.Point{at(0, 0), at(tolerance, 0), at(0, -tolerance), at(-tolerance-1, 0), at(0, tolerance+1), at(tolerance*3/5, -tolerance*4/5), at(tolerance, 1), at(tolerance, tolerance)} {
				list := slices.Clone(buoys)
				list[i].At = at(b.At.X+d.X, b.At.Y+d.Y)
				checkMissing(t, ch, 20000, list, tolerance, missingModel(buoys, list, tolerance))
			}
			moved := slices.Clone(buoys)
			moved[i].At.Y += tolerance + 1
			checkMissing(t, ch, 20000, moved, tolerance, []impl.Buoy{b})
			moved[i].At.Y--
			checkMissing(t, ch, 20000, moved, tolerance, nil)
		}
	}
	for _, n := range append(numbersBeyond(0, impl.MaxWidth), 1<<32) {
		got, code := impl.MissingBuoys(ch, 20000, buoys, n)
		check(t, fmt.Sprint("what is missing with the tolerance ", n), fmt.Sprint(got, code), "[] 2")
	}
	// One buoy of each kind stands for all places that are near enough.
	narrow := channel(10, at(50000, 50000), at(54000, 50000))
	checkMissing(t, narrow, 1000, []impl.Buoy{buoyAt(1, 52000, 50005), buoyAt(2, 53000, 49995)}, 2000, []impl.Buoy{buoyAt(2, 50000, 49995)})
	checkMissing(t, narrow, 1000, slices.Repeat([]impl.Buoy{buoyAt(8, 52000, 50005)}, 64), 5000, missingModel([]impl.Buoy{buoyAt(1, 50000, 50005), buoyAt(2, 50000, 49995), buoyAt(1, 51000, 50005), buoyAt(2, 51000, 49995), buoyAt(1, 52000, 50005), buoyAt(2, 52000, 49995), buoyAt(1, 53000, 50005), buoyAt(2, 53000, 49995), buoyAt(1, 54000, 50005), buoyAt(2, 54000, 49995)}, nil, 0))
}

// wrongModel returns the indices of the buoys that are not on their sides.
func wrongModel(ch impl.Channel, list []impl.Buoy) []int64 {
	var wrong []int64
	for i, b := range list {
		_, side := nearestModel(ch, b.At)
		if b.Kind == 1 && side <= 0 || b.Kind == 2 && side >= 0 {
			wrong = append(wrong, int64(i))
		}
	}
	return wrong
}

func checkWrong(t *testing.T, ch impl.Channel, list []impl.Buoy, want []int64) {
	t.Helper()
	got, code := impl.WrongBuoys(ch, list)
	check(t, fmt.Sprint("the wrong ones of ", len(list), " along ", channelPrint(ch)), fmt.Sprint(got, code), fmt.Sprint(want, impl.OK))
}

func TestP14WrongBuoysAreNotOnTheirSides(t *testing.T) {
	for i, ch := range sampleChannels() {
		var list []impl.Buoy
		for j, p := range placesNear(ch) {
			list = append(list, impl.Buoy{At: p, Kind: []int64{1, 2, 1, 2, int64(1 + (i+j)%9)}[j%5]})
		}
		for part := range slices.Chunk(list, 64) {
			checkWrong(t, ch, part, wrongModel(ch, part))
		}
		checkWrong(t, ch, nil, nil)
	}
	ch := channel(100, at(0, 1000), at(1000, 1000))
	for kind := int64(1); kind <= 9; kind++ {
		isWrong := []bool{kind == 2, kind <= 2, kind == 1}
		for i, y := range []int64{1001, 1000, 999} {
			var want []int64
			if isWrong[i] {
				want = append(want, 0, 2)
			}
			checkWrong(t, ch, []impl.Buoy{buoyAt(kind, 5, y), buoyAt(5, 5, y), buoyAt(kind, 900, y)}, want)
		}
	}
	checkWrong(t, ch, slices.Repeat([]impl.Buoy{buoyAt(1, 0, 0)}, 64), []int64{0, 1, 2, 3, 4, 5, 6, 7, 8, 9, 10, 11, 12, 13, 14, 15, 16, 17, 18, 19, 20, 21, 22, 23, 24, 25, 26, 27, 28, 29, 30, 31, 32, 33, 34, 35, 36, 37, 38, 39, 40, 41, 42, 43, 44, 45, 46, 47, 48, 49, 50, 51, 52, 53, 54, 55, 56, 57, 58, 59, 60, 61, 62, 63})
}

func TestP14BuoysOfStraightChannelsAreOnTheirSides(t *testing.T) {
	for _, ch := range straightChannels() {
		back, _ := impl.ReverseChannel(ch)
		for _, spacing := range spacingsFor(ch) {
			buoys, code := impl.BuoysFor(ch, spacing)
			if code != impl.OK {
				continue
			}
			checkWrong(t, ch, buoys, nil)
			var all []int64
			for i := range buoys {
				all = append(all, int64(i))
			}
			checkWrong(t, back, buoys, all)
		}
	}
}

func TestP14ChannelsAreReversed(t *testing.T) {
	for _, ch := range sampleChannels() {
		back, code := impl.ReverseChannel(ch)
		what := channelPrint(ch)
		want := ch
		want.Line = slices.Clone(ch.Line)
		slices.Reverse(want.Line)
		check(t, "the way back of "+what, channelPrint(back)+fmt.Sprint(code), channelPrint(want)+fmt.Sprint(impl.OK))
		again, _ := impl.ReverseChannel(back)
		check(t, "whether twice back is "+what, impl.SameChannel(again, ch), true)
		length, _ := impl.ChannelLength(back)
		check(t, "the length back of "+what, length, lengthModel(ch))
	}
}

// channelModel is the text of a channel.
func channelModel(ch impl.Channel) string {
	text := fmt.Sprint(ch.Name, " ", ch.Width)
	for _, p := range ch.Line {
		text += fmt.Sprintf(" %d,%d", p.X, p.Y)
	}
	return text
}

func TestP14ChannelsAreRestoredFromTheirTexts(t *testing.T) {
	for i, ch := range sampleChannels() {
		ch.Name = []string{"a", "main", "z123456789", "abcdefghij", "a0"}[i%5]
		text := channelModel(ch)
		check(t, "the text of "+channelPrint(ch), impl.ChannelText(ch), text)
		read, ok := impl.ReadChannel(text)
		check(t, text+" is read", ok, true)
		check(t, "the channel of "+text, channelPrint(read), channelPrint(ch))
		check(t, "whether it is the same: "+text, impl.SameChannel(read, ch), true)
	}
	read, ok := impl.ReadChannel("main 100 0,1000 1000,1000")
	check(t, "the example", fmt.Sprint(read, ok), "{main [{0 1000} {1000 1000}] 100} true")
}

func checkNoChannel(t *testing.T, s string) {
	t.Helper()
	ch, ok := impl.ReadChannel(s)
	check(t, fmt.Sprintf("%.90q is read", s), ok, false)
	check(t, fmt.Sprintf("the channel of %.90q", s), channelPrint(ch), channelPrint(impl.Channel{}))
}

func TestP14OtherTextsHaveNoChannel(t *testing.T) {
	good := strings.Split("main 100 0,1000 1000,1000 0,1000", " ")
	numbers := []string{"", "-", "0", "9", "-100", "+100", "0100", "100m", "100.0", "1e2", "0x64", "5001", "4294967396", "18446744073709551716", "\uff11\uff10\uff10", strings.Repeat("1", 10000)}
	points := []string{"", "-", "1000", "1000,", ",1000", "5,5,5", "5;5", "-1,5", "5,-1", "200001,0", "0,200001", "05,5", "5,+5", "(5,5)", "5,05"}
	others := [][]string{{"", "Main", "MAIN", "1main", "ma-in", "main-", "abcdefghijk", "-", "0", "m\u00f6", "main\t", strings.Repeat("a", 10000)}, numbers, append(points, "1000,1000"), append(points, "0,1000"), append(points, "1000,1000")}
	checkWrongWords(t, good, others, checkNoChannel)
	all := strings.Join(good, " ")
	for _, s := range []string{"main 100 0,1000", "main 100", "main", "", " ", "100 0,1000 1000,1000", "main 0,1000 1000,1000", all + " ", " " + all, all + "\n", strings.ReplaceAll(all, " ", "\t"), strings.ReplaceAll(all, " ", "  "), strings.ReplaceAll(all, " ", ""), strings.ReplaceAll(all, " ", ","), strings.ToUpper(all), all + " " + all,
		"main 100" + strings.Repeat(" 0,1000 1000,1000", 6) + " 0,1000", "main 100" + strings.Repeat(" 0,1000 1000,1000", 7), "main 100" + strings.Repeat(" 0,1000 1000,1000", 50000), strings.Repeat(" ", 100000)} {
		checkNoChannel(t, s)
	}
}

var channelForm = regexp.MustCompile(`^[a-z][a-z0-9]{0,9} [0-9]+( [0-9]+,[0-9]+){2,12}$`)

func isChannelText(s string) bool {
	if !channelForm.MatchString(s) {
		return false
	}
	words := strings.Split(s, " ")
	for i, word := range words[2:] {
		x, y, _ := strings.Cut(word, ",")
		if word == words[i+1] || !isNumberText(x, 0, 200000) || !isNumberText(y, 0, 200000) {
			return false
		}
	}
	return isNumberText(words[1], 10, 5000)
}

func TestP14ChangedTextsHaveChannelsIfTheyAreCanonical(t *testing.T) {
	texts := []string{"main 100 0,1000 1000,1000", "a 5000 0,0 1,0 0,0 11,0", "z123456789 10 200000,200000 199999,200000", "abcdefghij 99" + strings.Repeat(" 1,2 3,4", 6)}
	checkChangedTexts(t, texts, 1000, isChannelText, func(s string) (string, bool) {
		ch, ok := impl.ReadChannel(s)
		return channelModel(ch), ok
	}, checkNoChannel)
}

// channelAnswers prints the results of all functions of chapter 13.
func channelAnswers(ch impl.Channel, list []impl.Buoy, p impl.Point, d, spacing, tolerance int64) string {
	length, one := impl.ChannelLength(ch)
	place, two := impl.PlaceAlong(ch, d)
	gates, three := impl.GatesFor(ch, spacing)
	buoys, four := impl.BuoysFor(ch, spacing)
	side, five := impl.SideOfChannel(ch, p)
	missing, six := impl.MissingBuoys(ch, spacing, list, tolerance)
	wrong, seven := impl.WrongBuoys(ch, list)
	back, eight := impl.ReverseChannel(ch)
	text := impl.ChannelText(ch)
	read, ok := impl.ReadChannel(text)
	return fmt.Sprint(length, one, place, two, gates, three, buoys, four, side, five, missing, six, wrong, seven, channelPrint(back), eight, text, channelPrint(read), ok,
		impl.ValidChannel(ch), impl.SameChannel(ch, back), impl.InChannel(ch, p), impl.ValidBuoys(list))
}

func TestP1ChannelsHaveEqualResults(t *testing.T) {
	numbers := append(extremeNumbers(), 2, 9, 10, 49, 50, 400, 5000, 5001, 199999, 200000, 200001)
	checkEqualResults(t, numbers, func(a, b, c int64) string {
		ch, list := channel(a, at(5, 5000), at(b, c), at(6000, b)), []impl.Buoy{buoyAt(a, b, c), buoyAt(1, 5, 7)}
		good := channel(100, at(5, 5000), at(6000, 5000))
		return channelAnswers(ch, list, at(b, a), a, b, c) + channelAnswers(good, list, at(a, b), c, a, b)
	})
	for i, ch := range append(invalidChannels(), sampleChannels()...) {
		copied := ch
		copied.Line = slices.Clone(ch.Line)
		list := invalidBuoys()[i%len(invalidBuoys())]
		buoys, _ := impl.BuoysFor(ch, 5000)
		for _, list := range [][]impl.Buoy{nil, list, buoys} {
			check(t, "the second results for "+channelPrint(ch), channelAnswers(copied, slices.Clone(list), at(7, 7), 5, 5000, 9), channelAnswers(ch, list, at(7, 7), 5, 5000, 9))
		}
	}
	checkEqualReadings(t, func(s string) string {
		ch, ok := impl.ReadChannel(s)
		named := channel(100, at(5, 5000), at(6000, 5000))
		named.Name = s
		return fmt.Sprint(ch, ok, impl.ValidChannel(named))
	}, "main 100 0,1000 1000,1000", "main 100 0,1000", "main 9 0,1000 1000,1000")
}

func TestP1ChannelsDoNotDisturbEachOther(t *testing.T) {
	checkUndisturbed(t, func(n int64) string {
		ch := drawnChannels(30)[n+10]
		buoys, _ := impl.BuoysFor(ch, 50+1000*n)
		return channelAnswers(ch, buoys, at(6000, n), n, 50+1000*n, 100*n)
	})
}

func TestP1ChannelsAreNotModified(t *testing.T) {
	for i, ch := range append(invalidChannels(), sampleChannels()...) {
		line := append(slices.Clone(ch.Line), at(7, 7), at(-7, 7))
		buoys, _ := impl.BuoysFor(ch, 5000)
		for _, list := range [][]impl.Buoy{buoys, invalidBuoys()[i%len(invalidBuoys())], buoys[:len(buoys)/2]} {
			memory := append(slices.Clone(list), buoyAt(7, 7, 7), buoyAt(-7, -7, -7))
			lineBefore, before := slices.Clone(line), slices.Clone(memory)
			ch.Line = line[:len(ch.Line)]
			channelAnswers(ch, memory[:len(list)], at(7, 7), 5, 5000, 9)
			check(t, "whether what has been asked for remains as it is: "+channelPrint(ch), slices.Equal(line, lineBefore) && slices.Equal(memory, before), true)
		}
	}
}

func TestP1ResultsOfChannelsShareNoMemory(t *testing.T) {
	for _, sample := range sampleChannels() {
		ch := sample
		ch.Line = slices.Clone(sample.Line)
		list := []impl.Buoy{buoyAt(1, 5, 5), buoyAt(2, 5, 5), buoyAt(1, 200000, 5)}
		gates, _ := impl.GatesFor(ch, 5000)
		buoys, _ := impl.BuoysFor(ch, 5000)
		missing, _ := impl.MissingBuoys(ch, 5000, list, 0)
		wrong, _ := impl.WrongBuoys(ch, list)
		back, _ := impl.ReverseChannel(ch)
		read, _ := impl.ReadChannel(impl.ChannelText(ch))
		checkApart(t, func() string { return channelAnswers(ch, list, at(7, 7), 1, 5000, 9) },
			resultOf(gates), resultOf(buoys), resultOf(missing), resultOf(wrong), resultOf(back.Line), resultOf(read.Line))
	}
}
