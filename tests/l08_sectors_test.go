package tests

import (
	"fmt"
	"math"
	"math/big"
	"math/rand/v2"
	"regexp"
	"slices"
	"strconv"
	"strings"
	"testing"

	"loop.example/g00953/impl"
)

const darkRing = "."

func sector(from, to int64, color string) impl.Sector {
	return impl.Sector{From: from, To: to, Color: color}
}

// paintedRing changes a ring, which has a byte for each of 360 bearings: a
// color, or `.` where it is dark.
func paintedRing(ring string, s impl.Sector) string {
	colors := []byte(ring)
	for d := s.From; ; {
		colors[d] = (s.Color + darkRing)[0]
		d = (d + 1) % 360
		if d == s.To {
			return string(colors)
		}
	}
}

// ringOf draws sectors that have bearings.
func ringOf(list []impl.Sector) string {
	ring := strings.Repeat(darkRing, 360)
	for _, s := range list {
		ring = paintedRing(ring, s)
	}
	return ring
}

func litCount(ring string) int64 {
	return int64(360 - strings.Count(ring, darkRing))
}

// arcsOfRing walks from each bearing at which another color begins.
func arcsOfRing(ring string) []impl.Sector {
	var arcs []impl.Sector
	for from := range 360 {
		if ring[from] == ring[(from+359)%360] {
			continue
		}
		to := from
		for ring[to] == ring[from] {
			to = (to + 1) % 360
		}
		arcs = append(arcs, sector(int64(from), int64(to), strings.Trim(ring[from:from+1], darkRing)))
	}
	if arcs == nil {
		arcs = append(arcs, sector(0, 0, strings.Trim(ring[:1], darkRing)))
	}
	return arcs
}

// arcsThat returns the lit or the dark arcs of a ring.
func arcsThat(areLit bool, ring string) []impl.Sector {
	var arcs []impl.Sector
	for _, s := range arcsOfRing(ring) {
		if (s.Color != "") == areLit {
			arcs = append(arcs, s)
		}
	}
	return arcs
}

func isSectorModel(s impl.Sector) bool {
	return s.From >= 0 && s.From < 360 && s.To >= 0 && s.To < 360 && slices.Contains([]string{"W", "R", "G", "Y"}, s.Color)
}

// isListModel reports whether no degree is drawn twice, and all else is as it must be.
func isListModel(list []impl.Sector) bool {
	sum := int64(0)
	for i, s := range list {
		if !isSectorModel(s) || i > 0 && list[i-1].From >= s.From {
			return false
		}
		sum += litCount(ringOf(list[i : i+1]))
	}
	return len(list) <= 12 && sum == litCount(ringOf(list))
}

// sectorsModel is the text of a valid list.
func sectorsModel(list []impl.Sector) string {
	if len(list) == 0 {
		return "-"
	}
	var parts []string
	for _, s := range list {
		parts = append(parts, strconv.Itoa(int(s.From))+"-"+strconv.Itoa(int(s.To))+s.Color)
	}
	return strings.Join(parts, ",")
}

func sectorsPrint(list []impl.Sector) string {
	if len(list) > 14 {
		return fmt.Sprint(len(list), " sectors")
	}
	return fmt.Sprintf("%+v", list)
}

func checkSectors(t *testing.T, what string, got []impl.Sector, code int64, want []impl.Sector) {
	t.Helper()
	check(t, what, sectorsPrint(got), sectorsPrint(want))
	check(t, "the code of "+what, code, impl.OK)
}

// dividedCircle has sectors from each bearing to the next one, in some colors in
// turn, where `.` is dark.
func dividedCircle(bearings []int64, colors string) []impl.Sector {
	var list []impl.Sector
	for i, from := range bearings {
		if color := colors[i%len(colors)]; color != '.' {
			list = append(list, sector(from, bearings[(i+1)%len(bearings)], string(rune(color))))
		}
	}
	return list
}

// equalParts are bearings with the same number of degrees between them.
func equalParts(count, first int64) []int64 {
	var bearings []int64
	for i := range count {
		bearings = append(bearings, first+i*(360/count))
	}
	return bearings
}

// fullCircles are lists near the limit of MaxSectors.
func fullCircles() [][]impl.Sector {
	var lists [][]impl.Sector
	for _, first := range []int64{0, 1, 14} {
		for _, colors := range []string{"W", "WR", "WRGY", "WW.", "W.", ".WRGYWRGYWRG", "WRGYWRGYWRG."} {
			lists = append(lists, dividedCircle(equalParts(12, first), colors))
		}
		for _, colors := range []string{"W.", "W.R.", "W.R.G.Y."} {
			lists = append(lists, dividedCircle(equalParts(24, first), colors))
			lists = append(lists, dividedCircle(equalParts(24, first), colors)[1:])
			lists = append(lists, dividedCircle(equalParts(24, first), colors)[2:])
			lists = append(lists, dividedCircle(equalParts(24, first), colors)[:11])
			lists = append(lists, dividedCircle(equalParts(24, first), colors)[:10])
		}
	}
	return lists
}

// shortSectors are all with some bearings, near north and far from it, in some colors.
func shortSectors(colors ...string) []impl.Sector {
	var list []impl.Sector
	for _, from := range []int64{0, 1, 2, 180, 358, 359} {
		for _, to := range []int64{0, 1, 2, 180, 358, 359} {
			for _, color := range colors {
				list = append(list, sector(from, to, color))
			}
		}
	}
	return list
}

// drawnSectors are drawn by lot, the same ones in each run.
func drawnSectors(count int) [][]impl.Sector {
	lot := rand.New(rand.NewPCG(8, 9))
	var lists [][]impl.Sector
	for i := range count {
		var bearings []int64
		for range 1 + lot.IntN(12) {
			bearings = append(bearings, lot.Int64N([]int64{360, 360, 20}[i%3]))
		}
		slices.Sort(bearings)
		colors := []byte(".WRGY")
		lot.Shuffle(len(colors), func(a, b int) { colors[a], colors[b] = colors[b], colors[a] })
		lists = append(lists, dividedCircle(slices.Compact(bearings), string(colors[:2+i%4])))
	}
	return lists
}

// validLists are lists of all sorts, with many edges at and over north.
func validLists() [][]impl.Sector {
	lists := [][]impl.Sector{nil, {}, {sector(20, 100, "R"), sector(350, 10, "W")}}
	for _, s := range shortSectors("W", "R") {
		lists = append(lists, []impl.Sector{s})
		for _, second := range shortSectors("W") {
			if list := []impl.Sector{s, second}; isListModel(list) {
				lists = append(lists, list)
			}
		}
	}
	return slices.Concat(lists, fullCircles(), drawnSectors(200))
}

// invalidLists are lists in each of which one thing is wrong.
func invalidLists() [][]impl.Sector {
	white, red := sector(350, 10, "W"), sector(20, 100, "R")
	lists := [][]impl.Sector{
		{white, red}, {red, red}, {red, sector(20, 21, "W")}, {red, sector(99, 110, "W")}, {red, sector(30, 40, "R")}, {red, sector(100, 21, "W")},
		{sector(0, 1, "W"), white}, {sector(9, 20, "G"), white}, {sector(0, 350, "Y"), white}, {sector(9, 350, "Y"), white}, {sector(20, 10, "W"), sector(30, 40, "W")}, {sector(20, 10, "W"), sector(30, 15, "W")},
		{sector(0, 0, "W"), red}, {red, sector(120, 120, "W")}, {sector(7, 7, "G"), sector(8, 8, "G")}, {sector(7, 7, "G"), sector(7, 7, "G")}, {sector(7, 7, "G"), sector(9, 9, "G")},
		{red, sector(110, 120, "W"), sector(130, 21, "G")}, {sector(10, 20, "W"), sector(40, 50, "W"), sector(30, 35, "W")}, {sector(10, 20, "W"), sector(15, 30, "W"), sector(40, 50, "W")},
		{sector(10, 20, "W"), sector(30, 45, "W"), sector(40, 50, "W")}, {sector(10, 20, "W"), sector(30, 40, "W"), sector(30, 40, "W")}, {sector(10, 45, "W"), sector(30, 35, "W"), sector(40, 50, "W")},
		dividedCircle(equalParts(24, 0), "WR")[:13], dividedCircle(equalParts(15, 0), "WWR")[:13], dividedCircle(equalParts(24, 0), "W"), dividedCircle(equalParts(360, 0), "W.R."),
		slices.Repeat([]impl.Sector{red}, 100000),
	}
	for _, color := range []string{"", "w", "B", "X", "-", ".", " ", "WR", "W ", " W", "WRGY", "\x00", "\xff", "\uff37"} {
		lists = append(lists, []impl.Sector{sector(20, 100, color)}, []impl.Sector{red, sector(350, 10, color)}, []impl.Sector{sector(1, 1, color)})
	}
	for _, n := range numbersBeyond(0, 359) {
		lists = append(lists, []impl.Sector{sector(n, 100, "W")}, []impl.Sector{sector(100, n, "W")}, []impl.Sector{sector(n, n, "W")},
			[]impl.Sector{red, sector(n, 10, "W")}, []impl.Sector{red, sector(350, n, "W")}, []impl.Sector{sector(n, 10, "W"), red}, []impl.Sector{sector(10, n, "W"), red})
	}
	return lists
}

func TestP9Constants(t *testing.T) {
	check(t, "MaxSectors", impl.MaxSectors, 12)
}

func TestP9ArcsOfAllSectors(t *testing.T) {
	for from := range int64(360) {
		for to := range int64(360) {
			want := to - from
			if want <= 0 {
				want += 360
			}
			check(t, fmt.Sprint("the arc from ", from, " to ", to), impl.ArcOf(sector(from, to, "W")), want)
		}
	}
	for _, color := range []string{"", "R", "X", "WR"} {
		check(t, "the arc over north in "+color, impl.ArcOf(sector(350, 10, color)), 20)
		check(t, "the whole circle in "+color, impl.ArcOf(sector(5, 5, color)), 360)
	}
}

func TestP9BearingsOfSectorsHaveLimits(t *testing.T) {
	for _, n := range append(numbersBeyond(0, 359), 360, 361, 719, 720, -360, 1<<32, 1<<32+5) {
		for _, other := range []int64{0, 5, 359, n, -n} {
			for _, s := range []impl.Sector{sector(n, other, "W"), sector(other, n, "W")} {
				check(t, fmt.Sprint("the arc of ", s), impl.ArcOf(s), 0)
				check(t, fmt.Sprint("whether it is valid: ", s), impl.ValidSector(s), false)
			}
		}
	}
}

func TestP9SectorsHaveOneColor(t *testing.T) {
	colors := append(textsOver("WRGYwB-. ", 2), "WRG", "WRGY", "\uff37", "\xff", "\x00", "W\x00", strings.Repeat("W", 1000))
	for c := range 256 {
		colors = append(colors, string([]byte{byte(c)}))
	}
	for _, color := range colors {
		isColor := slices.Contains([]string{"W", "R", "G", "Y"}, color)
		for _, s := range []impl.Sector{sector(0, 0, color), sector(20, 100, color), sector(350, 10, color), sector(359, 359, color), sector(0, 359, color)} {
			check(t, fmt.Sprintf("whether it is valid: %+v", s), impl.ValidSector(s), isColor)
			check(t, fmt.Sprintf("whether the list is valid: %+v", s), impl.ValidSectors([]impl.Sector{s}), isColor)
		}
	}
	for _, s := range shortSectors("W", "R", "G", "Y") {
		check(t, fmt.Sprint("whether it is valid: ", s), impl.ValidSector(s), true)
	}
}

func TestP9ListsAreValidIfNoDegreeIsTwice(t *testing.T) {
	few, valid := shortSectors("W"), 0
	checkList := func(list ...impl.Sector) {
		isValid := isListModel(list)
		check(t, "whether it is valid: "+sectorsPrint(list), impl.ValidSectors(list), isValid)
		if isValid {
			valid++
		}
	}
	for i, a := range few {
		checkList(a)
		for _, b := range few {
			checkList(a, b)
			checkList(sector(50, 60, "R"), a, b)
			checkList(a, b, sector(350, 352, "R"))
			checkList(a, few[(i*7+11)%len(few)], b)
		}
	}
	if valid < 150 {
		t.Errorf("only %d of the lists are valid", valid)
	}
}

func TestP9ListsHaveAtMostTwelveSectors(t *testing.T) {
	for _, colors := range []string{"W", "WR", "W.", "W.R.", "W..", "WRGY"} {
		for count := int64(1); count <= 40; count++ {
			for _, first := range []int64{0, 1, 8} {
				list := dividedCircle(equalParts(count, first), colors)
				check(t, fmt.Sprint("whether it is valid: ", list), impl.ValidSectors(list), len(list) <= 12)
			}
		}
	}
}

func TestP9ValidAndInvalidLists(t *testing.T) {
	for _, list := range validLists() {
		check(t, "whether the test has a valid list", isListModel(list), true)
		check(t, "whether it is valid: "+sectorsPrint(list), impl.ValidSectors(list), true)
	}
	for _, list := range invalidLists() {
		check(t, "whether it is valid: "+sectorsPrint(list), impl.ValidSectors(list), false)
	}
}

func TestP9InvalidListsHaveNoResults(t *testing.T) {
	for _, list := range invalidLists() {
		colors, one := impl.ColorsOf(list)
		lit, two := impl.LitArc(list)
		dark, three := impl.DarkArcs(list)
		merged, four := impl.MergeSectors(list)
		turned, five := impl.TurnSectors(list, 20)
		check(t, "the codes for "+sectorsPrint(list), [5]int64{one, two, three, four, five}, [5]int64{impl.ErrInvalid, impl.ErrInvalid, impl.ErrInvalid, impl.ErrInvalid, impl.ErrInvalid})
		check(t, "the results for "+sectorsPrint(list), fmt.Sprint(colors == "", lit, dark == nil, merged == nil, turned == nil), "true 0 true true true")
		check(t, "the text of "+sectorsPrint(list), impl.SectorsText(list), "")
		for _, bearing := range []int64{0, 20, 50, 355, -5, math.MinInt64} {
			check(t, "the color in "+sectorsPrint(list), impl.ColorAt(list, bearing), "")
		}
		for _, s := range []impl.Sector{sector(10, 50, "W"), sector(0, 0, ""), sector(360, 7, "G"), sector(0, 0, "X")} {
			painted, code := impl.PaintSector(list, s)
			check(t, "the painted list of "+sectorsPrint(list), fmt.Sprint(painted == nil, code), "true 1")
		}
	}
}

func TestP9SameSectorsAreEqualOneByOne(t *testing.T) {
	lists := append(invalidLists()[:40], validLists()[:60]...)
	for i, a := range lists {
		for j, b := range lists {
			same := sectorsPrint(a) == sectorsPrint(b)
			check(t, fmt.Sprint("whether they are the same: ", i, " ", j), impl.SameSectors(a, b), same)
		}
		check(t, "whether it is the same: "+sectorsPrint(a), impl.SameSectors(a, slices.Clone(a)), true)
	}
	list := []impl.Sector{sector(20, 100, "R"), sector(350, 10, "W")}
	for _, other := range [][]impl.Sector{
		nil, list[:1], list[1:], {list[1], list[0]}, {list[0], list[1], list[1]}, {sector(21, 100, "R"), list[1]}, {sector(20, 101, "R"), list[1]}, {sector(20, 100, "W"), list[1]},
		{list[0], sector(349, 10, "W")}, {list[0], sector(350, 11, "W")}, {list[0], sector(350, 10, "")}, {sector(20+1<<32, 100, "R"), list[1]},
	} {
		check(t, "whether it is the same: "+sectorsPrint(other), impl.SameSectors(list, other) || impl.SameSectors(other, list), false)
	}
	check(t, "whether two empty lists are the same", impl.SameSectors(nil, []impl.Sector{}) && impl.SameSectors([]impl.Sector{}, nil), true)
}

func TestP9ColorsAtAllBearings(t *testing.T) {
	for _, list := range validLists() {
		ring, name := ringOf(list), sectorsPrint(list)
		for d := range int64(360) {
			want := strings.Trim(ring[d:d+1], darkRing)
			for _, bearing := range []int64{d, d - 360, d + 360} {
				check(t, fmt.Sprint("the color at ", bearing, " in "+name), impl.ColorAt(list, bearing), want)
			}
		}
	}
}

func TestP9BearingsAreAnyNumbers(t *testing.T) {
	for _, list := range [][]impl.Sector{{sector(20, 100, "R"), sector(350, 10, "W")}, {sector(359, 0, "G")}, {sector(0, 1, "Y")}, {sector(7, 7, "W")}, {sector(300, 200, "W")}, nil} {
		ring := ringOf(list)
		for _, bearing := range manyAngles() {
			d := sameAngle(big.NewInt(bearing))
			check(t, fmt.Sprint("the color at ", bearing, " in "+sectorsPrint(list)), impl.ColorAt(list, bearing), strings.Trim(ring[d:d+1], darkRing))
		}
	}
}

// colorsModel are the colors of a ring in order.
func colorsModel(ring string) string {
	colors := ""
	for _, color := range "WRGY" {
		if strings.ContainsRune(ring, color) {
			colors += string(color)
		}
	}
	return colors
}

func TestP9ColorsThatOccurAreInOrder(t *testing.T) {
	lists := validLists()
	for _, colors := range textsOver("WRGY", 4) {
		if colors != "" {
			lists = append(lists, dividedCircle(equalParts(int64(len(colors)), 30), colors), dividedCircle(equalParts(12, 7), colors))
		}
	}
	for _, list := range lists {
		colors, code := impl.ColorsOf(list)
		check(t, "the colors of "+sectorsPrint(list), colors, colorsModel(ringOf(list)))
		check(t, "the code of the colors of "+sectorsPrint(list), code, impl.OK)
	}
}

func TestP9LitAndDarkPartsMakeUpTheCircle(t *testing.T) {
	for _, list := range validLists() {
		ring := ringOf(list)
		lit, code := impl.LitArc(list)
		check(t, "the lit degrees of "+sectorsPrint(list), [2]int64{lit, code}, [2]int64{litCount(ring), impl.OK})
		dark, code := impl.DarkArcs(list)
		checkSectors(t, "the dark arcs of "+sectorsPrint(list), dark, code, arcsThat(false, ring))
		sum := lit
		for _, s := range dark {
			check(t, "the color of a dark arc", s.Color, "")
			sum += impl.ArcOf(s)
		}
		check(t, "the degrees of all arcs of "+sectorsPrint(list), sum, 360)
		check(t, "the ring of the dark arcs of "+sectorsPrint(list), strings.Trim(ringOf(append(paintAll(dark, "W"), list...)), "WRGY"), "")
	}
}

// paintAll are sectors with the same bearings in one color.
func paintAll(list []impl.Sector, color string) []impl.Sector {
	var painted []impl.Sector
	for _, s := range list {
		painted = append(painted, sector(s.From, s.To, color))
	}
	return painted
}

func TestP9DarkArcsOfExamples(t *testing.T) {
	for text, want := range map[string][]impl.Sector{
		"20-100R,350-10W": {sector(10, 20, ""), sector(100, 350, "")}, "-": {sector(0, 0, "")}, "0-0W": nil, "7-7G": nil, "0-10W,10-0R": nil, "5-10W,10-5W": nil,
		"0-359W": {sector(359, 0, "")}, "1-0W": {sector(0, 1, "")}, "0-10W": {sector(10, 0, "")}, "350-0W": {sector(0, 350, "")}, "20-30W,40-50W": {sector(30, 40, ""), sector(50, 20, "")}, "20-30W,30-50R": {sector(50, 20, "")},
	} {
		list, ok := impl.ReadSectors(text)
		check(t, text+" is read", ok, true)
		dark, code := impl.DarkArcs(list)
		checkSectors(t, "the dark arcs of "+text, dark, code, want)
	}
}

// checkSimple asks for the properties of a simple list.
func checkSimple(t *testing.T, list []impl.Sector) {
	t.Helper()
	check(t, "whether a simple list is valid: "+sectorsPrint(list), impl.ValidSectors(list), true)
	for i, a := range list {
		for j, b := range list {
			if a.To == b.From && a.Color == b.Color && (i != j || a.To != 0) {
				t.Errorf("the list %s is not simple", sectorsPrint(list))
			}
		}
	}
}

func TestP9MergedListsAreSimple(t *testing.T) {
	for _, list := range validLists() {
		merged, code := impl.MergeSectors(list)
		checkSectors(t, "the merged list of "+sectorsPrint(list), merged, code, arcsThat(true, ringOf(list)))
		checkSimple(t, merged)
		again, code := impl.MergeSectors(merged)
		checkSectors(t, "the list merged twice of "+sectorsPrint(list), again, code, merged)
	}
}

func TestP9MergedExamples(t *testing.T) {
	for text, want := range map[string]string{
		"-": "-", "0-10W,10-20W": "0-20W", "0-10W,10-20R": "0-10W,10-20R", "0-10W,20-30W": "0-10W,20-30W", "0-10W,350-0W": "350-10W", "0-10W,350-0R": "0-10W,350-0R", "0-10W,10-0W": "0-0W", "7-7G": "0-0G", "5-10W,10-5W": "0-0W",
		"5-10W,10-359W,359-5W": "0-0W", "5-10W,10-5R": "5-10W,10-5R", "5-10W,10-359R,359-5R": "5-10W,10-5R", "5-10W,10-359R,359-5W": "10-359R,359-10W", "1-2W,2-3W,3-4R,4-5W": "1-3W,3-4R,4-5W",
	} {
		list, ok := impl.ReadSectors(text)
		check(t, text+" is read", ok, true)
		merged, code := impl.MergeSectors(list)
		check(t, "the merged list of "+text, impl.SectorsText(merged), want)
		check(t, "the code of the merged list of "+text, code, impl.OK)
	}
}

// checkPainted asks for the painted list; it returns its number of sectors.
func checkPainted(t *testing.T, list []impl.Sector, s impl.Sector) int {
	t.Helper()
	what := fmt.Sprintf("%+v painted over %s", s, sectorsPrint(list))
	want := arcsThat(true, paintedRing(ringOf(list), s))
	painted, code := impl.PaintSector(list, s)
	if len(want) > 12 {
		check(t, what, painted == nil, true)
		check(t, "the code of "+what, code, impl.ErrFull)
		return len(want)
	}
	checkSectors(t, what, painted, code, want)
	return len(want)
}

func TestP9PaintingChangesJustTheBearingsOfASector(t *testing.T) {
	sectors := append(shortSectors("W", ""), sector(7, 7, "G"), sector(10, 50, "W"), sector(15, 15, ""), sector(20, 100, ""), sector(19, 101, "Y"), sector(30, 14, "R"))
	for _, list := range validLists() {
		for _, s := range sectors {
			painted, code := impl.PaintSector(list, s)
			checkPainted(t, list, s)
			if code != impl.OK {
				continue
			}
			checkSimple(t, painted)
			inside := ringOf(paintAll([]impl.Sector{s}, "W"))
			before, after := ringOf(list), ringOf(painted)
			for d := range int64(360) {
				want := before[d]
				if inside[d] == 'W' {
					want = (s.Color + darkRing)[0]
				}
				if after[d] != want {
					t.Errorf("%+v painted over %s is %q at %d", s, sectorsPrint(list), after[d], d)
				}
			}
		}
	}
}

func TestP9PaintedSectorsMayBeTooMany(t *testing.T) {
	counts := map[int]int{}
	for _, list := range fullCircles() {
		for from := int64(0); from < 360; from += 7 {
			for _, arc := range []int64{1, 15, 30, 46, 359, 360} {
				for _, color := range []string{"", "W", "Y"} {
					counts[checkPainted(t, list, sector(from, (from+arc)%360, color))]++
				}
			}
		}
	}
	for count := range 15 {
		if counts[count] < 10 {
			t.Errorf("only %d of the painted lists have %d sectors", counts[count], count)
		}
	}
}

func TestP9WhatIsPaintedIsASectorOrDark(t *testing.T) {
	lists := append(validLists()[:40], fullCircles()...)
	for _, list := range lists {
		for _, n := range numbersBeyond(0, 359) {
			for _, s := range []impl.Sector{sector(n, 7, "G"), sector(7, n, "G"), sector(n, n, "W"), sector(n, 7, ""), sector(7, n, ""), sector(n, n, ""), sector(n, 7, "X")} {
				checkNotPainted(t, list, s)
			}
		}
		for _, color := range []string{"w", "B", "X", "-", ".", " ", "WR", "W ", " W", "WRGY", "\x00", "\xff", "\uff37"} {
			for _, s := range []impl.Sector{sector(0, 0, color), sector(10, 50, color), sector(350, 10, color), sector(360, 10, color)} {
				checkNotPainted(t, list, s)
			}
		}
	}
}

func checkNotPainted(t *testing.T, list []impl.Sector, s impl.Sector) {
	t.Helper()
	painted, code := impl.PaintSector(list, s)
	check(t, fmt.Sprintf("%+v painted over %s", s, sectorsPrint(list)), fmt.Sprint(painted == nil, code), "true 2")
}

func TestP9PaintedExamples(t *testing.T) {
	example := "20-100R,350-10W"
	for _, c := range []struct {
		text string
		s    impl.Sector
		want string
	}{
		{example, sector(10, 50, "W"), "50-100R,350-50W"}, {example, sector(0, 0, ""), "-"}, {example, sector(7, 7, "G"), "0-0G"}, {example, sector(100, 120, "R"), "20-120R,350-10W"}, {example, sector(355, 5, ""), "5-10W,20-100R,350-355W"},
		{example, sector(5, 355, ""), "355-5W"}, {example, sector(10, 350, "W"), "0-0W"}, {example, sector(10, 20, ""), example}, {example, sector(9, 10, "R"), "9-10R,20-100R,350-9W"}, {example, sector(40, 50, "G"), "20-40R,40-50G,50-100R,350-10W"},
		{example, sector(0, 359, ""), "359-0W"}, {example, sector(359, 0, "G"), "0-10W,20-100R,350-359W,359-0G"}, {"-", sector(3, 4, "Y"), "3-4Y"}, {"-", sector(3, 4, ""), "-"}, {"0-0W", sector(5, 5, ""), "-"}, {"0-0W", sector(0, 1, ""), "1-0W"},
		{"0-0W", sector(350, 10, "R"), "10-350W,350-10R"}, {"7-7W", sector(5, 10, "W"), "0-0W"}, {"0-10W,10-20W", sector(30, 31, "G"), "0-20W,30-31G"},
	} {
		list, ok := impl.ReadSectors(c.text)
		check(t, c.text+" is read", ok, true)
		painted, code := impl.PaintSector(list, c.s)
		check(t, fmt.Sprintf("%+v painted over %s", c.s, c.text), impl.SectorsText(painted), c.want)
		check(t, fmt.Sprintf("the code of %+v painted over %s", c.s, c.text), code, impl.OK)
	}
}

func TestP9ListsAreTurned(t *testing.T) {
	for i, list := range validLists() {
		ring := ringOf(list)
		for _, by := range []int64{0, 1, -1, 2, 10, -20, 90, 180, 349, 358, 359, 360, -360, 361, 370, 1000, -1000, int64(i), math.MinInt64, math.MaxInt64} {
			split := 360 - sameAngle(big.NewInt(by))
			turned, code := impl.TurnSectors(list, by)
			checkSectors(t, fmt.Sprint("the list turned by ", by, " of "+sectorsPrint(list)), turned, code, arcsThat(true, ring[split:]+ring[:split]))
			if by != math.MinInt64 {
				back, code := impl.TurnSectors(turned, -by)
				checkSectors(t, fmt.Sprint("the list turned by ", by, " and back of "+sectorsPrint(list)), back, code, arcsThat(true, ring))
			}
		}
	}
}

func TestP9ListsAreTurnedByAnyNumber(t *testing.T) {
	list := []impl.Sector{sector(20, 100, "R"), sector(350, 10, "W")}
	for _, by := range manyAngles() {
		turned, code := impl.TurnSectors(list, by)
		check(t, fmt.Sprint("the code of the list turned by ", by), code, impl.OK)
		for _, d := range []int64{0, 9, 10, 19, 20, 99, 100, 349, 350, 359} {
			bearing := sameAngle(new(big.Int).Add(big.NewInt(d), big.NewInt(by)))
			check(t, fmt.Sprint("the color that was at ", d, " turned by ", by), impl.ColorAt(turned, bearing), impl.ColorAt(list, d))
		}
	}
	for by, want := range map[int64]string{20: "10-30W,40-120R", 0: "20-100R,350-10W", 10: "0-20W,30-110R", 350: "10-90R,340-0W", -10: "10-90R,340-0W", -30: "320-340W,350-70R", 270: "260-280W,290-10R", 260: "250-270W,280-0R"} {
		turned, _ := impl.TurnSectors(list, by)
		check(t, fmt.Sprint("the text of the list turned by ", by), impl.SectorsText(turned), want)
	}
}

func TestP9SectorsAreRestored(t *testing.T) {
	for _, list := range validLists() {
		text := sectorsModel(list)
		check(t, "the text of "+sectorsPrint(list), impl.SectorsText(list), text)
		read, ok := impl.ReadSectors(text)
		check(t, text+" is read", ok, true)
		check(t, "the sectors of "+text, sectorsPrint(read), sectorsPrint(list))
		check(t, "whether they are the same: "+text, impl.SameSectors(read, list), true)
	}
	check(t, "the text of the document's example", impl.SectorsText([]impl.Sector{sector(20, 100, "R"), sector(350, 10, "W")}), "20-100R,350-10W")
}

func checkNoSectors(t *testing.T, s string) {
	t.Helper()
	list, ok := impl.ReadSectors(s)
	check(t, fmt.Sprintf("%.60q is read", s), ok, false)
	check(t, fmt.Sprintf("whether %.60q has no sectors", s), list == nil, true)
}

func TestP9OtherTextsHaveNoSectors(t *testing.T) {
	texts := []string{
		"", " ", ",", "--", "-,", ",-", "-W", "- ", " -", "0", "W", "0W", "0-W", "-0W", "0-0", "0-0B", "0-0w", "0-0WR", "0-0WW", "0-0W,", ",0-0W", "0-0W ", " 0-0W", "0 -0W", "0- 0W", "0-0 W", "0--0W", "--0W", "W0-0", "0W-0", "0-0-W", "0-0W-", "0-0-0W",
		"00-0W", "0-00W", "007-10W", "7-010W", "+7-10W", "7-+10W", "-7-10W", "7--10W", "-0-10W", "7--0W", "0x7-10W", "1e1-20W", "7.0-10W", "7-1_0W", "1_0-20W", "7_10W", "7:10W", "7,10W", "7-10,W", "7-10W;20-30R", "7-10W20-30R", "7-10W, 20-30R", "7-10W,,20-30R", "7-10W,-", "-,7-10W",
		"360-10W", "10-360W", "359-360W", "360-360W", "10-400W", "1000-10W", "10-4294967316W", "4294967316-10W", "9223372036854775808-1W", "1-18446744073709551618W", "\uff17-10W", "7\u201310W", "7-10\uff37", "7-10W\n", "7-10W\x00", "\t7-10W",
		"20-100R,90-110W", "350-10W,20-100R", "20-100R,20-30W", "0-5W,350-1R", "0-0W,5-10R", "5-10R,20-20W", "0-5W,5-0R,10-15G",
		sectorsModel(dividedCircle(equalParts(24, 0), "W.")) + ",359-0R", sectorsModel(dividedCircle(equalParts(20, 0), "WR")), strings.Repeat("0-1W,", 100000) + "0-1W",
		strings.Repeat(",", 100000), strings.Repeat("-", 100000), strings.Repeat("W", 100000), strings.Repeat("0", 100000) + "-1W", "0-" + strings.Repeat("9", 100000) + "W", "0-1" + strings.Repeat("W", 100000),
	}
	for _, s := range texts {
		checkNoSectors(t, s)
	}
	for _, list := range invalidLists() {
		checkNoSectors(t, sectorsModel(list))
	}
}

var sectorForm = regexp.MustCompile(`^(0|[1-9][0-9]{0,2})-(0|[1-9][0-9]{0,2})([WRGY])$`)

// isSectorsText reports whether a text is that of a valid list.
func isSectorsText(s string) bool {
	if s == "-" {
		return true
	}
	var list []impl.Sector
	for _, part := range strings.Split(s, ",") {
		found := sectorForm.FindStringSubmatch(part)
		if found == nil {
			return false
		}
		from, _ := strconv.ParseInt(found[1], 10, 64)
		to, _ := strconv.ParseInt(found[2], 10, 64)
		list = append(list, sector(from, to, found[3]))
	}
	return isListModel(list)
}

func TestP9ChangedTextsHaveSectorsIfTheyAreCanonical(t *testing.T) {
	texts := []string{"20-100R,350-10W", "-", "0-0W", "7-7G", "1-2W,2-3R,4-5G,359-1Y", sectorsModel(fullCircles()[0]), sectorsModel(fullCircles()[2])}
	checkChangedTexts(t, texts, 500, isSectorsText, func(s string) (string, bool) {
		list, ok := impl.ReadSectors(s)
		return impl.SectorsText(list), ok
	}, checkNoSectors)
}

// sectorAnswers prints the results of all functions of chapter 8.
func sectorAnswers(list []impl.Sector, s impl.Sector, by int64) string {
	colors, one := impl.ColorsOf(list)
	lit, two := impl.LitArc(list)
	dark, three := impl.DarkArcs(list)
	merged, four := impl.MergeSectors(list)
	painted, five := impl.PaintSector(list, s)
	turned, six := impl.TurnSectors(list, by)
	text := impl.SectorsText(list)
	read, ok := impl.ReadSectors(text)
	return fmt.Sprintln(colors, one, lit, two, dark, three, merged, four, painted, five, turned, six, text, read, ok,
		impl.ValidSector(s), impl.ArcOf(s), impl.ValidSectors(list), impl.SameSectors(list, []impl.Sector{s}), impl.SameSectors([]impl.Sector{s}, list), impl.ColorAt(list, by))
}

func TestP1SectorsHaveEqualResults(t *testing.T) {
	numbers := append(extremeNumbers(), 2, 5, 10, 180, 350, 358, 359, 360, 361)
	checkEqualResults(t, numbers, func(a, b, c int64) string {
		return sectorAnswers([]impl.Sector{sector(a, b, "W")}, sector(b, c, "R"), c) + sectorAnswers([]impl.Sector{sector(5, a, "W"), sector(b, c, "R")}, sector(b, a, ""), b)
	})
	for _, list := range append(invalidLists(), validLists()...) {
		if len(list) <= 14 {
			s := sector(10, 50, "W")
			check(t, "the second results for "+sectorsPrint(list), sectorAnswers(slices.Clone(list), s, -7), sectorAnswers(list, s, -7))
		}
	}
	checkEqualReadings(t, func(s string) string { return fmt.Sprint(impl.ReadSectors(s)) }, "20-100R,350-10W", "7-7G", "0-0", "20-100R,90-110W")
}

func TestP1SectorsDoNotDisturbEachOther(t *testing.T) {
	checkUndisturbed(t, func(n int64) string {
		list := []impl.Sector{sector(n, n+30, "W"), sector(n+40, 300+n, "R"), sector(340+n, n, "G")}
		return sectorAnswers(list, sector(3*n, 100+n, "Y"), n) + sectorAnswers(list[:n%3], sector(n, n, ""), -n)
	})
}

func TestP1SectorsAreNotModified(t *testing.T) {
	for _, list := range append(invalidLists()[:60], validLists()...) {
		memory := append(slices.Clone(list), sector(359, 0, "Y"), sector(-7, 400, "X"))
		before := slices.Clone(memory)
		for _, s := range []impl.Sector{sector(10, 50, "W"), sector(0, 0, ""), sector(360, 0, "G")} {
			sectorAnswers(memory[:len(list)], s, 3)
		}
		check(t, "whether it remains as it is: "+sectorsPrint(list), slices.Equal(memory, before), true)
	}
}

func TestP1ResultsOfSectorsShareNoMemory(t *testing.T) {
	for _, list := range validLists() {
		s := sector(12, 13, "Y")
		want := sectorAnswers(list, s, 0)
		argument := slices.Clone(list)
		dark, _ := impl.DarkArcs(argument)
		merged, _ := impl.MergeSectors(argument)
		painted, _ := impl.PaintSector(argument, s)
		turned, _ := impl.TurnSectors(argument, 0)
		read, _ := impl.ReadSectors(impl.SectorsText(argument))
		results := [][]impl.Sector{dark, merged, painted, turned, read}
		before := fmt.Sprint(results)
		clear(argument[:cap(argument)])
		check(t, "the results after a change of "+sectorsPrint(list), fmt.Sprint(results), before)
		for i, result := range results {
			others := fmt.Sprint(results[i+1:])
			clear(result[:cap(result)])
			check(t, "the other results after a change of one for "+sectorsPrint(list), fmt.Sprint(results[i+1:]), others)
		}
		check(t, "the results after a change of results for "+sectorsPrint(list), sectorAnswers(list, s, 0), want)
	}
}
