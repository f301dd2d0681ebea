package tests

import (
	"fmt"
	"math"
	"math/big"
	"math/rand/v2"
	"regexp"
	"slices"
	"strconv"
	"strings"
	"sync"
	"testing"

	"loop.example/g00953/impl"
)

// lightModel is a light as it is written in the text of an aid.
type lightModel struct {
	character, sectors string
	intensity          int64
}

// darkAid is what is written for an aid without a light.
func darkAid() lightModel {
	return lightModel{"-", "-", 0}
}

// lightModels are lights of all sorts, the last of which is none.
func lightModels() []lightModel {
	list := []lightModel{
		{"Fl WR 4s", "0-90R,90-180W", 1000}, {"Fl(2+1) WRG 12.5s", "10-100G,100-101W,200-300R", 1}, {"Q RG", "20-100R,350-10G", 100000000}, {"Mo(A) GY 8s", "0-180Y,180-0G", 99999999},
		{"F W", "0-0W", 5}, {"Iso Y 4s", "7-7Y", 6}, {"Oc(2) R 8s", "359-0R", 7}, {"LFl WRG 10s", "1-2R,2-3W,3-4R,4-5G,359-1W", 8}, {"VQ(6)+LFl W 10s", "0-10W,20-30W,30-40W", 9},
		{"Fl WY 4s", sectorsModel(dividedCircle(equalParts(12, 0), "WY")), 10}, {"Fl RGY 4s", sectorsModel(dividedCircle(equalParts(24, 1), "R.G.Y.")), 11},
	}
	for i, m := range fewRhythms() {
		list = append(list, lightModel{m.textOf("WRGY"[i%4:i%4+1], m.least), "-", int64(1 + i)})
		list = append(list, lightModel{m.textOf("WG", m.periods()[len(m.periods())-1]), "10-20G,30-40W", 100000000 - int64(i)})
	}
	return append(list, darkAid())
}

// aidModel is an aid as it is written.
type aidModel struct {
	number int64
	name   string
	x, y   int64
	height int64
	mark   string
	light  lightModel
}

func (m aidModel) text() string {
	return fmt.Sprintf("%d/%s/%d,%d/%d/%s/%s/%s/%d", m.number, m.name, m.x, m.y, m.height, m.mark, m.light.character, m.light.sectors, m.light.intensity)
}

// aid puts the parts together that the functions of other chapters read.
func (m aidModel) aid() impl.Aid {
	a := impl.Aid{Number: m.number, Name: m.name, At: impl.Point{X: m.x, Y: m.y}, Height: m.height, Intensity: m.light.intensity}
	var isMark, isLight, areSectors bool
	a.Mark, isMark = impl.ReadMark(m.mark)
	a.Light, isLight = impl.ReadCharacter(m.light.character)
	a.Sectors, areSectors = impl.ReadSectors(m.light.sectors)
	if !isMark || !areSectors || isLight == (m.light.character == "-") {
		panic("a part of an aid of the tests is wrong: " + m.text())
	}
	return a
}

// aidModels have marks and lights of all sorts, also without topmarks and without lights.
func aidModels() []aidModel {
	var marks []string
	for _, text := range textsOfMarks() {
		marks = append(marks, text)
	}
	slices.Sort(marks)
	names := []string{"a", "z", "rock", "bar2", "a0", "z123456789", "abcdefghij"}
	places := []int64{0, 1, 1000, 123456, 199999, 200000}
	heights := []int64{0, 1, 200, 2999, 3000}
	numbers := []int64{1, 2, 12, 999, 9998, 9999}
	var list []aidModel
	for i, light := range lightModels() {
		list = append(list, aidModel{numbers[i%6], names[i%7], places[i%6], places[i*5%6], heights[i%5], "none", light})
	}
	for i, text := range marks {
		light := darkAid()
		if i%3 == 2 {
			light = lightModels()[i%len(lightModels())]
		}
		list = append(list, aidModel{numbers[i%6], names[i%7], places[i*5%6], places[i/2%6], heights[i/2%5], text, light})
	}
	return list
}

// sampleAids are aids of all sorts, with several aids of one Number. They are made once, and never changed.
var sampleAids = sync.OnceValue(func() []impl.Aid {
	var list []impl.Aid
	for _, m := range aidModels() {
		list = append(list, m.aid())
	}
	return list
})

// buoy is a valid aid without a light.
func buoy(number int64) impl.Aid {
	return impl.Aid{Number: number, Name: "buoy", At: impl.Point{X: number, Y: 2 * number}, Height: 7, Mark: mark(1, "R", "spar", "")}
}

// lightWith is a valid aid with a light in some colors, which has sectors if there are several ones.
func lightWith(number int64, colors string) impl.Aid {
	a := buoy(number)
	a.Light = impl.Character{Kind: impl.ChFlash, Group: []int64{2, 1}, Colors: colors, Period: 200}
	a.Intensity = 1000
	if len(colors) > 1 {
		for i := range len(colors) {
			a.Sectors = append(a.Sectors, sector(int64(90*i), int64(90*i+60), colors[i:i+1]))
		}
	}
	return a
}

func aidPrint(a impl.Aid) string {
	return fmt.Sprintf("%d %q %v %d %q %s %s %d", a.Number, a.Name, a.At, a.Height, []string{fmt.Sprint(a.Mark.Kind), a.Mark.Colors, a.Mark.Shape, a.Mark.Topmark}, characterPrint(a.Light), sectorsPrint(a.Sectors), a.Intensity)
}

func aidsPrint(list []impl.Aid) string {
	var parts []string
	for _, a := range list {
		parts = append(parts, aidPrint(a))
	}
	return strings.Join(parts, "\n")
}

// changedAid returns an aid of which a copy has been changed.
func changedAid(a impl.Aid, change func(a *impl.Aid)) impl.Aid {
	a.Light.Group, a.Sectors = slices.Clone(a.Light.Group), slices.Clone(a.Sectors)
	change(&a)
	return a
}

// invalidPlainAids are a buoy and a light of which one of the parts that all aids have is not valid.
func invalidPlainAids() []impl.Aid {
	list := []impl.Aid{{}}
	for _, a := range []impl.Aid{buoy(12), lightWith(12, "W"), lightWith(12, "WR")} {
		for _, n := range append(numbersBeyond(1, impl.MaxNumber), -12, 1<<32+12) {
			list = append(list, changedAid(a, func(a *impl.Aid) { a.Number = n }))
		}
		for _, name := range []string{"", "A", "1a", "rock ", " rock", "ro/ck", "ro-ck", "Rock", "abcdefghijk", "\u00e9", "r\x00", strings.Repeat("a", 100000)} {
			list = append(list, changedAid(a, func(a *impl.Aid) { a.Name = name }))
		}
		for _, n := range numbersBeyond(0, impl.MaxCoordinate) {
			list = append(list, changedAid(a, func(a *impl.Aid) { a.At.X = n }), changedAid(a, func(a *impl.Aid) { a.At.Y = n }))
		}
		for _, n := range append(numbersBeyond(0, impl.MaxHeight), -200) {
			list = append(list, changedAid(a, func(a *impl.Aid) { a.Height = n }))
		}
		for _, m := range []impl.Mark{{Kind: 1}, {Colors: "R"}, {Shape: "can"}, {Topmark: "can"}, {Kind: -1}, {Kind: 10}, mark(0, "R", "can", "can"), mark(1, "G", "can", "can"), mark(1, "R", "cone", "can"), mark(1, "R", "can", "cone"), mark(1, "R", "can", "-"), mark(2, "R", "can", "can"), mark(10, "Y", "can", "cross")} {
			list = append(list, changedAid(a, func(a *impl.Aid) { a.Mark = m }))
		}
	}
	return list
}

// invalidLights are aids that have a part of a light only, or parts that do not belong together.
func invalidLights() []impl.Aid {
	var list []impl.Aid
	add := func(a impl.Aid, change func(a *impl.Aid)) {
		list = append(list, changedAid(a, change))
	}
	dark, one, two := buoy(12), lightWith(12, "W"), lightWith(12, "WR")
	add(dark, func(a *impl.Aid) { a.Intensity = 1000 })
	add(dark, func(a *impl.Aid) { a.Intensity = -1 })
	add(dark, func(a *impl.Aid) { a.Sectors = []impl.Sector{sector(0, 90, "W")} })
	add(dark, func(a *impl.Aid) { a.Sectors = []impl.Sector{{}} })
	add(dark, func(a *impl.Aid) { a.Sectors, a.Intensity = []impl.Sector{sector(0, 0, "W")}, 1000 })
	add(dark, func(a *impl.Aid) { a.Light = one.Light })
	add(dark, func(a *impl.Aid) { a.Light, a.Sectors = two.Light, two.Sectors })
	// Without a light all fields of Light are zero.
	for _, c := range []impl.Character{{Kind: impl.ChFixed}, {Group: []int64{2}}, {Group: []int64{0}}, {Letter: "A"}, {Colors: "W"}, {Period: 40}, {Colors: "W", Period: 40}, {Kind: -1}, {Kind: impl.ChFlash, Colors: "W"}} {
		add(dark, func(a *impl.Aid) { a.Light = c })
		add(one, func(a *impl.Aid) { a.Light = c })
	}
	for _, a := range []impl.Aid{one, two} {
		add(a, func(a *impl.Aid) { a.Light = impl.Character{} })
		for _, n := range append(numbersBeyond(1, impl.MaxIntensity), -1000) {
			add(a, func(a *impl.Aid) { a.Intensity = n })
		}
		for _, n := range append(numbersBeyond(0, impl.MaxPeriod), 3) {
			add(a, func(a *impl.Aid) { a.Light.Period = n })
		}
		for _, colors := range []string{"", "RW", "WG", "WRG", "WRY", "WRGY", "WWR", "w", "B"} {
			add(a, func(a *impl.Aid) { a.Light.Colors = colors })
		}
		for _, text := range []string{"0-90R", "0-0G", "0-90G,90-100Y", "0-90R,90-100G", "0-10W,10-20R,20-30G", "0-10W,10-20R,20-30G,30-40Y", "0-10W,20-30R,350-0Y"} {
			add(a, func(a *impl.Aid) { a.Sectors, _ = impl.ReadSectors(text) })
		}
		for i, sectors := range invalidLists() {
			if i%5 == 0 && len(sectors) < 100 {
				add(a, func(a *impl.Aid) { a.Sectors = sectors })
			}
		}
	}
	add(one, func(a *impl.Aid) { a.Light.Colors = "WR" })
	add(two, func(a *impl.Aid) { a.Light.Colors = "R" })
	add(two, func(a *impl.Aid) { a.Light.Colors = "G" })
	add(one, func(a *impl.Aid) { a.Sectors = two.Sectors })
	add(two, func(a *impl.Aid) { a.Sectors = nil })
	add(two, func(a *impl.Aid) { a.Sectors = []impl.Sector{} })
	add(two, func(a *impl.Aid) { a.Sectors = a.Sectors[:1] })
	add(two, func(a *impl.Aid) { a.Sectors = []impl.Sector{sector(0, 90, "W"), sector(80, 100, "R")} })
	add(two, func(a *impl.Aid) { a.Sectors = []impl.Sector{sector(90, 100, "W"), sector(0, 10, "R")} })
	add(two, func(a *impl.Aid) { a.Sectors = dividedCircle(equalParts(15, 0), "WR") })
	return list
}

func invalidAids() []impl.Aid {
	return append(invalidPlainAids(), invalidLights()...)
}

func checkAids(t *testing.T, what string, got []impl.Aid, code int64, want []impl.Aid) {
	t.Helper()
	check(t, what, aidsPrint(got), aidsPrint(want))
	check(t, "the code of "+what, code, impl.OK)
}

func checkNoAids(t *testing.T, what string, got []impl.Aid, code, want int64) {
	t.Helper()
	check(t, what, fmt.Sprint(len(got), code), fmt.Sprint(0, want))
}

// listOfAids has aids of all sorts with the Numbers 10, 20 and so on.
func listOfAids(count, first int) []impl.Aid {
	samples := sampleAids()
	list := make([]impl.Aid, count)
	for i := range list {
		list[i] = samples[(first+i)%len(samples)]
		list[i].Number = int64(10 * (i + 1))
	}
	return list
}

// listsOfLights are lists of all lengths.
func listsOfLights() [][]impl.Aid {
	lists := [][]impl.Aid{nil}
	for count := range impl.MaxAids + 1 {
		lists = append(lists, listOfAids(count, 4*count), listOfAids(count, 4*count+37))
	}
	return lists
}

// disorderedLists have valid aids, but are no lists of lights.
func disorderedLists() [][]impl.Aid {
	long := listOfAids(impl.MaxAids, 0)
	last := long[impl.MaxAids-1]
	last.Number = 9999
	swapped, twice := slices.Clone(long), slices.Clone(long)
	swapped[22], swapped[23] = swapped[23], swapped[22]
	twice[23].Number = twice[22].Number
	return [][]impl.Aid{
		append(slices.Clone(long), last), {buoy(2), buoy(1)}, {buoy(2), buoy(2)}, {buoy(9999), buoy(1)}, {lightWith(3, "W"), buoy(3)}, {buoy(1), buoy(3), buoy(2)}, {buoy(1), buoy(1), buoy(2)}, {buoy(1), buoy(2), buoy(2)}, swapped, twice, slices.Repeat(long, 1000),
	}
}

func TestP13Constants(t *testing.T) {
	check(t, "the constants", fmt.Sprint(impl.MaxAids, impl.MaxNumber), "24 9999")
}

func TestP13AidsAreValidWithinTheirLimits(t *testing.T) {
	for _, a := range sampleAids() {
		check(t, "whether it is valid: "+aidPrint(a), impl.ValidAid(a), true)
		check(t, "whether it has a light: "+aidPrint(a), impl.HasLight(a), a.Intensity > 0)
	}
	for _, a := range invalidAids() {
		check(t, "whether it is valid: "+aidPrint(a), impl.ValidAid(a), false)
		check(t, "whether it has a light: "+aidPrint(a), impl.HasLight(a), false)
		check(t, "the text of "+aidPrint(a), impl.AidText(a), "")
	}
	for n := int64(-10); n <= 10010; n++ {
		a := buoy(5)
		a.Number = n
		check(t, fmt.Sprint("whether the number ", n, " is valid"), impl.ValidAid(a), n >= 1 && n <= 9999)
		a = buoy(5)
		a.Height = n
		check(t, fmt.Sprint("whether the height ", n, " is valid"), impl.ValidAid(a), n >= 0 && n <= 3000)
	}
}

func TestP13AidsWithoutALightAreValid(t *testing.T) {
	a := buoy(3)
	for text := range map[string]bool{"none": true, "left R can -": true, "special Y sphere cross": true} {
		a.Mark, _ = impl.ReadMark(text)
		for _, sectors := range [][]impl.Sector{nil, {}} {
			for _, group := range [][]int64{nil, {}} {
				a.Sectors, a.Light = sectors, impl.Character{Group: group}
				check(t, "whether it is valid: "+text, impl.ValidAid(a), true)
				check(t, "whether it has a light: "+text, impl.HasLight(a), false)
				check(t, "the text of "+text, impl.AidText(a), "3/buoy/3,6/7/"+text+"/-/-/0")
			}
		}
	}
}

func TestP13ColorsOfSectorsAreThoseOfTheLight(t *testing.T) {
	for _, colors := range allColors() {
		a := lightWith(12, colors)
		for _, list := range validLists() {
			a.Sectors = list
			shown := ""
			for _, color := range []string{"W", "R", "G", "Y"} {
				if strings.Contains(ringOf(list), color) {
					shown += color
				}
			}
			want := shown == colors || len(list) == 0 && len(colors) == 1
			check(t, "whether a light in "+colors+" is valid with "+sectorsPrint(list), impl.ValidAid(a), want)
			check(t, "whether there is a light in "+colors+" with "+sectorsPrint(list), impl.HasLight(a), want)
		}
	}
}

func TestP13ListsAreInOrder(t *testing.T) {
	for _, list := range listsOfLights() {
		check(t, "whether it is valid: "+aidsPrint(list), impl.ValidAids(list), true)
	}
	check(t, "whether the least and the greatest numbers are valid", impl.ValidAids([]impl.Aid{buoy(1), buoy(2), buoy(9998), buoy(9999)}), true)
	for i, list := range disorderedLists() {
		check(t, fmt.Sprint("whether list ", i, " is valid"), impl.ValidAids(list), false)
	}
	for i, wrong := range invalidAids() {
		check(t, "whether a list of one is valid: "+aidPrint(wrong), impl.ValidAids([]impl.Aid{wrong}), false)
		list := listOfAids(5, i)
		// The wrong one is at its place, if its Number is valid.
		place := i % 5
		if wrong.Number == 12 {
			wrong.Number = list[place].Number
		}
		list[place] = wrong
		check(t, "whether a list is valid with "+aidPrint(wrong), impl.ValidAids(list), false)
	}
}

// differentAids differ from the first one in one field.
func differentAids() []impl.Aid {
	a := lightWith(12, "WR")
	list := []impl.Aid{a, {}}
	for _, change := range []func(a *impl.Aid){
		func(a *impl.Aid) { a.Number++ }, func(a *impl.Aid) { a.Name = "Buoy" }, func(a *impl.Aid) { a.At.X++ }, func(a *impl.Aid) { a.At.Y-- }, func(a *impl.Aid) { a.Height = -7 },
		func(a *impl.Aid) { a.Mark.Kind++ }, func(a *impl.Aid) { a.Mark.Colors = "G" }, func(a *impl.Aid) { a.Mark.Shape = "can" }, func(a *impl.Aid) { a.Mark.Topmark = "can" },
		func(a *impl.Aid) { a.Light.Kind++ }, func(a *impl.Aid) { a.Light.Group = nil }, func(a *impl.Aid) { a.Light.Group[1]++ }, func(a *impl.Aid) { a.Light.Letter = "A" }, func(a *impl.Aid) { a.Light.Colors = "RW" }, func(a *impl.Aid) { a.Light.Period++ },
		func(a *impl.Aid) { a.Sectors = nil }, func(a *impl.Aid) { a.Sectors[1].From++ }, func(a *impl.Aid) { a.Sectors[0].To++ }, func(a *impl.Aid) { a.Sectors[0].Color = "R" }, func(a *impl.Aid) { a.Sectors = append(a.Sectors, impl.Sector{}) }, func(a *impl.Aid) { a.Intensity++ },
		func(a *impl.Aid) { a.Number = math.MinInt64 }, func(a *impl.Aid) { a.Sectors = a.Sectors[:1] },
	} {
		list = append(list, changedAid(a, change))
	}
	return list
}

func TestP13SameAidsAreEqualInAllFields(t *testing.T) {
	list := differentAids()
	for i, a := range list {
		for j, b := range list {
			b = changedAid(b, func(*impl.Aid) {})
			check(t, aidPrint(a)+" is "+aidPrint(b), impl.SameAid(a, b), i == j)
			check(t, "the list of "+aidPrint(a)+" is that of "+aidPrint(b), impl.SameAids([]impl.Aid{{}, a, list[0]}, []impl.Aid{{}, b, list[0]}), i == j)
		}
		check(t, "a list is the same as a shorter one", impl.SameAids(list, list[:i]), false)
		check(t, "a list is the same as a longer one", impl.SameAids(list[:i], list), false)
		check(t, "a list is the same as its copy", impl.SameAids(list[:i], slices.Clone(list[:i])), true)
	}
	none, empty := buoy(1), buoy(1)
	empty.Light.Group, empty.Sectors = []int64{}, []impl.Sector{}
	check(t, "an aid with empty lists is the same as one without", impl.SameAid(none, empty) && impl.SameAid(empty, none), true)
	check(t, "an empty list is the same as none", impl.SameAids(nil, []impl.Aid{}) && impl.SameAids([]impl.Aid{}, nil), true)
	check(t, "lists in another order are the same", impl.SameAids([]impl.Aid{buoy(1), buoy(2)}, []impl.Aid{buoy(2), buoy(1)}), false)
}

func TestP13AidsAreFoundByTheirNumbers(t *testing.T) {
	for _, list := range listsOfLights() {
		for i, a := range list {
			got, code := impl.AidNumbered(list, a.Number)
			check(t, fmt.Sprint("the code of aid ", i), code, impl.OK)
			check(t, fmt.Sprint("aid ", i, " of ", len(list)), aidPrint(got), aidPrint(a))
		}
		for _, n := range append(extremeNumbers(), 5, 9, 11, -10, 10*int64(len(list))+10, 9999, 10000) {
			got, code := impl.AidNumbered(list, n)
			check(t, fmt.Sprint("aid ", n, " of ", len(list)), aidPrint(got), aidPrint(impl.Aid{}))
			check(t, fmt.Sprint("the code of aid ", n, " of ", len(list)), code, impl.ErrNotFound)
		}
	}
}

func TestP13AidsAreAddedAtTheirPlaces(t *testing.T) {
	for _, list := range listsOfLights() {
		for place := 0; place <= len(list); place++ {
			a := sampleAids()[(place*7+len(list))%40]
			a.Number = int64(10*place + 5)
			what := fmt.Sprint("aid ", a.Number, " added to ", len(list))
			got, code := impl.AddAid(list, a)
			if len(list) == impl.MaxAids {
				checkNoAids(t, what, got, code, impl.ErrFull)
				continue
			}
			checkAids(t, what, got, code, slices.Insert(slices.Clone(list), place, a))
			check(t, "whether the list is valid: "+what, impl.ValidAids(got), true)
		}
		for _, a := range list {
			// ErrExists comes before ErrFull; the rest of the aid does not matter.
			got, code := impl.AddAid(list, buoy(a.Number))
			checkNoAids(t, fmt.Sprint("another aid ", a.Number, " added to ", len(list)), got, code, impl.ErrExists)
		}
	}
}

func TestP13RemovingUndoesAdding(t *testing.T) {
	for i, list := range listsOfLights() {
		for _, number := range []int64{1, 9, 11, 105, 9999} {
			if len(list) == impl.MaxAids {
				continue
			}
			a := sampleAids()[(i+int(number))%40]
			a.Number = number
			more, code := impl.AddAid(list, a)
			check(t, fmt.Sprint("the code of aid ", number, " added to ", len(list)), code, impl.OK)
			less, code := impl.DropAid(more, number)
			checkAids(t, fmt.Sprint("aid ", number, " added to ", len(list), " and removed"), less, code, list)
			check(t, "whether it is the same list", impl.SameAids(less, list), true)
		}
		for place, a := range list {
			less, code := impl.DropAid(list, a.Number)
			what := fmt.Sprint("aid ", place, " of ", len(list), " removed")
			checkAids(t, what, less, code, slices.Delete(slices.Clone(list), place, place+1))
			check(t, "whether the list is valid: "+what, impl.ValidAids(less), true)
			_, code = impl.AidNumbered(less, a.Number)
			check(t, "whether it is still there: "+what, code, impl.ErrNotFound)
			more, code := impl.AddAid(less, a)
			checkAids(t, what+" and added", more, code, list)
		}
	}
}

func TestP13OtherNumbersAreNotRemoved(t *testing.T) {
	for _, list := range listsOfLights() {
		for _, n := range append(extremeNumbers(), 5, 9, 11, -10, 10*int64(len(list))+10, 9999, 10000, 1<<32+10) {
			got, code := impl.DropAid(list, n)
			checkNoAids(t, fmt.Sprint("aid ", n, " of ", len(list), " removed"), got, code, impl.ErrNotFound)
		}
		for _, n := range []int64{1, 5, 9, 11, 10*int64(len(list)) + 10, 9999} {
			got, code := impl.ReplaceAid(list, buoy(n))
			checkNoAids(t, fmt.Sprint("aid ", n, " of ", len(list), " replaced"), got, code, impl.ErrNotFound)
		}
	}
}

func TestP13AidsAreReplaced(t *testing.T) {
	for i, list := range listsOfLights() {
		for place, before := range list {
			a := sampleAids()[(i+7*place)%40]
			a.Number = before.Number
			want := slices.Clone(list)
			want[place] = a
			what := fmt.Sprint("aid ", place, " of ", len(list), " replaced")
			got, code := impl.ReplaceAid(list, a)
			checkAids(t, what, got, code, want)
			back, code := impl.ReplaceAid(got, before)
			checkAids(t, what+" and again", back, code, list)
			same, code := impl.ReplaceAid(list, before)
			checkAids(t, what+" by itself", same, code, list)
		}
	}
}

// checkInvalidArguments asks all functions with a list, or with an aid.
func checkInvalidArguments(t *testing.T, list []impl.Aid, a impl.Aid, p impl.Point) {
	t.Helper()
	isList, isAid, isPoint := impl.ValidAids(list), impl.ValidAid(a), impl.ValidPoint(p)
	if !isList {
		found, code := impl.AidNumbered(list, a.Number)
		check(t, "AidNumbered", aidPrint(found)+fmt.Sprint(code), aidPrint(impl.Aid{})+fmt.Sprint(impl.ErrInvalid))
		got, code := impl.DropAid(list, a.Number)
		checkNoAids(t, "DropAid", got, code, impl.ErrInvalid)
	}
	if !isList || !isAid {
		got, code := impl.AddAid(list, a)
		checkNoAids(t, "AddAid", got, code, impl.ErrInvalid)
		got, code = impl.ReplaceAid(list, a)
		checkNoAids(t, "ReplaceAid", got, code, impl.ErrInvalid)
	}
	if !isAid || !isPoint {
		color, code := impl.ColorToward(a, p)
		check(t, "ColorToward", color+fmt.Sprint(code), fmt.Sprint(impl.ErrInvalid))
	}
	if !isList || !isPoint {
		number, code := impl.NearestAid(list, p)
		checkNoNumber(t, "NearestAid", number, code, impl.ErrInvalid)
	}
}

func TestP13InvalidArgumentsHaveNoResults(t *testing.T) {
	p := impl.Point{X: 12, Y: 30}
	for i, wrong := range invalidAids() {
		// ErrInvalid comes before the other errors.
		for _, list := range [][]impl.Aid{nil, {buoy(wrong.Number)}, {buoy(10), buoy(12)}, listOfAids(impl.MaxAids, i), {wrong}} {
			checkInvalidArguments(t, list, wrong, p)
			checkInvalidArguments(t, list, wrong, wrong.At)
		}
		list := listOfAids(impl.MaxAids, i)
		list[i%impl.MaxAids] = wrong
		for _, a := range []impl.Aid{buoy(10), buoy(12), lightWith(240, "W"), lightWith(9999, "WR")} {
			checkInvalidArguments(t, list, a, p)
		}
	}
	for _, list := range disorderedLists() {
		for _, a := range []impl.Aid{buoy(1), buoy(2), buoy(10), buoy(240), buoy(9999)} {
			checkInvalidArguments(t, list, a, p)
		}
	}
	for _, n := range numbersBeyond(0, impl.MaxCoordinate) {
		for _, p := range []impl.Point{{X: n}, {Y: n}, {X: n, Y: n}} {
			// ErrInvalid comes before the error of an aid without a light, and of an empty list.
			for _, a := range []impl.Aid{buoy(10), lightWith(10, "W"), lightWith(10, "WR")} {
				checkInvalidArguments(t, []impl.Aid{a}, a, p)
				checkInvalidArguments(t, nil, a, p)
			}
		}
	}
}

func TestP13ColorsTowardAllBearings(t *testing.T) {
	lights := 0
	for _, a := range sampleAids() {
		a.At = impl.Point{X: 100000, Y: 100000}
		ring := ringOf(a.Sectors)
		if len(a.Sectors) == 0 {
			ring = strings.Repeat(a.Light.Colors, 360)
		}
		for d := range int64(360) {
			p, _ := impl.Move(a.At, d, 90000)
			check(t, "the bearing of a point", impl.Bearing(a.At, p), d)
			color, code := impl.ColorToward(a, p)
			what := fmt.Sprint("the color toward ", d, " of ", aidPrint(a))
			if a.Intensity == 0 {
				check(t, what, color+fmt.Sprint(code), fmt.Sprint(impl.ErrState))
				continue
			}
			check(t, what, color+fmt.Sprint(code), strings.Trim(ring[d:d+1], darkRing)+fmt.Sprint(impl.OK))
			lights++
		}
	}
	if lights < 10000 {
		t.Errorf("only %d lights were asked for", lights)
	}
}

func TestP13ColorsTowardPoints(t *testing.T) {
	at := impl.Point{X: 1000, Y: 1000}
	for text, want := range map[string]string{
		"Fl WR 4s/0-90R,90-180W/1": "RRWW    ", "Fl W 4s/-/1": "WWWWWWWW", "F G/0-0G/5": "GGGGGGGG", "Q RG/20-100R,350-10G/7": "GRR     ", "F W/90-91W/5": "  W     ", "F Y/91-90Y/5": "YY YYYYY", "F R/225-46R/5": "RR   RRR", "-/-/0": "--------",
	} {
		a, ok := impl.ReadAid("12/rock/1000,1000/200/none/" + text)
		check(t, text+" is read", ok, true)
		for i, p := range []impl.Point{{X: 1000, Y: 1100}, {X: 2000, Y: 2000}, {X: 1001, Y: 1000}, {X: 2000, Y: 0}, {X: 1000, Y: 0}, {X: 0, Y: 0}, {X: 999, Y: 1000}, {X: 0, Y: 2000}} {
			color, code := impl.ColorToward(a, p)
			expected := strings.TrimSpace(want[i:i+1]) + "0"
			if want[i] == '-' {
				expected = "6"
			}
			check(t, fmt.Sprint("the color of ", text, " toward ", p), color+fmt.Sprint(code), expected)
		}
		color, code := impl.ColorToward(a, at)
		check(t, "the color at the place of "+text, color+fmt.Sprint(code), fmt.Sprint(impl.ErrState))
	}
}

// squareOf is the exact square of a distance.
func squareOf(p, q impl.Point) *big.Int {
	x, y := big.NewInt(p.X-q.X), big.NewInt(p.Y-q.Y)
	return x.Add(x.Mul(x, x), y.Mul(y, y))
}

func TestP13TheNearestAidIsTheFirstOne(t *testing.T) {
	lot := rand.New(rand.NewPCG(12, 13))
	for i := range 600 {
		list := listOfAids(1+i%impl.MaxAids, i)
		limit := []int64{4, 50, 200001}[i%3]
		for j := range list {
			list[j].At = impl.Point{X: lot.Int64N(limit), Y: lot.Int64N(limit)}
		}
		p := impl.Point{X: lot.Int64N(limit), Y: lot.Int64N(limit)}
		nearest := list[0]
		for _, a := range list {
			if squareOf(a.At, p).Cmp(squareOf(nearest.At, p)) < 0 {
				nearest = a
			}
		}
		got, code := impl.NearestAid(list, p)
		checkNumber(t, fmt.Sprint("the aid that is nearest to ", p), got, code, nearest.Number)
	}
	number, code := impl.NearestAid(nil, impl.Point{})
	checkNoNumber(t, "nearest aid of none", number, code, impl.ErrState)
	number, code = impl.NearestAid([]impl.Aid{}, impl.Point{X: impl.MaxCoordinate})
	checkNoNumber(t, "nearest aid of an empty list", number, code, impl.ErrState)
}

func TestP13DistancesOfAidsAreExact(t *testing.T) {
	at := func(number, x, y int64) impl.Aid {
		a := buoy(number)
		a.At = impl.Point{X: x, Y: y}
		return a
	}
	for i, c := range []struct {
		list []impl.Aid
		want int64
	}{
		{[]impl.Aid{at(3, 1000, 2), at(4, 1000, 1)}, 4}, {[]impl.Aid{at(3, 1000, 1), at(4, 1000, 2)}, 3}, {[]impl.Aid{at(3, 3, 4), at(4, 5, 0), at(5, 0, 5)}, 3}, {[]impl.Aid{at(7, 5, 1), at(8, 5, 0), at(9, 4, 3)}, 8},
		{[]impl.Aid{at(1, 200000, 200000)}, 1}, {[]impl.Aid{at(1, 200000, 200000), at(9999, 200000, 199999)}, 9999}, {[]impl.Aid{at(1, 0, 0), at(2, 0, 0)}, 1},
	} {
		got, code := impl.NearestAid(c.list, impl.Point{})
		checkNumber(t, fmt.Sprint("the nearest aid of list ", i), got, code, c.want)
	}
}

func TestP13AidsAreRestoredFromTheirTexts(t *testing.T) {
	for _, m := range aidModels() {
		a := m.aid()
		check(t, "the text of "+aidPrint(a), impl.AidText(a), m.text())
		read, ok := impl.ReadAid(m.text())
		check(t, m.text()+" is read", ok, true)
		check(t, "the aid of "+m.text(), aidPrint(read), aidPrint(a))
		check(t, "whether it is the same: "+m.text(), impl.SameAid(read, a), true)
	}
	for i, text := range []string{"12/rock/1000,1000/200/none/Fl WR 4s/0-90R,90-180W/1000", "3/bar/900,900/7/none/-/-/0", "1/a/0,0/0/north BY pillar up/Q W/-/1", "9999/abcdefghij/200000,200000/3000/left R spar -/Fl R 4s/0-0R/100000000", "44/z9/5,6/8/safe RW sphere -/-/-/0"} {
		read, ok := impl.ReadAid(text)
		check(t, text+" is read", ok, true)
		check(t, "the text of the aid of "+text, impl.AidText(read), text)
		check(t, "whether it has a light: "+text, impl.HasLight(read), i%2 == 0 && i < 4 || i == 3)
		check(t, "the number of "+text, read.Number, []int64{12, 3, 1, 9999, 44}[i])
	}
}

func checkNoAid(t *testing.T, s string) {
	t.Helper()
	a, ok := impl.ReadAid(s)
	check(t, fmt.Sprintf("%.90q is read", s), ok, false)
	check(t, fmt.Sprintf("the aid of %.90q", s), aidPrint(a), aidPrint(impl.Aid{}))
}

func TestP13OtherTextsHaveNoAid(t *testing.T) {
	good := strings.Split("12/rock/1000,1000/200/left R can can/Fl WR 4s/0-90R,90-180W/1000", "/")
	others := [][]string{
		{"", "0", "-1", "-12", "+12", "012", "12 ", " 12", "12.0", "1e1", "0xc", "10000", "4294967308", "18446744073709551628", "-", "\uff11", "twelve", strings.Repeat("1", 10000)},
		{"", "Rock", "ROCK", "1rock", "ro ck", "rock ", "ro-ck", "abcdefghijk", "-", "0", "r\u00f6ck", strings.Repeat("a", 10000)},
		{"", "-", "1000", "1000,", ",1000", "1000,1000,1000", "1000 1000", "1000, 1000", "-1,1000", "1000,-1", "200001,0", "0,200001", "01000,1000", "1000,+1000", "(1000,1000)", "1000;1000"},
		{"", "-", "-1", "3001", "0200", "+200", "200 ", "20.0", "200dm", "4294967496"},
		{"", "-", "None", "none ", "left", "left R can", "left R can ", "left R can -can", "left G can can", "left R can up", "right R can can", "Left R can can", "left R can can can", "none none"},
		{"", "-", "none", "Fl WR", "Fl RW 4s", "Fl W 4s", "Fl R 4s", "Fl WG 4s", "Fl WRG 4s", "Fl WR 4.0s", "Fl WR 2.4s", "Fl(1) WR 4s", "F WR 4s", "X WR 4s", "fl WR 4s", "Fl WR 4s "},
		{"", "-", "0-90R", "90-180W", "0-0W", "90-180W,0-90R", "0-90R,80-180W", "0-90R,90-180G", "0-90R,90-180W,180-190G", "0-90R,90-180", "0-90R,90-180W,", "0-90R, 90-180W", "0-90R,90-360W", "00-90R,90-180W"},
		{"", "-", "0", "-1", "-1000", "+1000", "01000", "1000 ", "1e3", "1000cd", "100000001", "4294968296", "18446744073709552616"},
	}
	for i, list := range others {
		for _, other := range list {
			parts := slices.Clone(good)
			parts[i] = other
			checkNoAid(t, strings.Join(parts, "/"))
		}
		checkNoAid(t, strings.Join(slices.Delete(slices.Clone(good), i, i+1), "/"))
		checkNoAid(t, strings.Join(slices.Insert(slices.Clone(good), i, good[i]), "/"))
		checkNoAid(t, strings.Join(slices.Insert(slices.Clone(good), i, ""), "/"))
		checkNoAid(t, strings.Join(good[:i], "/"))
		checkNoAid(t, strings.Join(good[i+1:], "/"))
	}
	all := strings.Join(good, "/")
	dark := "3/bar/900,900/7/none/-/-/"
	for _, s := range []string{all + "/", "/" + all, all + "\n", " " + all, all + "/" + all, strings.ReplaceAll(all, "/", "//"), strings.ReplaceAll(all, "/", " "), strings.ReplaceAll(all, "/", "\\"), strings.ToUpper(all),
		dark, dark + "1", dark + "-", "3/bar/900,900/7/none/-/0-0W/0", "3/bar/900,900/7/none/-/0-0W/5", "3/bar/900,900/7/none/F W/-/0", "3/bar/900,900/7/none/F WR/-/5", "3/bar/900,900/7/none//-/0", "3/bar/900,900/7/none/-//0", "3/bar/900,900/7//-/-/0",
		"///////", "-/-/-/-/-/-/-/-", "0//0,0/0/none/-/-/0", "0/a/0,0/0/none/-/-/0", "1//0,0/0/none/-/-/0", strings.Repeat("/", 100000), strings.Repeat(all+"/", 1000)} {
		checkNoAid(t, s)
	}
}

// isNumberText reports whether a text is a number within limits, as Decimal writes it.
func isNumberText(s string, low, high int64) bool {
	n, err := strconv.ParseInt(s, 10, 64)
	return err == nil && strconv.FormatInt(n, 10) == s && n >= low && n <= high
}

var aidForm = regexp.MustCompile(`^([0-9]+)/([a-z][a-z0-9]{0,9})/([0-9]+),([0-9]+)/([0-9]+)/([^/]*)/([^/]*)/([^/]*)/([0-9]+)$`)

// areColorsOf reports whether the colors in the texts of a light and of its sectors belong together.
func areColorsOf(character, sectors string) bool {
	colors := strings.Split(character, " ")[1]
	if sectors == "-" {
		return len(colors) == 1
	}
	shown := ""
	for _, color := range []string{"W", "R", "G", "Y"} {
		if strings.Contains(sectors, color) {
			shown += color
		}
	}
	return colors == shown
}

func TestP13ChangedTextsHaveAidsIfTheyAreCanonical(t *testing.T) {
	models, marks := map[string]rhythmModel{}, map[string]bool{}
	for _, m := range allRhythms() {
		models[m.text] = m
	}
	for _, text := range textsOfMarks() {
		marks[text] = true
	}
	isText := func(s string) bool {
		parts := aidForm.FindStringSubmatch(s)
		if parts == nil || !marks[parts[6]] || !isNumberText(parts[1], 1, 9999) || !isNumberText(parts[3], 0, 200000) || !isNumberText(parts[4], 0, 200000) || !isNumberText(parts[5], 0, 3000) {
			return false
		}
		if parts[7] == "-" {
			return parts[8] == "-" && parts[9] == "0"
		}
		return isCharacterText(parts[7], models) && isSectorsText(parts[8]) && isNumberText(parts[9], 1, 100000000) && areColorsOf(parts[7], parts[8])
	}
	texts := []string{"12/rock/1000,1000/200/none/Fl WR 4s/0-90R,90-180W/1000", "3/bar/900,900/7/left R can -/-/-/0", "1/a/0,0/0/north BY pillar up/Q W/-/1", "9999/abcdefghij/200000,200000/3000/special Y spar cross/Oc(2+1) Y 12.5s/7-7Y/100000000"}
	checkChangedTexts(t, texts, 1000, isText, func(s string) (string, bool) {
		a, ok := impl.ReadAid(s)
		return impl.AidText(a), ok
	}, checkNoAid)
}

// aidAnswers prints the results of all functions of chapter 12.
func aidAnswers(list []impl.Aid, a impl.Aid, p impl.Point) string {
	found, one := impl.AidNumbered(list, a.Number)
	more, two := impl.AddAid(list, a)
	less, three := impl.DropAid(list, a.Number)
	other, four := impl.ReplaceAid(list, a)
	color, five := impl.ColorToward(a, p)
	nearest, six := impl.NearestAid(list, p)
	text := impl.AidText(a)
	read, ok := impl.ReadAid(text)
	return strings.Join([]string{fmt.Sprint(one, two, three, four, color, five, nearest, six, text, ok, impl.ValidAid(a), impl.ValidAids(list), impl.HasLight(a), impl.SameAids(list, []impl.Aid{a}), impl.SameAid(found, a)),
		aidPrint(found), aidsPrint(more), aidsPrint(less), aidsPrint(other), aidPrint(read)}, "\n")
}

func TestP1AidsHaveEqualResults(t *testing.T) {
	numbers := append(extremeNumbers(), 10, 12, 24, 3000, 9999, 10000, 200000, 200001)
	checkEqualResults(t, numbers, func(a, b, c int64) string {
		one, two := buoy(10), lightWith(12, "WR")
		two.Number, two.Height, two.Intensity = a, b, c
		return aidAnswers([]impl.Aid{one}, two, impl.Point{X: a, Y: b}) + aidAnswers([]impl.Aid{one, two}, one, impl.Point{X: c})
	})
	for i, a := range append(invalidAids(), sampleAids()...) {
		list, p := listOfAids(i%25, i), impl.Point{X: 5, Y: 1000}
		copied := changedAid(a, func(*impl.Aid) {})
		check(t, "the second results for "+aidPrint(a), aidAnswers(slices.Clone(list), copied, p), aidAnswers(list, a, p))
	}
	checkEqualReadings(t, func(s string) string {
		a, ok := impl.ReadAid(s)
		named := buoy(3)
		named.Name = s
		return aidPrint(a) + fmt.Sprint(ok, impl.ValidAid(named))
	}, "3/bar/900,900/7/none/-/-/0", "12/rock/1000,1000/200/none/Fl WR 4s/0-90R,90-180W/1000", "0/bar/900,900/7/none/-/-/0")
}

func TestP1AidsDoNotDisturbEachOther(t *testing.T) {
	samples := sampleAids()
	checkUndisturbed(t, func(n int64) string {
		a := samples[n]
		a.Number = 10 * n
		return aidAnswers(listOfAids(int(n), int(2*n)), a, impl.Point{X: 100 * n, Y: n})
	})
}

// withMemory returns an aid whose lists have unused capacity, and the memory of these.
func withMemory(a impl.Aid) (impl.Aid, []int64, []impl.Sector) {
	group := append(slices.Clone(a.Light.Group), 7, -7)
	sectors := append(slices.Clone(a.Sectors), sector(359, 0, "Y"), sector(-7, 400, "X"))
	a.Light.Group, a.Sectors = group[:len(a.Light.Group)], sectors[:len(a.Sectors)]
	return a, group, sectors
}

func TestP1AidsAreNotModified(t *testing.T) {
	for i, a := range append(invalidAids(), sampleAids()...) {
		a, group, sectors := withMemory(a)
		list := listOfAids(i%24, i)
		other, otherGroup, otherSectors := withMemory(lightWith(9999, "WRG"))
		list = append(list, other)
		memory := append(slices.Clone(list), buoy(7), impl.Aid{Number: -1})
		before := aidsPrint(memory) + aidPrint(a) + fmt.Sprint(group, sectors, otherGroup, otherSectors)
		for _, number := range []int64{a.Number, 10, 5, 9999} {
			a.Number, number = number, a.Number
			aidAnswers(memory[:len(list)], a, impl.Point{X: 3, Y: 5})
			a.Number = number
		}
		check(t, "what has been asked for with "+aidPrint(a), aidsPrint(memory)+aidPrint(a)+fmt.Sprint(group, sectors, otherGroup, otherSectors), before)
	}
}

// clearAids changes all that belongs to some aids.
func clearAids(list []impl.Aid) {
	for _, a := range list {
		clear(a.Light.Group[:cap(a.Light.Group)])
		clear(a.Sectors[:cap(a.Sectors)])
	}
	clear(list[:cap(list)])
}

// resultsOfAids are the aids that the functions of chapter 12 return.
func resultsOfAids(list []impl.Aid, a impl.Aid) [][]impl.Aid {
	last := list[len(list)-1]
	found, _ := impl.AidNumbered(list, last.Number)
	more, _ := impl.AddAid(list, a)
	less, _ := impl.DropAid(list, 10)
	other, _ := impl.ReplaceAid(list, last)
	read, _ := impl.ReadAid(impl.AidText(last))
	return [][]impl.Aid{{found}, more, less, other, {read}}
}

func printsOfAids(lists [][]impl.Aid) string {
	var parts []string
	for _, list := range lists {
		parts = append(parts, aidsPrint(list))
	}
	return strings.Join(parts, "\n\n")
}

func TestP1ResultsOfAidsShareNoMemory(t *testing.T) {
	for count := 1; count < impl.MaxAids; count++ {
		list := append(listOfAids(count-1, 3*count), lightWith(240, "WRG"))
		for i := range list {
			list[i] = changedAid(list[i], func(*impl.Aid) {})
		}
		a := lightWith(15, "WR")
		results := resultsOfAids(list, a)
		before := printsOfAids(results)
		again := resultsOfAids(list, a)
		clearAids(list)
		clearAids([]impl.Aid{a})
		check(t, "the results after a change of the arguments", printsOfAids(results), before)
		for i, result := range results {
			others := printsOfAids(results[i+1:])
			for j := range result {
				rest := aidsPrint(result[j+1:])
				clearAids(result[j : j+1 : j+1])
				check(t, "the rest of a result after a change of one aid", aidsPrint(result[j+1:]), rest)
			}
			clearAids(result)
			check(t, "the other results after a change of one", printsOfAids(results[i+1:]), others)
		}
		check(t, "the earlier results after a change of all", printsOfAids(again), before)
	}
}
