package tests

import (
	"fmt"
	"math"
	"regexp"
	"slices"
	"strconv"
	"strings"
	"testing"

	"loop.example/g00953/impl"
)

// rhythmRow is a row of the document's table of rhythms.
type rhythmRow struct {
	text             string
	flash, gap, rest int64
}

func rhythmRows() map[int64]rhythmRow {
	return map[int64]rhythmRow{
		impl.ChFixed:     {"F", 0, 0, 0},
		impl.ChOcculting: {"Oc", 10, 10, 15},
		impl.ChIso:       {"Iso", 0, 0, 0},
		impl.ChFlash:     {"Fl", 5, 15, 20},
		impl.ChLong:      {"LFl", 20, 20, 25},
		impl.ChQuick:     {"Q", 5, 5, 20},
		impl.ChVery:      {"VQ", 2, 3, 10},
		impl.ChMorse:     {"Mo", 5, 5, 30},
	}
}

// signsOfLetters are those of the letters from A to Z.
var signsOfLetters = strings.Fields(".- -... -.-. -.. . ..-. --. .... .. .--- -.- .-.. -- -. --- .--. --.- .-. ... - ..- ...- .-- -..- -.-- --..")

// rhythmModel is a rhythm as the tests understand the document. In its picture
// each tenth of a second is a byte: `#` in a flash or in an eclipse, `.` otherwise.
type rhythmModel struct {
	kind    int64
	group   []int64
	letter  string
	text    string
	times   string
	least   int64
	flashes int64
}

func (m rhythmModel) name() string {
	return fmt.Sprint(m.kind, m.group, m.letter)
}

func (m rhythmModel) character(colors string, period int64) impl.Character {
	return impl.Character{Kind: m.kind, Group: m.group, Letter: m.letter, Colors: colors, Period: period}
}

func (m rhythmModel) hasPeriod(period int64) bool {
	if m.least == 0 {
		return period == 0
	}
	return m.least <= period && period <= 600 && (m.kind != impl.ChIso || period%2 == 0)
}

// periods are the least and the greatest ones, and some of those between.
func (m rhythmModel) periods() []int64 {
	var list []int64
	for _, period := range []int64{0, m.least, m.least + 1, m.least + 2, m.least + 10, (m.least + 600) / 2, 300, 305, 598, 599, 600} {
		if m.hasPeriod(period) && !slices.Contains(list, period) {
			list = append(list, period)
		}
	}
	return list
}

// lamp returns the picture of a period: `#` where it is lit.
func (m rhythmModel) lamp(period int64) string {
	switch {
	case m.kind == impl.ChFixed:
		return strings.Repeat("#", 10)
	case m.kind == impl.ChIso:
		return tenths("#", period/2) + tenths(".", period/2)
	case m.least == 0:
		return m.times + tenths(".", rhythmRows()[m.kind].gap)
	}
	picture := m.times + tenths(".", period-int64(len(m.times)))
	if m.kind == impl.ChOcculting {
		return strings.NewReplacer("#", ".", ".", "#").Replace(picture)
	}
	return picture
}

func tenths(of string, length int64) string {
	return strings.Repeat(of, int(length))
}

// phasesOfLamp returns the phases of a picture.
func phasesOfLamp(picture, color string) []impl.Phase {
	var list []impl.Phase
	for len(picture) > 0 {
		length := len(picture) - len(strings.TrimLeft(picture, picture[:1]))
		phase := impl.Phase{Length: int64(length)}
		if picture[0] == '#' {
			phase.Color = color
		}
		list = append(list, phase)
		picture = picture[length:]
	}
	return list
}

// groupModel is the rhythm of a kind with flashes in groups.
func groupModel(kind int64, group []int64, letter string) rhythmModel {
	row := rhythmRows()[kind]
	m := rhythmModel{kind: kind, group: group, letter: letter, text: row.text}
	elements, gap := group, tenths(".", row.gap)
	if len(group) == 0 {
		elements = []int64{1}
	} else {
		m.text += "(" + strings.ReplaceAll(strings.Trim(fmt.Sprint(group), "[]"), " ", "+") + ")"
	}
	var parts []string
	for _, n := range elements {
		parts = append(parts, strings.Join(slices.Repeat([]string{tenths("#", row.flash)}, int(n)), gap))
		m.flashes += n
	}
	m.times = strings.Join(parts, gap+tenths(".", 20))
	m.least = int64(len(m.times)) + row.rest
	if len(group) > 1 {
		m.least += 20
	}
	return m
}

// morseModel is the rhythm of the letter with an index.
func morseModel(index int) rhythmModel {
	letter := string(rune('A' + index))
	signs := strings.Join(strings.Split(signsOfLetters[index], ""), " ")
	times := strings.NewReplacer(".", tenths("#", 5), "-", tenths("#", 15), " ", tenths(".", 5)).Replace(signs)
	return rhythmModel{kind: impl.ChMorse, letter: letter, text: "Mo(" + letter + ")", times: times,
		least: int64(len(times)) + 30, flashes: int64(len(signsOfLetters[index]))}
}

// validGroups are all groups of flashes that are neither quick nor very quick.
func validGroups() [][]int64 {
	list := [][]int64{nil}
	for i := 0; i < len(list); i++ {
		for n := int64(1); n <= 9; n++ {
			group := append(slices.Clone(list[i]), n)
			sum := int64(0)
			for _, element := range group {
				sum += element
			}
			if len(group) <= 4 && sum <= 12 {
				list = append(list, group)
			}
		}
	}
	return slices.DeleteFunc(list, func(group []int64) bool { return slices.Equal(group, []int64{1}) })
}

// allRhythms are the rhythms of all valid characters.
func allRhythms() []rhythmModel {
	list := []rhythmModel{{kind: impl.ChFixed, text: "F"}, {kind: impl.ChIso, text: "Iso", least: 20, flashes: 1}}
	for _, kind := range []int64{impl.ChOcculting, impl.ChFlash, impl.ChLong} {
		for _, group := range validGroups() {
			list = append(list, groupModel(kind, group, ""))
		}
	}
	for _, kind := range []int64{impl.ChQuick, impl.ChVery} {
		steady := groupModel(kind, nil, "")
		steady.least = 0
		list = append(list, steady)
		for n := int64(2); n <= 9; n++ {
			list = append(list, groupModel(kind, []int64{n}, ""))
		}
		long := groupModel(kind, []int64{6}, "L")
		long.text += "+LFl"
		long.times += tenths(".", rhythmRows()[kind].gap) + tenths("#", 20)
		long.least += rhythmRows()[kind].gap + 20
		long.flashes++
		list = append(list, long)
	}
	for index := range signsOfLetters {
		list = append(list, morseModel(index))
	}
	return list
}

// fewRhythms have all kinds, and each sort of group.
func fewRhythms() []rhythmModel {
	names := strings.Fields("F Oc Oc(2+1) Iso Fl Fl(2) Fl(1+1+1+9) LFl LFl(3+3+3+3) Q Q(2) Q(9) Q(6)+LFl VQ VQ(3) VQ(6)+LFl Mo(E) Mo(Y)")
	list := slices.DeleteFunc(allRhythms(), func(m rhythmModel) bool { return !slices.Contains(names, m.text) })
	if len(list) != len(names) {
		panic("a name of the few rhythms is wrong")
	}
	return list
}

func allColors() []string {
	return strings.Fields("W R G Y WR WG WY RG RY GY WRG WRY WGY RGY")
}

// secondsOf returns tenths in seconds as the standard library writes them.
func secondsOf(period int64) string {
	return strconv.FormatFloat(float64(period)/10, 'f', -1, 64) + "s"
}

func (m rhythmModel) textOf(colors string, period int64) string {
	if period == 0 {
		return m.text + " " + colors
	}
	return m.text + " " + colors + " " + secondsOf(period)
}

// characterPrint writes a character with all fields, so that equal ones are alike.
func characterPrint(c impl.Character) string {
	return fmt.Sprintf("%d %d %q %q %d", c.Kind, c.Group, c.Letter, c.Colors, c.Period)
}

// checkInvalidCharacter asks for the answers to a character that is not valid, except its least period.
func checkInvalidCharacter(t *testing.T, c impl.Character) {
	t.Helper()
	what := characterPrint(c)
	check(t, "whether it is valid: "+what, impl.ValidCharacter(c), false)
	count, countCode := impl.FlashCount(c)
	check(t, "the flashes of "+what, [2]int64{count, countCode}, [2]int64{0, impl.ErrInvalid})
	lit, litCode := impl.LitTime(c)
	check(t, "the lit time of "+what, [2]int64{lit, litCode}, [2]int64{0, impl.ErrInvalid})
	for _, color := range []string{"W", "R", "", "X"} {
		phases, code := impl.PhasesOf(c, color)
		check(t, "the phases of "+what, [2]int64{int64(len(phases)), code}, [2]int64{0, impl.ErrInvalid})
	}
	check(t, "the text of "+what, impl.CharacterText(c), "")
}

// checkNeverValid asks for the answers to a character that is not valid for any Period.
func checkNeverValid(t *testing.T, c impl.Character) {
	t.Helper()
	for _, period := range []int64{0, 40, 599, 600, -1, math.MaxInt64} {
		c.Period = period
		checkInvalidCharacter(t, c)
		least, code := impl.LeastPeriod(c)
		check(t, "the least period of "+characterPrint(c), [2]int64{least, code}, [2]int64{0, impl.ErrInvalid})
	}
}

// checkRhythm asks whether a group and a letter are valid.
func checkRhythm(t *testing.T, kind int64, group []int64, letter string, models map[string]rhythmModel) {
	t.Helper()
	c := impl.Character{Kind: kind, Group: group, Letter: letter, Colors: "W"}
	m, isRhythm := models[fmt.Sprint(kind, group, letter)]
	if !isRhythm {
		checkNeverValid(t, c)
		return
	}
	least, code := impl.LeastPeriod(c)
	check(t, "the least period of "+m.name(), [2]int64{least, code}, [2]int64{m.least, impl.OK})
	c.Period = least
	check(t, "whether it is valid: "+m.name(), impl.ValidCharacter(c), true)
}

func modelsByName() map[string]rhythmModel {
	models := map[string]rhythmModel{}
	for _, m := range allRhythms() {
		models[m.name()] = m
	}
	return models
}

func TestP6Constants(t *testing.T) {
	kinds := []int64{impl.ChFixed, impl.ChOcculting, impl.ChIso, impl.ChFlash, impl.ChLong, impl.ChQuick, impl.ChVery, impl.ChMorse}
	check(t, "the kinds", fmt.Sprint(kinds), "[1 2 3 4 5 6 7 8]")
	check(t, "the limits", fmt.Sprint(impl.MaxPeriod, impl.MaxGroup, impl.MaxFlashes, impl.MaxPhases), "600 4 12 40")
}

func TestP6KindsHaveTextsAndFlashes(t *testing.T) {
	for kind, row := range rhythmRows() {
		check(t, "KindText "+row.text, impl.KindText(kind), row.text)
		want := [2]int64{row.flash, impl.OK}
		if kind == impl.ChFixed || kind == impl.ChIso {
			want = [2]int64{0, impl.ErrRange}
		}
		length, code := impl.FlashLength(kind)
		check(t, "FlashLength of "+row.text, [2]int64{length, code}, want)
	}
	for _, kind := range append(numbersBeyond(1, 8), 0, 9, 256+4, 1<<32+4) {
		check(t, fmt.Sprint("KindText ", kind), impl.KindText(kind), "")
		length, code := impl.FlashLength(kind)
		check(t, fmt.Sprint("FlashLength ", kind), [2]int64{length, code}, [2]int64{0, impl.ErrRange})
		checkNeverValid(t, impl.Character{Kind: kind, Colors: "W"})
	}
	checkNeverValid(t, impl.Character{})
}

func TestP6ColorsAreInOrder(t *testing.T) {
	for _, m := range fewRhythms() {
		for _, colors := range append(textsOver("WRGYwX ", 3), "WRGY", "WRG ", "WWRG", "W\x00", "\xff", "-", "W,R", "\uff37", "WRGYW", strings.Repeat("W", 1000)) {
			c := m.character(colors, m.least)
			isValid := slices.Contains(allColors(), colors)
			check(t, "whether it is valid: "+characterPrint(c), impl.ValidCharacter(c), isValid)
			least, code := impl.LeastPeriod(c)
			want := [2]int64{m.least, impl.OK}
			if !isValid {
				want = [2]int64{0, impl.ErrInvalid}
			}
			check(t, "the least period of "+characterPrint(c), [2]int64{least, code}, want)
		}
		checkNeverValid(t, m.character("WRGY", 0))
		checkNeverValid(t, m.character("", 0))
		checkNeverValid(t, m.character("RW", 0))
	}
}

// groupsOf are all groups with a number of elements that are some numbers.
func groupsOf(length int, elements ...int64) [][]int64 {
	list := [][]int64{{}}
	for range length {
		var longer [][]int64
		for _, group := range list {
			for _, n := range elements {
				longer = append(longer, append(slices.Clone(group), n))
			}
		}
		list = longer
	}
	return list
}

func TestP6GroupsHaveLimits(t *testing.T) {
	models := modelsByName()
	groups := [][]int64{nil, {}, {math.MaxInt64, math.MaxInt64, 2}, {math.MinInt64, math.MinInt64}, {5, math.MinInt64}, {math.MaxInt64}, make([]int64, 1000), slices.Repeat([]int64{1}, 100000)}
	groups = append(groups, groupsOf(1, -2, -1, 0, 1, 2, 3, 4, 5, 6, 7, 8, 9, 10, 11, 12, 13)...)
	groups = append(groups, groupsOf(2, -1, 0, 1, 2, 3, 4, 5, 6, 7, 8, 9, 10, 12)...)
	groups = append(groups, groupsOf(3, -1, 0, 1, 2, 5, 6, 9, 10)...)
	groups = append(groups, groupsOf(4, 0, 1, 3, 4, 9)...)
	groups = append(groups, groupsOf(5, 0, 1, 2)...)
	for kind := int64(1); kind <= 8; kind++ {
		for _, group := range groups {
			checkRhythm(t, kind, group, "", models)
			if len(group) < 3 {
				checkRhythm(t, kind, group, "L", models)
				checkRhythm(t, kind, group, "E", models)
			}
		}
	}
}

func TestP6LettersHaveLimits(t *testing.T) {
	models := modelsByName()
	letters := []string{"", "AB", "LL", "L ", " L", "LFl", "+LFl", "\u00c9", "\uff21", "\u0391", ".-", strings.Repeat("A", 1000)}
	for c := range 256 {
		letters = append(letters, string([]byte{byte(c)}))
	}
	for kind := int64(1); kind <= 8; kind++ {
		for _, letter := range letters {
			for _, group := range [][]int64{nil, {2}, {6}, {6, 6}} {
				checkRhythm(t, kind, group, letter, models)
			}
		}
	}
}

func TestP6PeriodsHaveLimits(t *testing.T) {
	for _, m := range fewRhythms() {
		periods := numbersBeyond(0, 600)
		for period := int64(-3); period <= 610; period++ {
			periods = append(periods, period)
		}
		for _, period := range periods {
			c := m.character("WR", period)
			if m.hasPeriod(period) {
				check(t, "whether it is valid: "+characterPrint(c), impl.ValidCharacter(c), true)
			} else {
				checkInvalidCharacter(t, c)
			}
			least, code := impl.LeastPeriod(c)
			check(t, "the least period of "+characterPrint(c), [2]int64{least, code}, [2]int64{m.least, impl.OK})
		}
	}
}

func TestP6LeastPeriodsOfAllRhythms(t *testing.T) {
	greatest := int64(0)
	for _, m := range allRhythms() {
		for _, period := range []int64{0, m.least, 600, -7} {
			least, code := impl.LeastPeriod(m.character("G", period))
			check(t, "the least period of "+m.text, [2]int64{least, code}, [2]int64{m.least, impl.OK})
			greatest = max(greatest, least)
		}
		check(t, "whether the least period is valid for "+m.text, impl.ValidCharacter(m.character("G", m.least)), true)
		check(t, "whether less than it is valid for "+m.text, impl.ValidCharacter(m.character("G", m.least-1)), false)
		check(t, "whether the longest period is valid for "+m.text, impl.ValidCharacter(m.character("G", 600)), m.least > 0)
	}
	check(t, "the greatest least period", greatest, 565)
}

func TestP6PhasesFillThePeriod(t *testing.T) {
	for _, m := range allRhythms() {
		for _, period := range m.periods() {
			c := m.character("RG", period)
			lamp := m.lamp(period)
			if m.least > 0 {
				check(t, "the length of the picture", int64(len(lamp)), period)
			}
			for _, color := range []string{"R", "G"} {
				phases, code := impl.PhasesOf(c, color)
				check(t, "the code of the phases of "+characterPrint(c), code, impl.OK)
				if want := phasesOfLamp(lamp, color); !slices.Equal(phases, want) {
					t.Errorf("the phases of %s in %s: got %v, want %v", characterPrint(c), color, phases, want)
				}
				if len(phases) > impl.MaxPhases {
					t.Errorf("%s has %d phases", characterPrint(c), len(phases))
				}
			}
			lit, code := impl.LitTime(c)
			check(t, "the lit time of "+characterPrint(c), [2]int64{lit, code}, [2]int64{int64(strings.Count(lamp, "#")), impl.OK})
			count, code := impl.FlashCount(c)
			check(t, "the flashes of "+characterPrint(c), [2]int64{count, code}, [2]int64{m.flashes, impl.OK})
		}
	}
}

func TestP6PhasesOfCharacters(t *testing.T) {
	for _, c := range []struct {
		text, color, phases string
		flashes, least, lit int64
	}{
		{"F WRG", "G", "[{G 10}]", 0, 0, 10},
		{"Iso W 2s", "W", "[{W 10} { 10}]", 1, 20, 10},
		{"Iso W 60s", "W", "[{W 300} { 300}]", 1, 20, 300},
		{"Oc Y 2.5s", "Y", "[{ 10} {Y 15}]", 1, 25, 15},
		{"Oc(2+1) W 12.5s", "W", "[{ 10} {W 10} { 10} {W 30} { 10} {W 55}]", 3, 105, 95},
		{"Fl W 2.5s", "W", "[{W 5} { 20}]", 1, 25, 5},
		{"Fl(2+1) WR 12.5s", "W", "[{W 5} { 15} {W 5} { 35} {W 5} { 60}]", 3, 105, 15},
		{"LFl W 10s", "W", "[{W 20} { 80}]", 1, 45, 20},
		{"Q W", "W", "[{W 5} { 5}]", 1, 0, 5},
		{"VQ RG", "R", "[{R 2} { 3}]", 1, 0, 2},
		{"VQ(3) W 5s", "W", "[{W 2} { 3} {W 2} { 3} {W 2} { 38}]", 3, 22, 6},
		{"VQ(6)+LFl W 10s", "W", "[{W 2} { 3} {W 2} { 3} {W 2} { 3} {W 2} { 3} {W 2} { 3} {W 2} { 3} {W 20} { 50}]", 7, 60, 32},
		{"Mo(E) W 4s", "W", "[{W 5} { 35}]", 1, 35, 5},
		{"Mo(A) R 60s", "R", "[{R 5} { 5} {R 15} { 575}]", 2, 55, 20},
	} {
		character, ok := impl.ReadCharacter(c.text)
		check(t, c.text+" is read", ok, true)
		phases, code := impl.PhasesOf(character, c.color)
		check(t, "the phases of "+c.text, fmt.Sprint(phases, code), c.phases+" 0")
		flashes, _ := impl.FlashCount(character)
		least, _ := impl.LeastPeriod(character)
		lit, _ := impl.LitTime(character)
		check(t, "the numbers of "+c.text, [3]int64{flashes, least, lit}, [3]int64{c.flashes, c.least, c.lit})
	}
	long, _ := impl.ReadCharacter("Q(6)+LFl W 15s")
	lit, code := impl.LitTime(long)
	check(t, "the lit time of the document's example", [2]int64{lit, code}, [2]int64{50, impl.OK})
}

func TestP6PhasesAreInOneOfTheColors(t *testing.T) {
	for _, m := range fewRhythms() {
		for _, colors := range allColors() {
			c := m.character(colors, m.least)
			for _, color := range append(textsOver("WRGYw ", 2), colors, "WRGY", "\x00") {
				want := int64(impl.OK)
				if len(color) != 1 || !strings.Contains(colors, color) {
					want = impl.ErrNotFound
				}
				phases, code := impl.PhasesOf(c, color)
				check(t, fmt.Sprintf("the code of %s in %q", characterPrint(c), color), code, want)
				check(t, fmt.Sprintf("whether %s has phases in %q", characterPrint(c), color), len(phases) > 0, want == impl.OK)
			}
		}
	}
}

func TestP6CharactersAreRestored(t *testing.T) {
	for i, m := range allRhythms() {
		for j, period := range m.periods() {
			for k, colors := range allColors() {
				if len(m.group) > 1 && (i+j+k)%7 > 0 {
					continue
				}
				c, text := m.character(colors, period), m.textOf(colors, period)
				check(t, "the text of "+characterPrint(c), impl.CharacterText(c), text)
				read, ok := impl.ReadCharacter(text)
				check(t, text+" is read", ok, true)
				check(t, "the character of "+text, characterPrint(read), characterPrint(c))
				check(t, text+" is that of the same character", impl.SameCharacter(read, c), true)
			}
		}
	}
}

func TestP6SecondsOfAllPeriods(t *testing.T) {
	for _, m := range fewRhythms() {
		for period := int64(-3); period <= 610; period++ {
			text := m.textOf("W", period)
			c, ok := impl.ReadCharacter(text)
			check(t, text+" is read", ok, m.hasPeriod(period))
			want := impl.Character{}
			if ok {
				want = m.character("W", period)
			}
			check(t, "the character of "+text, characterPrint(c), characterPrint(want))
		}
	}
}

func TestP6OtherTextsAreNotRead(t *testing.T) {
	texts := []string{
		// Kinds.
		"", " ", "W", "W 5s", "X W 5s", "fl W 5s", "FL W 5s", "Flash W 5s", "I W 5s", "Fl5s", "FlW 5s", "1 W 5s", "LLFl W 9s", "IQ W", "UQ W", "Fl+Q W 5s",
		// Groups.
		"Fl() W 5s", "Fl(0) W 5s", "Fl(1) W 5s", "Fl(01) W 5s", "Fl(02) W 9s", "Fl(+2) W 9s", "Fl(-2) W 9s", "Fl(2+) W 9s", "Fl(2++1) W 20s", "Fl(2,1) W 20s",
		"Fl(2 +1) W 20s", "Fl(2+1 W 20s", "Fl2+1) W 20s", "Fl2 W 9s", "Fl+2 W 9s", "Fl(2)(1) W 20s", "Fl((2)) W 9s", "Fl[2] W 9s", "Fl (2) W 9s", " Fl(2) W 9s", "(2) W 9s", "(2)Fl W 9s",
		"Fl(10) W 60s", "Fl(13) W 60s", "Fl(9+4) W 60s", "Fl(1+1+1+1+1) W 60s", "Fl(2.0) W 9s", "F(2) W", "Iso(2) W 9s", "Q(1) W 9s", "Q(10) W 30s", "Q(2+1) W 30s", "Q() W", "Q(6) W",
		// Letters.
		"Q+LFl W", "Q+LFl W 15s", "Q(3)+LFl W 15s", "Q(6)+LFl W", "Q(6)+LFl W 9.9s", "Q(6)LFl W 15s", "Q(6+LFl) W 15s", "Q(6)(LFl) W 15s", "Q(6)+L W 15s", "Q(6+L) W 15s", "Q(6)+Fl W 15s", "Q(6)+LFl+LFl W 15s",
		"Q+LFl(6) W 15s", "Q(LFl+6) W 15s", "Q(6)+lfl W 15s", "Fl(6)+LFl W 30s", "LFl(6)+LFl W 60s", "F+LFl W", "Iso+LFl W 9s", "Fl+LFl W 9s", "Fl(L) W 9s", "Q(L) W", "F(A) W", "F+A W",
		"Mo W 9s", "Mo() W 9s", "Mo(a) W 9s", "Mo(AB) W 9s", "Mo(A+B) W 9s", "Mo(A)(B) W 9s", "Mo(2) W 9s", "Mo(LFl) W 9s", "Mo(L)+LFl W 9s", "MoA W 9s", "Mo A W 9s", "Mo+A W 9s", "Mo((A)) W 9s", "Mo(A W 9s", "MoA) W 9s", "Mo(\u00c4) W 9s", "Mo(\xc1) W 9s", "Mo(A)",
		// Colors.
		"Fl 5s", "Fl  5s", "F", "F ", "Fl w 5s", "Fl RW 5s", "Fl WW 5s", "Fl WRGY 5s", "Fl W R 5s", "Fl W,R 5s", "Fl B 5s", "Fl W  5s", "Fl  W 5s", "F W ", " F W", "F W\n", "\tF W", "F\tW", "F\u00a0W", "FW",
		// Periods, and characters without one.
		"Fl W", "Fl W ", "Fl W s", "Fl W 5", "Fl W 5 s", "Fl W 5S", "Fl W 5ss", "Fl W 5s ", "Fl W 5s 5s", "Fl W 05s", "Fl W 5.0s", "Fl W 5.s", "Fl W .5s", "Fl W 5.50s", "Fl W 5.05s", "Fl W 5.10s", "Fl W 5,5s", "Fl W 5.5.5s",
		"Fl W +5s", "Fl W -5s", "Fl W 5.-5s", "Fl W 5.+5s", "Fl W 6.-5s", "Fl W 4.15s", "Fl W 0.50s", "Fl W 0.25s", "Fl W 0x5s", "Fl W 5e0s", "Fl W \uff15s", "Fl W 50", "Fl W 5m", "Fl W0 5s", "Fl W 2.4s", "Fl W 60.1s", "Fl W 60.10s", "Fl W 61s", "Fl W 600s",
		"Fl W 4294967301s", "Fl W 18446744073709551621s", "Fl W 1844674407370955166.6s", "Fl W " + strings.Repeat("0", 500) + "5s", "Fl W " + strings.Repeat("9", 500) + "s",
		"F W 0s", "F W 0.0s", "F W -0s", "F W s", "F W 1s", "F W 5s", "F W x", "Q W 0s", "Q W 1s", "Q W 5s", "VQ W 0s", "VQ W .s", "Q(3) W", "Q(3) W 0s", "VQ(3) W", "Iso W", "Iso W 2.1s", "Iso W 1.8s", "Iso W 59.9s", "Oc W", "LFl W", "Mo(A) W", "Mo(A) W 0s",
	}
	for _, s := range texts {
		checkNotRead(t, s)
	}
	long := strings.Repeat("1+", 100000)
	for _, s := range []string{"Fl(" + long + "1) W 5s", long, strings.Repeat("Fl W 5s ", 10000), "F " + strings.Repeat("W", 100000), strings.Repeat("(", 100000), "Fl W " + strings.Repeat(".", 100000)} {
		checkNotRead(t, s)
	}
}

func checkNotRead(t *testing.T, s string) {
	t.Helper()
	c, ok := impl.ReadCharacter(s)
	check(t, fmt.Sprintf("%.60q is read", s), ok, false)
	check(t, fmt.Sprintf("the character of %.60q", s), characterPrint(c), characterPrint(impl.Character{}))
}

// characterForm is the form of canonical texts, which may have a group or a period that is not valid.
var characterForm = regexp.MustCompile(`^((?:F|Oc|Iso|Fl|LFl|Q|VQ|Mo)(?:\((?:[A-Z]|[1-9](?:\+[1-9])*)\))?(?:\+LFl)?) ([WRGY]+)(?: ([1-9][0-9]*)(?:\.([1-9]))?s)?$`)

// isCharacterText reports whether a text is that of a valid character.
func isCharacterText(s string, models map[string]rhythmModel) bool {
	parts := characterForm.FindStringSubmatch(s)
	if parts == nil {
		return false
	}
	whole, _ := strconv.ParseInt("0"+parts[3], 10, 64)
	tenth, _ := strconv.ParseInt("0"+parts[4], 10, 64)
	m, isRhythm := models[parts[1]]
	return isRhythm && slices.Contains(allColors(), parts[2]) && m.hasPeriod(10*whole+tenth)
}

func TestP6ChangedTextsAreReadIfTheyAreCanonical(t *testing.T) {
	models := map[string]rhythmModel{}
	for _, m := range allRhythms() {
		models[m.text] = m
	}
	var texts []string
	for _, m := range fewRhythms() {
		texts = append(texts, m.textOf("W", m.least), m.textOf("RY", min(10*m.least, 400)), m.textOf("WRG", 12*m.least/10))
	}
	isText := func(s string) bool { return isCharacterText(s, models) }
	checkChangedTexts(t, texts, 1000, isText, func(s string) (string, bool) {
		c, ok := impl.ReadCharacter(s)
		return impl.CharacterText(c), ok
	}, checkNotRead)
}

func TestP6SameCharactersAreEqualInAllFields(t *testing.T) {
	list := []impl.Character{
		{},
		{Kind: 4, Group: []int64{2, 1}, Letter: "L", Colors: "WR", Period: 125},
		{Kind: 5, Group: []int64{2, 1}, Letter: "L", Colors: "WR", Period: 125},
		{Kind: 4, Group: []int64{1, 2}, Letter: "L", Colors: "WR", Period: 125},
		{Kind: 4, Group: []int64{2}, Letter: "L", Colors: "WR", Period: 125},
		{Kind: 4, Group: []int64{2, 1, 0}, Letter: "L", Colors: "WR", Period: 125},
		{Kind: 4, Letter: "L", Colors: "WR", Period: 125},
		{Kind: 4, Group: []int64{2, 1}, Letter: "l", Colors: "WR", Period: 125},
		{Kind: 4, Group: []int64{2, 1}, Letter: "", Colors: "WR", Period: 125},
		{Kind: 4, Group: []int64{2, 1}, Letter: "L", Colors: "RW", Period: 125},
		{Kind: 4, Group: []int64{2, 1}, Letter: "L", Colors: "", Period: 125},
		{Kind: 4, Group: []int64{2, 1}, Letter: "L", Colors: "WR", Period: 126},
		{Kind: math.MinInt64, Group: []int64{math.MaxInt64}, Letter: "\xff", Colors: "X", Period: math.MinInt64},
	}
	for i, a := range list {
		for j, b := range list {
			b.Group = slices.Clone(b.Group)
			check(t, characterPrint(a)+" is "+characterPrint(b), impl.SameCharacter(a, b), i == j)
		}
	}
	none, empty := impl.Character{Kind: 1, Colors: "W"}, impl.Character{Kind: 1, Colors: "W", Group: []int64{}}
	check(t, "an empty group is the same as none", impl.SameCharacter(none, empty), true)
	check(t, "no group is the same as an empty one", impl.SameCharacter(empty, none), true)
	check(t, "a character with an empty group is valid", impl.ValidCharacter(empty), true)
}

// characterAnswers prints the results of all functions of chapter 5 for a character.
func characterAnswers(c impl.Character, other impl.Character, color string) string {
	length, lengthCode := impl.FlashLength(c.Kind)
	count, countCode := impl.FlashCount(c)
	least, leastCode := impl.LeastPeriod(c)
	phases, phasesCode := impl.PhasesOf(c, color)
	lit, litCode := impl.LitTime(c)
	text := impl.CharacterText(c)
	read, ok := impl.ReadCharacter(text)
	return fmt.Sprint(impl.KindText(c.Kind), impl.ValidCharacter(c), impl.SameCharacter(c, other), impl.SameCharacter(other, c),
		length, lengthCode, count, countCode, least, leastCode, phases, phasesCode, lit, litCode, text, characterPrint(read), ok)
}

func TestP1CharactersHaveEqualResults(t *testing.T) {
	numbers := append(extremeNumbers(), 2, 3, 4, 5, 6, 7, 8, 9, 12, 20, 21, 100, 599, 600, 601)
	checkEqualResults(t, numbers, func(a, b, c int64) string {
		answers := ""
		for _, letter := range []string{"", "L"} {
			one := impl.Character{Kind: a, Group: []int64{b}, Letter: letter, Colors: "WG", Period: c}
			answers += characterAnswers(one, one, "G") + characterAnswers(impl.Character{Kind: a, Letter: letter, Colors: "R", Period: c}, one, "R")
		}
		return answers
	})
}

func TestP1CharactersDoNotDisturbEachOther(t *testing.T) {
	checkUndisturbed(t, func(n int64) string {
		c := impl.Character{Kind: impl.ChFlash, Group: []int64{n%4 + 2, 3}, Colors: "WR", Period: 500 + n}
		return characterAnswers(c, c, "R")
	})
}

func TestP1CharactersAreNotModified(t *testing.T) {
	for _, m := range allRhythms() {
		memory := append(slices.Clone(m.group), 7, -7, 7)
		group := memory[:len(m.group)]
		c := m.character("WRG", m.least)
		c.Group = group
		before := slices.Clone(memory)
		first := characterAnswers(c, c, "R")
		check(t, "the second answers for "+m.text, characterAnswers(c, c, "R"), first)
		if !slices.Equal(memory, before) {
			t.Errorf("the group of %s has been modified", m.text)
		}
	}
	invalid := impl.Character{Kind: impl.ChFlash, Group: []int64{9, 9, 9, 9, 9}, Colors: "W", Period: 600}
	characterAnswers(invalid, invalid, "W")
	check(t, "a group that is not valid", fmt.Sprint(invalid.Group), "[9 9 9 9 9]")
}

func TestP1ResultsOfCharactersShareNoMemory(t *testing.T) {
	for _, m := range fewRhythms() {
		c := m.character("WRG", m.least)
		phases, _ := impl.PhasesOf(c, "W")
		others, _ := impl.PhasesOf(c, "W")
		clear(phases[:cap(phases)])
		check(t, "the phases of "+m.text+" after a change", slices.Equal(others, phasesOfLamp(m.lamp(m.least), "W")), true)
		text := impl.CharacterText(c)
		one, _ := impl.ReadCharacter(text)
		two, _ := impl.ReadCharacter(text)
		clear(one.Group[:cap(one.Group)])
		check(t, "the character of "+text+" after a change", impl.SameCharacter(two, c), true)
	}
}
