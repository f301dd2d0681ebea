package tests

import (
	"fmt"
	"math"
	"math/rand/v2"
	"runtime"
	"slices"
	"strconv"
	"strings"
	"testing"
	"time"

	"loop.example/g00953/impl"
)

// ranksOf writes the colors at all tenths of a second of some phases as digits,
// which are in the order of the document: dark, G, R, W, Y.
func ranksOf(p []impl.Phase) string {
	digits := map[string]string{"": "0", "G": "1", "R": "2", "W": "3", "Y": "4"}
	text := ""
	for _, phase := range p {
		text += strings.Repeat(digits[phase.Color], int(phase.Length))
	}
	return text
}

func colorOfRank(digit byte) string {
	return []string{"", "G", "R", "W", "Y"}[digit-'0']
}

// rankAt returns the digit at any time of a light that is repeated for ever.
func rankAt(ranks string, t int) byte {
	for t < 0 {
		t += len(ranks)
	}
	return ranks[t%len(ranks)]
}

// ranksFrom returns the digits of some tenths from a time on.
func ranksFrom(ranks string, t, count int) string {
	var digits []byte
	for i := range count {
		digits = append(digits, rankAt(ranks, t+i))
	}
	return string(digits)
}

// periodOfRanks tries all periods.
func periodOfRanks(ranks string) int {
	twice := ranks + ranks
	n := 1
	for twice[n:n+len(ranks)] != ranks {
		n++
	}
	return n
}

// normalRanks tries all beginnings.
func normalRanks(ranks string) string {
	n := periodOfRanks(ranks)
	twice := ranks + ranks
	normal := twice[:n]
	for t := range n {
		normal = min(normal, twice[t:t+n])
	}
	return normal
}

// joinedOfRanks returns the joined phases of some digits.
func joinedOfRanks(ranks string) []impl.Phase {
	var list []impl.Phase
	for i := range len(ranks) {
		if i == 0 || ranks[i] != ranks[i-1] {
			list = append(list, impl.Phase{Color: colorOfRank(ranks[i])})
		}
		list[len(list)-1].Length++
	}
	return list
}

// listsOfPhases are all lists with a number of phases that are some phases.
func listsOfPhases(length int, phases []impl.Phase) [][]impl.Phase {
	lists := [][]impl.Phase{nil}
	for range length {
		var longer [][]impl.Phase
		for _, list := range lists {
			for _, phase := range phases {
				longer = append(longer, append(slices.Clone(list), phase))
			}
		}
		lists = longer
	}
	return lists
}

// phasesWith are all phases with some colors and lengths, where `-` is dark.
func phasesWith(colors string, lengths ...int64) []impl.Phase {
	var list []impl.Phase
	for _, color := range colors {
		for _, length := range lengths {
			list = append(list, impl.Phase{Color: strings.Trim(string(color), "-"), Length: length})
		}
	}
	return list
}

// longPhases are lists at the limits of the document.
func longPhases() [][]impl.Phase {
	var full []impl.Phase
	for i := range 40 {
		full = append(full, impl.Phase{Color: []string{"W", "", "R", "G", "", "Y"}[i%6], Length: int64(15 + i%2*2 - 1)})
	}
	lit, dark := impl.Phase{Color: "W", Length: 14}, impl.Phase{Length: 16}
	return [][]impl.Phase{
		{{Color: "W", Length: 600}},
		{{Length: 600}},
		{{Color: "R", Length: 599}, {Length: 1}},
		{{Length: 1}, {Color: "R", Length: 599}},
		full,
		full[:39],
		slices.Repeat([]impl.Phase{lit, dark}, 20),
		slices.Repeat([]impl.Phase{dark, lit}, 20),
		slices.Repeat([]impl.Phase{{Color: "Y", Length: 15}}, 40),
		append(slices.Repeat([]impl.Phase{lit, dark}, 19), dark, lit),
		append(slices.Repeat([]impl.Phase{lit, dark}, 19), lit),
		append(slices.Repeat([]impl.Phase{{Color: "W", Length: 1}, {Length: 1}}, 19), impl.Phase{Color: "W", Length: 2}, impl.Phase{Length: 1}),
		slices.Repeat([]impl.Phase{{Length: 1}, {Color: "G", Length: 1}}, 20),
	}
}

// drawnPhases are drawn by lot, the same ones in each run: some with few colors
// and lengths, of which many are alike, and some of any sort.
func drawnPhases(count int) [][]impl.Phase {
	lot := rand.New(rand.NewPCG(6, 7))
	var lists [][]impl.Phase
	for i := range count {
		kinds := phasesWith([]string{"-W", "-WR", "-GRWY"}[i%3], 1, 2, int64(5+i%10))
		var list []impl.Phase
		for range 1 + lot.IntN(12) {
			list = append(list, kinds[lot.IntN(len(kinds))])
		}
		list = slices.Repeat(list, 1+lot.IntN(3))
		lists = append(lists, list)
	}
	return lists
}

// repeatedPhases are patterns of up to two phases, one to four times.
func repeatedPhases() [][]impl.Phase {
	var lists [][]impl.Phase
	for length := 1; length <= 2; length++ {
		for _, list := range listsOfPhases(length, phasesWith("-GW", 1, 2, 3)) {
			for times := 1; times <= 4; times++ {
				lists = append(lists, slices.Repeat(list, times))
			}
		}
	}
	return lists
}

// samplePhases are valid phases of all sorts.
func samplePhases() [][]impl.Phase {
	lists := append(longPhases(), repeatedPhases()...)
	for length := 1; length <= 3; length++ {
		lists = append(lists, listsOfPhases(length, phasesWith("-GRWY", 1, 2))...)
	}
	lists = append(lists, listsOfPhases(4, phasesWith("-W", 1, 2))...)
	lists = append(lists, listsOfPhases(5, phasesWith("-RW", 1))...)
	lists = append(lists, drawnPhases(600)...)
	for _, m := range fewRhythms() {
		lists = append(lists, phasesOfLamp(m.lamp(m.least), "Y"))
	}
	return lists
}

// invalidPhases break one rule each, and some of them more.
func invalidPhases() [][]impl.Phase {
	lists := [][]impl.Phase{
		nil, {},
		slices.Repeat([]impl.Phase{{Color: "W", Length: 1}}, 41),
		slices.Repeat([]impl.Phase{{Length: 1}, {Color: "W", Length: 1}}, 1000),
		{{Color: "W", Length: 601}}, {{Length: 601}},
		{{Color: "W", Length: 600}, {Length: 1}},
		{{Length: 1}, {Color: "W", Length: 600}},
		append(slices.Repeat([]impl.Phase{{Length: 15}}, 39), impl.Phase{Color: "W", Length: 16}),
		{{Color: "W", Length: math.MaxInt64}, {Length: math.MaxInt64}, {Length: 2}},
		{{Color: "W", Length: math.MinInt64}, {Length: math.MinInt64}, {Length: 40}},
		{{Color: "W", Length: math.MaxInt64}, {Length: math.MinInt64}, {Length: 41}},
		{{Color: "W", Length: 1 << 32}}, {{Color: "W", Length: 1<<32 + 5}},
		{{Color: "W", Length: 5}, {Length: 0}}, {{Color: "W", Length: 0}, {Length: 5}},
		{{Color: "W", Length: 5}, {Length: -1}}, {{Color: "W", Length: -5}, {Length: 35}},
	}
	for _, color := range []string{"w", "B", "X", "-", " ", "WR", "WW", "WRGY", "W ", "\x00", "\xff", "\uff37", ".", "#", strings.Repeat("W", 1000)} {
		lists = append(lists, []impl.Phase{{Color: color, Length: 5}}, []impl.Phase{{Color: "W", Length: 5}, {Color: color, Length: 35}})
	}
	return lists
}

// phasesPrint writes phases with all fields, so that equal ones are alike.
func phasesPrint(p []impl.Phase) string {
	parts := []string{strconv.Itoa(len(p))}
	for _, phase := range p {
		parts = append(parts, fmt.Sprintf("%.20q %d", phase.Color, phase.Length))
	}
	return fmt.Sprintf("%.2000s", strings.Join(parts, ", "))
}

// checkPhases compares phases and a code with what the document requires.
func checkPhases(t *testing.T, what string, got []impl.Phase, code int64, want []impl.Phase) {
	t.Helper()
	check(t, what, phasesPrint(got), phasesPrint(want))
	check(t, "the code of "+what, code, impl.OK)
}

func TestP7PhasesAreValidWithinTheirLimits(t *testing.T) {
	for _, p := range samplePhases() {
		check(t, "whether they are valid: "+phasesPrint(p), impl.ValidPhases(p), true)
		length, code := impl.PatternLength(p)
		check(t, "the length of "+phasesPrint(p), [2]int64{length, code}, [2]int64{int64(len(ranksOf(p))), impl.OK})
	}
	for _, color := range append(textsOver("WRGYwB- ", 2), "\x00") {
		isColor := color == "" || len(color) == 1 && strings.Contains("WRGY", color)
		check(t, fmt.Sprintf("whether %q is the color of a phase", color), impl.ValidPhases([]impl.Phase{{Color: color, Length: 5}}), isColor)
	}
}

// invalidAnswers prints the results of all functions for phases that are not valid.
func invalidAnswers(p []impl.Phase) string {
	length, one := impl.PatternLength(p)
	color, two := impl.LightAt(p, 0)
	period, three := impl.PatternPeriod(p)
	shifted, four := impl.ShiftPhases(p, 0)
	normal, five := impl.NormalPattern(p)
	flashes, six := impl.FlashesIn(p)
	duty, seven := impl.DutyOf(p)
	dark, eight := impl.LongestDarkOf(p)
	c, nine := impl.RecognizeCharacter(p)
	numbers := fmt.Sprint(length, period, len(shifted), len(normal), flashes, duty, dark)
	codes := fmt.Sprint(one, two, three, four, five, six, seven, eight, nine)
	return numbers + "; " + codes + "; " + color + impl.PhasesText(p) + characterPrint(c)
}

func TestP7InvalidPhases(t *testing.T) {
	for _, p := range invalidPhases() {
		what := phasesPrint(p)
		check(t, "whether they are valid: "+what, impl.ValidPhases(p), false)
		check(t, "the results for "+what, invalidAnswers(p), `0 0 0 0 0 0 0; 1 1 1 1 1 1 1 1 1; 0 [] "" "" 0`)
		check(t, "whether their pattern is that of themselves: "+what, impl.SamePattern(p, p), false)
		for _, q := range [][]impl.Phase{{{Color: "W", Length: 5}}, {{Color: "W", Length: 5}, {Length: 35}}} {
			check(t, "whether their pattern is that of valid ones: "+what, impl.SamePattern(p, q), false)
			check(t, "whether that of valid ones is theirs: "+what, impl.SamePattern(q, p), false)
		}
	}
}

func TestP7SamePhasesAreEqualOneByOne(t *testing.T) {
	lists := append(invalidPhases()[2:], samplePhases()[:40]...)
	lists = append(lists, nil, []impl.Phase{{Color: "W", Length: 3}, {Length: 2}}, []impl.Phase{{Color: "W", Length: 2}, {Length: 3}}, []impl.Phase{{Color: "W", Length: 3}}, []impl.Phase{{Color: "R", Length: 3}, {Length: 2}})
	for _, p := range lists {
		for _, q := range lists {
			check(t, phasesPrint(p)+" are "+phasesPrint(q), impl.SamePhases(p, slices.Clone(q)), fmt.Sprint(p) == fmt.Sprint(q))
		}
	}
	check(t, "no phases are the same as an empty list", impl.SamePhases(nil, []impl.Phase{}), true)
	check(t, "an empty list is the same as no phases", impl.SamePhases([]impl.Phase{}, nil), true)
}

// distantTimes are some at the limits of an int64, with the time near 0 that is equal modulo n.
func distantTimes(n int) map[int64]int {
	times := map[int64]int{}
	length := int64(n)
	for d := range int64(9) {
		// The greatest multiple of n, and the one below 0 that is equally far.
		end := math.MaxInt64 / length * length
		for _, t := range []int64{d, -d, end - d, -end + d} {
			times[t] = int(t % length)
		}
		times[math.MinInt64+d] = int((math.MinInt64 + d) % length)
		times[math.MaxInt64-d] = int((math.MaxInt64 - d) % length)
	}
	return times
}

func TestP7LightsAreRepeatedForEver(t *testing.T) {
	for i, p := range samplePhases() {
		ranks := ranksOf(p)
		times := distantTimes(len(ranks))
		for n := range 2 * len(ranks) {
			if len(ranks) < 50 || (n+i)%17 == 0 {
				times[int64(n)], times[int64(-n)] = n, -n
			}
		}
		for at, near := range times {
			color, code := impl.LightAt(p, at)
			check(t, fmt.Sprint("the color at ", at, " of "+phasesPrint(p)), color, colorOfRank(rankAt(ranks, near)))
			check(t, fmt.Sprint("the code of the color at ", at, " of "+phasesPrint(p)), code, impl.OK)
		}
	}
}

func TestP7PeriodsAreTheLeast(t *testing.T) {
	for _, p := range samplePhases() {
		period, code := impl.PatternPeriod(p)
		check(t, "the period of "+phasesPrint(p), [2]int64{period, code}, [2]int64{int64(periodOfRanks(ranksOf(p))), impl.OK})
	}
}

// checkShifted compares the phases from a time on with those of the model.
func checkShifted(t *testing.T, p []impl.Phase, ranks string, by int64, near int) {
	t.Helper()
	want := joinedOfRanks(ranksFrom(ranks, near, len(ranks)))
	got, code := impl.ShiftPhases(p, by)
	what := fmt.Sprint("the phases from ", by, " on of "+phasesPrint(p))
	if len(want) > 40 {
		check(t, what, len(got), 0)
		check(t, "the code of "+what, code, impl.ErrFull)
		return
	}
	checkPhases(t, what, got, code, want)
	check(t, "whether they have the pattern of those they are shifted from: "+phasesPrint(p), impl.SamePattern(got, p), true)
	check(t, "whether those they are shifted from have their pattern: "+phasesPrint(p), impl.SamePattern(p, got), true)
	normal, _ := impl.NormalPattern(p)
	other, code := impl.NormalPattern(got)
	checkPhases(t, what+" as a pattern", other, code, normal)
}

func TestP7ShiftedPhasesAreJoined(t *testing.T) {
	for i, p := range samplePhases() {
		ranks := ranksOf(p)
		for n := -len(ranks) - 1; n <= len(ranks)+1; n++ {
			if len(ranks) < 8 || (n+i)%13 == 0 {
				checkShifted(t, p, ranks, int64(n), n)
			}
		}
		if i%20 == 0 {
			for by, near := range distantTimes(len(ranks)) {
				checkShifted(t, p, ranks, by, near)
			}
		}
	}
}

func TestP7ShiftedPhasesMayBeTooMany(t *testing.T) {
	fulls := 0
	for _, p := range longPhases() {
		ranks := ranksOf(p)
		for by := range len(ranks) {
			_, code := impl.ShiftPhases(p, int64(by))
			if code != impl.OK {
				fulls++
			}
			checkShifted(t, p, ranks, int64(by), by)
		}
	}
	if fulls < 1000 {
		t.Errorf("only %d of the shifted phases are too many", fulls)
	}
}

func TestP7NormalPatternsAreTheLeast(t *testing.T) {
	for _, p := range samplePhases() {
		normal, code := impl.NormalPattern(p)
		checkPhases(t, "the pattern of "+phasesPrint(p), normal, code, joinedOfRanks(normalRanks(ranksOf(p))))
		check(t, "whether the pattern is valid: "+phasesPrint(p), impl.ValidPhases(normal), true)
		again, code := impl.NormalPattern(normal)
		checkPhases(t, "the pattern of the pattern of "+phasesPrint(p), again, code, normal)
		check(t, "whether the pattern has the pattern: "+phasesPrint(p), impl.SamePattern(normal, p), true)
	}
}

func TestP7PatternsOfExamples(t *testing.T) {
	for _, c := range []struct {
		phases, normal                 string
		period, flashes, duty, darkest int64
	}{
		{"W5,-35", "-35,W5", 40, 1, 125000, 35},
		{"W5,-35,W5,-35", "-35,W5", 40, 1, 125000, 35},
		{"W5,-35,W5,-36", "-36,W5,-35,W5", 81, 2, 123456, 36},
		{"-3", "-1", 1, 0, 0, 1},
		{"-1,-599", "-1", 1, 0, 0, 1},
		{"W600", "W1", 1, 0, 1000000, 0},
		{"G1,G2,G3", "G1", 1, 0, 1000000, 0},
		{"W5,R5", "R5,W5", 10, 0, 1000000, 0},
		{"R5,G5", "G5,R5", 10, 0, 1000000, 0},
		{"Y5,W5", "W5,Y5", 10, 0, 1000000, 0},
		{"W2,R2,-1", "-1,W2,R2", 5, 1, 800000, 1},
		{"-1,W2,-1,R2", "-1,R2,-1,W2", 6, 2, 666666, 1},
		{"-1,W2,-1,W3", "-1,W2,-1,W3", 7, 2, 714285, 1},
		{"-1,W3,-1,W2", "-1,W2,-1,W3", 7, 2, 714285, 1},
		{"W1,-2,W1,-3,W1", "-3,W2,-2,W1", 8, 2, 375000, 3},
		{"-2,W1,-3", "-5,W1", 6, 1, 166666, 5},
		{"-1,W1,-1,W1,-1,W1", "-1,W1", 2, 1, 500000, 1},
		{"W1,-1,W1", "-1,W2", 3, 1, 666666, 1},
		{"G3,-1,Y3,-1,R3,-1", "-1,G3,-1,Y3,-1,R3", 12, 3, 750000, 1},
	} {
		p, ok := impl.ReadPhases(c.phases)
		check(t, c.phases+" is read", ok, true)
		normal, _ := impl.NormalPattern(p)
		period, _ := impl.PatternPeriod(p)
		flashes, _ := impl.FlashesIn(p)
		duty, _ := impl.DutyOf(p)
		darkest, _ := impl.LongestDarkOf(p)
		check(t, "the pattern of "+c.phases, impl.PhasesText(normal), c.normal)
		check(t, "the numbers of "+c.phases, [4]int64{period, flashes, duty, darkest}, [4]int64{c.period, c.flashes, c.duty, c.darkest})
	}
}

func TestP7SamePatternsAreEqualButForTheirBeginning(t *testing.T) {
	lists := append(listsOfPhases(3, phasesWith("-RW", 1, 2)), repeatedPhases()[:80]...)
	normals := make([]string, len(lists))
	for i, p := range lists {
		normals[i] = normalRanks(ranksOf(p))
	}
	same := 0
	for i, p := range lists {
		for j, q := range lists {
			isSame := normals[i] == normals[j]
			check(t, phasesPrint(p)+" has the pattern of "+phasesPrint(q), impl.SamePattern(p, q), isSame)
			if isSame && i != j {
				same++
			}
		}
	}
	if same < 1000 {
		t.Errorf("only %d pairs have the same pattern", same)
	}
}

// modelNumbers returns the flashes, the duty and the longest dark time of a
// light, each counted tenth by tenth in one period.
func modelNumbers(ranks string) [3]int64 {
	n := periodOfRanks(ranks)
	flashes, lit, longest := 0, 0, 0
	for at := range n {
		if rankAt(ranks, at) != '0' {
			lit++
			if rankAt(ranks, at-1) == '0' {
				flashes++
			}
		}
		dark := 0
		for dark < n && rankAt(ranks, at+dark) == '0' {
			dark++
		}
		longest = max(longest, dark)
	}
	return [3]int64{int64(flashes), int64(lit * 1000000 / n), int64(longest)}
}

func TestP7NumbersOfPatterns(t *testing.T) {
	for _, p := range samplePhases() {
		flashes, one := impl.FlashesIn(p)
		duty, two := impl.DutyOf(p)
		dark, three := impl.LongestDarkOf(p)
		check(t, "the flashes, the duty and the longest dark time of "+phasesPrint(p), [3]int64{flashes, duty, dark}, modelNumbers(ranksOf(p)))
		check(t, "the codes of the numbers of "+phasesPrint(p), [3]int64{one, two, three}, [3]int64{impl.OK, impl.OK, impl.OK})
	}
}

// tryOrder are all rhythms by Kind, where those of a kind remain in order.
func tryOrder() []rhythmModel {
	list := allRhythms()
	slices.SortStableFunc(list, func(a, b rhythmModel) int { return int(a.kind - b.kind) })
	return list
}

// firstWithPattern finds the first rhythm with a pattern, in white, among those
// with a period.
func firstWithPattern(rhythms []rhythmModel, period int64) map[string]rhythmModel {
	first := map[string]rhythmModel{}
	for _, m := range rhythms {
		if m.least > 0 && !m.hasPeriod(period) {
			continue
		}
		pattern := normalRanks(ranksOf(phasesOfLamp(m.lamp(period), "W")))
		if _, isTaken := first[pattern]; !isTaken {
			first[pattern] = m
		}
	}
	return first
}

// periodOf returns a period as the Period of a rhythm: steady ones have none.
func (m rhythmModel) periodOf(period int64) int64 {
	if m.least == 0 {
		return 0
	}
	return period
}

// checkRecognized asks for the character of phases in white that has the same pattern first.
func checkRecognized(t *testing.T, p []impl.Phase, first map[string]rhythmModel) {
	t.Helper()
	want, wantCode := impl.Character{}, int64(impl.ErrNotFound)
	pattern := normalRanks(ranksOf(p))
	if m, isFound := first[pattern]; isFound {
		want, wantCode = m.character("W", m.periodOf(int64(len(pattern)))), impl.OK
	}
	got, code := impl.RecognizeCharacter(p)
	check(t, "the character of "+phasesPrint(p), characterPrint(got), characterPrint(want))
	check(t, "the code of the character of "+phasesPrint(p), code, wantCode)
}

func TestP7PhasesOfAllCharactersAreRecognized(t *testing.T) {
	rhythms := tryOrder()
	for _, period := range []int64{20, 22, 25, 35, 45, 65, 105, 600} {
		first := firstWithPattern(rhythms, period)
		for _, m := range rhythms {
			if !m.hasPeriod(m.periodOf(period)) {
				continue
			}
			p, code := impl.PhasesOf(m.character("WR", m.periodOf(period)), "W")
			check(t, "the code of the phases of "+m.text, code, impl.OK)
			checkRecognized(t, p, first)
		}
	}
}

// checkAlike asks for the character of phases with the pattern of a character.
func checkAlike(t *testing.T, p []impl.Phase, want impl.Character) {
	t.Helper()
	got, code := impl.RecognizeCharacter(p)
	check(t, "the character of "+phasesPrint(p), characterPrint(got), characterPrint(want))
	check(t, "the code of the character of "+phasesPrint(p), code, impl.OK)
}

// dividedPhases has a phase in two parts.
func dividedPhases(p []impl.Phase) []impl.Phase {
	last := p[len(p)-1]
	part := last
	part.Length = 1
	last.Length--
	return append(slices.Clone(p[:len(p)-1]), last, part)
}

func TestP7CharactersAreRecognizedFromAnyTimeOn(t *testing.T) {
	likeOthers := map[string]string{"Mo(E)": "Fl", "Mo(I)": "Q(2)", "Mo(S)": "Q(3)", "Mo(H)": "Q(4)"}
	models := map[string]rhythmModel{}
	for _, m := range allRhythms() {
		models[m.text] = m
	}
	for i, m := range allRhythms() {
		recognized := m
		if text, isLike := likeOthers[m.text]; isLike {
			recognized = models[text]
		}
		for j, period := range []int64{m.least, m.least + 2, m.least + 13, 300, 598} {
			if !m.hasPeriod(period) || len(m.group) > 1 && (i+j)%41 > 0 {
				continue
			}
			color := []string{"W", "R", "G", "Y"}[(i+j)%4]
			p, _ := impl.PhasesOf(m.character(color, period), color)
			want := recognized.character(color, period)
			checkAlike(t, p, want)
			checkAlike(t, dividedPhases(p), want)
			if len(p)*2 <= 40 && period*2 <= 600 {
				checkAlike(t, slices.Repeat(p, 2), want)
			}
			for _, by := range []int64{-1, 1, 3, 5, 12, int64(len(ranksOf(p))) / 2, math.MaxInt64, math.MinInt64} {
				shifted, code := impl.ShiftPhases(p, by)
				check(t, "the code of the shifted phases of "+m.text, code, impl.OK)
				checkAlike(t, shifted, want)
			}
		}
	}
}

func TestP7LitPhasesAreFixedLights(t *testing.T) {
	for _, color := range []string{"W", "R", "G", "Y"} {
		want := impl.Character{Kind: impl.ChFixed, Colors: color}
		for _, lengths := range [][]int64{{1}, {2}, {10}, {20}, {600}, {1, 2, 3}, {300, 300}, slices.Repeat([]int64{15}, 40)} {
			var p []impl.Phase
			for _, length := range lengths {
				p = append(p, impl.Phase{Color: color, Length: length})
			}
			checkAlike(t, p, want)
		}
	}
}

func TestP7OtherPhasesAreNotRecognized(t *testing.T) {
	rhythms := tryOrder()
	found := map[int64]map[string]rhythmModel{}
	for _, m := range fewRhythms() {
		p := phasesOfLamp(m.lamp(m.least), "W")
		for i := range p {
			for _, change := range []int64{-20, -10, -5, -3, -1, 1, 2, 5, 10, 15, 20} {
				changed := slices.Clone(p)
				changed[i].Length += change
				if changed[i].Length < 1 || !impl.ValidPhases(changed) {
					continue
				}
				period := int64(len(normalRanks(ranksOf(changed))))
				if found[period] == nil {
					found[period] = firstWithPattern(rhythms, period)
				}
				checkRecognized(t, changed, found[period])
			}
		}
	}
	for _, s := range []string{"W1,-1", "W3,-4", "W10,-9", "W9,-9", "W5,-19", "W5,-6", "W6,-5", "W2,-2", "W3,-2", "W15,-29", "W20,-24", "W10,-11", "W11,-11,W11,-13", "W5,-5,W5,-6",
		"W5,-5,W5,-5,W5,-5,W5,-5,W5,-5,W5,-5,W5,-5,W5,-5,W5,-5,W5,-25", "W1,-599", "W599,-1", "W14,-10", "-9,W16",
		strings.Repeat("W2,-3,", 19) + "W2,-30", strings.Repeat("W5,-15,", 12) + "W5,-20", strings.Repeat("-10,W10,", 12) + "-10,W15"} {
		p, ok := impl.ReadPhases(s)
		check(t, s+" is read", ok, true)
		c, code := impl.RecognizeCharacter(p)
		check(t, "the character of "+s, characterPrint(c), characterPrint(impl.Character{}))
		check(t, "the code of the character of "+s, code, impl.ErrNotFound)
	}
}

func TestP7CharactersHaveOneColor(t *testing.T) {
	for _, s := range []string{"-5", "-1", "-600", "-1,-2,-3", "W5,R5", "W5,-35,R5,-35", "R1,W599", "W5,-5,W5,-5,G5,-5", "Y5,-5,G5,-5,R5,-5,W5,-5", "W1,W2,-3,Y1", "G10,Y10", "-7,G1,R1", "W5,-35,G5"} {
		p, ok := impl.ReadPhases(s)
		check(t, s+" is read", ok, true)
		c, code := impl.RecognizeCharacter(p)
		check(t, "the character of "+s, characterPrint(c), characterPrint(impl.Character{}))
		check(t, "the code of the character of "+s, code, impl.ErrState)
	}
}

func TestP7RecognizedExamples(t *testing.T) {
	for phases, text := range map[string]string{
		"W5,-35": "Fl W 4s", "W600": "F W", "G5,-5": "Q G", "-3,R2": "VQ R", "-20,Y20": "Iso Y 4s", "W10,-10": "Iso W 2s", "W300,-300": "Iso W 60s",
		"W15,-10": "Oc W 2.5s", "-10,R590": "Oc R 60s", "W20,-25": "LFl W 4.5s", "W5,-20": "Fl W 2.5s", "W15,-30": "Mo(T) W 4.5s", "W5,-5,W5,-20": "Q(2) W 3.5s", "W5,-5,W5,-30": "Q(2) W 4.5s",
		"G5,-60,G5,-15,G5,-35": "Fl(2+1) G 12.5s", "W5,-15,W5,-60,W5,-35": "Fl(1+2) W 12.5s", "W10,-575,W5,-5,W5": "Mo(A) W 60s",
	} {
		p, ok := impl.ReadPhases(phases)
		check(t, phases+" is read", ok, true)
		c, code := impl.RecognizeCharacter(p)
		check(t, "the character of "+phases, impl.CharacterText(c), text)
		check(t, "the code of the character of "+phases, code, impl.OK)
	}
}

// modelText returns the text of phases that are valid.
func modelText(p []impl.Phase) string {
	text := ""
	for _, phase := range p {
		sign := phase.Color
		if sign == "" {
			sign = "-"
		}
		text += "," + sign + strconv.FormatInt(phase.Length, 10)
	}
	return text[1:]
}

func TestP7PhasesAreRestored(t *testing.T) {
	for _, p := range samplePhases() {
		text := modelText(p)
		check(t, "the text of "+phasesPrint(p), impl.PhasesText(p), text)
		read, ok := impl.ReadPhases(text)
		check(t, text+" is read", ok, true)
		check(t, "the phases of "+text, phasesPrint(read), phasesPrint(p))
		check(t, "whether they are the same: "+text, impl.SamePhases(read, p), true)
	}
}

func checkNoPhases(t *testing.T, s string) {
	t.Helper()
	p, ok := impl.ReadPhases(s)
	check(t, fmt.Sprintf("%.60q is read", s), ok, false)
	check(t, fmt.Sprintf("whether %.60q has no phases", s), p == nil, true)
}

func TestP7OtherTextsHaveNoPhases(t *testing.T) {
	texts := []string{
		"", " ", ",", "-", "W", "5", "B5", "w5", "X5", "5W", "W5,", ",W5", "W5,,-5", "W5, -5", "W5 ,-5", " W5", "W5 ", "W5;-5", "W5-5", "W5,5", "W5.-5", "W 5", "W-5", "W+5", "--5", "-+5", "- 5", "+5",
		"W0", "-0", "W05", "-05", "W5,-035", "W-0", "W00", "W0x5", "W5.0", "W1e1", "W5,W", "W5,-", "WW5", "WR5", "-W5", "W5,--35", "\uff375", "\u20135", "W\uff15", "W5\n", "W5,\t-5", "W5\x00",
		"W601", "-601", "W600,-1", "W300,-301", "W9223372036854775807", "W9223372036854775807,W9223372036854775807,W2", "W18446744073709551621", "W4294967301", "-999999999999999999", "-9223372036854775808",
		strings.Repeat("W1,", 40) + "W1", strings.Repeat("W1,", 39) + "W1,", strings.Repeat("W15,", 39) + "-16",
		strings.Repeat("W1,", 100000) + "-1", strings.Repeat(",", 100000), "W" + strings.Repeat("0", 100000) + "5", "W" + strings.Repeat("9", 100000), strings.Repeat("W", 100000), strings.Repeat("-", 100000),
	}
	for _, s := range texts {
		checkNoPhases(t, s)
	}
}

// isPhasesText reports whether a text is that of valid phases.
func isPhasesText(s string) bool {
	sum, parts := int64(0), strings.Split(s, ",")
	for _, part := range parts {
		n, err := strconv.ParseInt(strings.TrimLeft(part, "WRGY-"), 10, 64)
		if err != nil || n < 1 || !slices.Contains([]string{"W", "R", "G", "Y", "-"}, strings.TrimSuffix(part, strconv.FormatInt(n, 10))) {
			return false
		}
		sum += n
	}
	return len(parts) <= 40 && sum <= 600
}

func TestP7ChangedTextsHavePhasesIfTheyAreCanonical(t *testing.T) {
	texts := []string{"W5,-35", "-1", "G60", "R1,Y2,-5,W3", "W400,-199", strings.Repeat("W1,", 39) + "-1"}
	checkChangedTexts(t, texts, 500, isPhasesText, func(s string) (string, bool) {
		p, ok := impl.ReadPhases(s)
		return impl.PhasesText(p), ok
	}, checkNoPhases)
}

// phasesAnswers prints the results of all functions of chapter 6 for phases.
func phasesAnswers(p, q []impl.Phase, by int64) string {
	shifted, shiftCode := impl.ShiftPhases(p, by)
	normal, normalCode := impl.NormalPattern(p)
	color, colorCode := impl.LightAt(p, by)
	c, code := impl.RecognizeCharacter(p)
	text := impl.PhasesText(p)
	read, ok := impl.ReadPhases(text)
	answers := fmt.Sprintln(shifted, shiftCode, normal, normalCode, color, colorCode, characterPrint(c), code, text, read, ok)
	for _, number := range []func([]impl.Phase) (int64, int64){impl.PatternLength, impl.PatternPeriod, impl.FlashesIn, impl.DutyOf, impl.LongestDarkOf} {
		answers += fmt.Sprintln(number(p))
	}
	return answers + fmt.Sprint(impl.ValidPhases(p), impl.SamePhases(p, q), impl.SamePhases(q, p), impl.SamePattern(p, q), impl.SamePattern(q, p))
}

func TestP1PhasesHaveEqualResults(t *testing.T) {
	numbers := append(extremeNumbers(), 2, 5, 20, 35, 40, 299, 300, 599, 600, 601)
	checkEqualResults(t, numbers, func(a, b, c int64) string {
		p := []impl.Phase{{Color: "W", Length: a}, {Length: b}}
		return phasesAnswers(p, []impl.Phase{{Color: "W", Length: b}, {Length: a}}, c)
	})
	for _, p := range append(invalidPhases(), samplePhases()...) {
		if len(p) <= 41 {
			check(t, "the second results for "+phasesPrint(p), phasesAnswers(slices.Clone(p), p, -7), phasesAnswers(p, p, -7))
		}
	}
}

func TestP1PhasesDoNotDisturbEachOther(t *testing.T) {
	checkUndisturbed(t, func(n int64) string {
		p := []impl.Phase{{Color: "W", Length: 5}, {Length: 15}, {Color: "W", Length: 5}, {Length: 30 + n}}
		return phasesAnswers(p, p[:2], n)
	})
}

func TestP1PhasesAreNotModified(t *testing.T) {
	for _, p := range append(invalidPhases(), samplePhases()[:300]...) {
		memory := append(slices.Clone(p), impl.Phase{Color: "R", Length: 3}, impl.Phase{Color: "X", Length: -7})
		before := slices.Clone(memory)
		phasesAnswers(memory[:len(p)], memory[:len(p)], 3)
		check(t, "whether they remain as they are: "+phasesPrint(p), slices.Equal(memory, before), true)
	}
}

func TestP1ResultsOfPhasesShareNoMemory(t *testing.T) {
	for _, p := range samplePhases()[:200] {
		want := phasesAnswers(p, p, 0)
		argument := slices.Clone(p)
		shifted, _ := impl.ShiftPhases(argument, 0)
		normal, _ := impl.NormalPattern(argument)
		read, _ := impl.ReadPhases(impl.PhasesText(argument))
		clear(argument)
		check(t, "the shifted phases after a change of "+phasesPrint(p), phasesPrint(shifted), phasesPrint(joinedOfRanks(ranksOf(p))))
		check(t, "the pattern after a change of "+phasesPrint(p), phasesPrint(normal), phasesPrint(joinedOfRanks(normalRanks(ranksOf(p)))))
		for _, result := range [][]impl.Phase{shifted, normal, read} {
			clear(result[:cap(result)])
		}
		check(t, "the results after a change of results for "+phasesPrint(p), phasesAnswers(p, p, 0), want)
	}
	c, _ := impl.ReadCharacter("Fl(2+1) W 12.5s")
	p, _ := impl.PhasesOf(c, "W")
	one, _ := impl.RecognizeCharacter(p)
	two, _ := impl.RecognizeCharacter(p)
	clear(one.Group[:cap(one.Group)])
	check(t, "the recognised character after a change of another one", characterPrint(two), characterPrint(c))
}

func TestP1RecognitionLeavesNothingBehind(t *testing.T) {
	before := runtime.NumGoroutine()
	for _, p := range samplePhases()[:500] {
		impl.RecognizeCharacter(p)
	}
	// A goroutine that has closed its channel may need a moment to end.
	for range 1000 {
		if runtime.NumGoroutine() <= before {
			return
		}
		time.Sleep(time.Millisecond)
	}
	t.Errorf("%d goroutines before, and %d afterwards", before, runtime.NumGoroutine())
}
