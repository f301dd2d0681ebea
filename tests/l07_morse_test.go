package tests

import (
	"fmt"
	"math"
	"slices"
	"strings"
	"sync"
	"testing"

	"loop.example/g00953/impl"
)

// letterOf returns the letter with an index in signsOfLetters.
func letterOf(index int) string {
	return string(rune('A' + index))
}

// signsModel returns the signs of a letter that is valid.
func signsModel(letter string) string {
	return signsOfLetters[letter[0]-'A']
}

// lampOfSigns draws signs, with a `1` or a `0` for each unit.
func lampOfSigns(signs string) string {
	units := strings.NewReplacer(".", "10", "-", "1110").Replace(signs)
	return strings.TrimSuffix(units, "0")
}

// lampOfText draws a text that can be sent.
func lampOfText(text string) string {
	var words []string
	for _, word := range strings.Split(text, " ") {
		var letters []string
		for _, letter := range strings.Split(word, "") {
			letters = append(letters, lampOfSigns(signsModel(letter)))
		}
		words = append(words, strings.Join(letters, "000"))
	}
	return strings.Join(words, "0000000")
}

// phasesOfText are the phases of a text that can be sent.
func phasesOfText(text, color string, unit int64) []impl.Phase {
	lamp := strings.NewReplacer("1", "#", "0", ".").Replace(lampOfText(text))
	list := phasesOfLamp(lamp, color)
	for i := range list {
		list[i].Length *= unit
	}
	return list
}

// spellingModel spells a text that can be sent.
func spellingModel(text string) string {
	spelling := " " + strings.Join(strings.Split(text, ""), " ") + " "
	spelling = strings.ReplaceAll(spelling, "   ", " / ")
	for i, signs := range signsOfLetters {
		spelling = strings.ReplaceAll(spelling, letterOf(i), signs)
	}
	return strings.TrimSpace(spelling)
}

// sentTexts can be sent.
func sentTexts() []string {
	texts := []string{"SOS A", "AE T", "A", "E", "T", "E E", "T T", "EEEEEEEEEEEE", "YYYYYYYYYYYY", "A B C D E F", "AB CDE FG HI", "QJYX ZCPB LF", "E EEEEEEEEEE", "EEEEEEEEEE E", "VWKORDGUNM", "HHHH", "ZZ ZZZ ZZZZZ"}
	for i := range signsOfLetters {
		for j := range signsOfLetters {
			texts = append(texts, letterOf(i)+letterOf(j), letterOf(i)+" "+letterOf(j))
		}
		texts = append(texts, letterOf(i), strings.Repeat(letterOf(i), 12), strings.Repeat(letterOf(i)+" ", 5)+letterOf(i)+letterOf(25-i))
	}
	for _, text := range textsOver("AETY", 4) {
		if text != "" {
			texts = append(texts, text)
		}
	}
	return texts
}

// unsentTexts cannot be sent.
func unsentTexts() []string {
	texts := []string{"", " ", "  ", " A", "A ", "A  B", "A   B", " A B", "A B ", "a", "AaB", "Aa", "1", "A1", "A.", ".-", "A/B", "A\tB", "A\nB", "A\u00a0B", "\u00c4", "A\u00c9", "\uff21", "\xff", "A\x00", "@", "[", "A@B", "A[B", "A-B", "_",
		"AAAAAAAAAAAAA", "A B C D E F G", "EEEEEE EEEEEE", "EEEEEEEEEEEE ", " EEEEEEEEEEEE", strings.Repeat("A", 100000), strings.Repeat("A ", 100000) + "A", strings.Repeat(" ", 100000)}
	for c := range 256 {
		if c < 'A' || c > 'Z' {
			texts = append(texts, string([]byte{byte(c)}), string([]byte{'A', byte(c)}), string([]byte{byte(c), 'Z'}))
			if c != ' ' {
				texts = append(texts, string([]byte{'A', byte(c), 'Z'}))
			}
		}
	}
	return texts
}

func TestP8Constants(t *testing.T) {
	check(t, "the limits", fmt.Sprint(impl.MaxSignal, impl.MaxUnit), "12 50")
}

func TestP8LettersHaveTheirSigns(t *testing.T) {
	for i, signs := range signsOfLetters {
		got, code := impl.MorseOf(letterOf(i))
		check(t, "the signs of "+letterOf(i), fmt.Sprint(got, code), fmt.Sprint(signs, 0))
		letter, code := impl.LetterOf(signs)
		check(t, "the letter of "+signs, fmt.Sprint(letter, code), fmt.Sprint(letterOf(i), 0))
		length, code := impl.MorseLength(letterOf(i))
		check(t, "the units of "+letterOf(i), [2]int64{length, code}, [2]int64{int64(len(lampOfSigns(signs))), impl.OK})
	}
	length, code := impl.MorseLength("A")
	check(t, "the units of the document's example", [2]int64{length, code}, [2]int64{5, impl.OK})
}

func TestP8OtherTextsAreNoLetters(t *testing.T) {
	texts := append(textsOver("AZ@[az .", 2), "\u00c4", "\uff21", "\u0391", "A\x00", "ABC", "SOS", strings.Repeat("A", 1000))
	for c := range 256 {
		texts = append(texts, string([]byte{byte(c)}))
	}
	for _, s := range texts {
		if len(s) == 1 && s[0] >= 'A' && s[0] <= 'Z' {
			continue
		}
		signs, code := impl.MorseOf(s)
		check(t, fmt.Sprintf("the signs of %q", s), fmt.Sprint(signs, code), "1")
		length, code := impl.MorseLength(s)
		check(t, fmt.Sprintf("the units of %q", s), [2]int64{length, code}, [2]int64{0, impl.ErrInvalid})
	}
}

func TestP8SignsHaveTheirLetters(t *testing.T) {
	codes := append(textsOver(".-", 6), textsOver(".-x", 2)...)
	for c := range 256 {
		codes = append(codes, string([]byte{byte(c)}), string([]byte{'.', byte(c)}), string([]byte{byte(c), '-'}), string([]byte{'.', byte(c), '-'}))
	}
	codes = append(codes, "A", " .-", ".- ", ". -", "\u2022-", "\u2013.", ".\u2013", "\xff", strings.Repeat(".", 100000), strings.Repeat("-", 100000)+"x")
	for _, s := range codes {
		letter, letters := "", ""
		for i, signs := range signsOfLetters {
			if signs == s {
				letter = letterOf(i)
			}
			if strings.HasPrefix(signs, s) {
				letters += letterOf(i)
			}
		}
		want := int64(impl.OK)
		if letter == "" {
			want = impl.ErrNotFound
		}
		got, code := impl.LetterOf(s)
		check(t, fmt.Sprintf("the letter of %.20q", s), fmt.Sprintf("%q %d", got, code), fmt.Sprintf("%q %d", letter, want))
		want = impl.OK
		if strings.ReplaceAll(strings.ReplaceAll(s, ".", ""), "-", "") != "" {
			want = impl.ErrInvalid
		}
		got, code = impl.LettersLike(s)
		check(t, fmt.Sprintf("the letters like %.20q", s), fmt.Sprintf("%q %d", got, code), fmt.Sprintf("%q %d", letters, want))
	}
}

func TestP8TextsAreSpelled(t *testing.T) {
	for _, text := range sentTexts() {
		spelling, code := impl.SpellText(text)
		check(t, "the spelling of "+text, fmt.Sprintf("%q %d", spelling, code), fmt.Sprintf("%q 0", spellingModel(text)))
	}
	spelling, _ := impl.SpellText("SOS A")
	check(t, "the spelling of the document's example", spelling, "... --- ... / .-")
}

func TestP8OtherTextsCannotBeSent(t *testing.T) {
	for _, text := range unsentTexts() {
		spelling, code := impl.SpellText(text)
		check(t, fmt.Sprintf("the spelling of %.20q", text), fmt.Sprintf("%q %d", spelling, code), `"" 1`)
		for _, unit := range []int64{1, 50, 0, 51} {
			list, code := impl.SendText(text, "W", unit)
			check(t, fmt.Sprintf("the signal of %.20q", text), fmt.Sprint(list == nil, code), "true 1")
		}
	}
}

func TestP8ShortTextsCanBeSentIfTheyHaveSingleBlanks(t *testing.T) {
	for _, text := range textsOver("AZ a", 5) {
		_, spellCode := impl.SpellText(text)
		_, sendCode := impl.SendText(text, "W", 1)
		want := int64(impl.ErrInvalid)
		if text != "" && strings.Trim(text, " ") == text && !strings.Contains(text, "  ") && !strings.Contains(text, "a") {
			want = impl.OK
		}
		check(t, fmt.Sprintf("the codes for %q", text), [2]int64{spellCode, sendCode}, [2]int64{want, want})
	}
}

func TestP8WhatIsSentIsRead(t *testing.T) {
	for i, text := range sentTexts() {
		for _, color := range []string{"W", "R", "G", "Y"} {
			for _, unit := range []int64{1, 2, 3, 7, 49, 50, 1 + int64(i%50)} {
				list, code := impl.SendText(text, color, unit)
				what := fmt.Sprint(text, " in ", color, " and units of ", unit)
				checkPhases(t, what, list, code, phasesOfText(text, color, unit))
				read, code := impl.ReadSignal(list, unit)
				check(t, what+" as it is read", fmt.Sprintf("%q %d", read, code), fmt.Sprintf("%q 0", text))
			}
		}
	}
}

func TestP8SignalsHaveColorsAndUnits(t *testing.T) {
	for _, color := range append(textsOver("WRGYwB- ", 2), "\x00", "\uff37", "WRGY") {
		for _, unit := range append(numbersBeyond(1, 50), 0, 1, 2, 49, 50, 51, 256+1, 1<<32+1) {
			want := int64(impl.OK)
			switch {
			case len(color) != 1 || !strings.Contains("WRGY", color):
				want = impl.ErrInvalid
			case unit < 1 || unit > 50:
				want = impl.ErrRange
			}
			list, code := impl.SendText("A", color, unit)
			what := fmt.Sprintf("the signal of A in %q with %d", color, unit)
			check(t, "the code of "+what, code, want)
			if want != impl.OK {
				check(t, what, list == nil, true)
			}
		}
	}
}

func TestP8SignalsAreReadWithUnitsInRange(t *testing.T) {
	list := phasesOfText("SOS A", "W", 2)
	for _, unit := range append(numbersBeyond(1, 50), 0, 51, 256+2, 1<<32+2) {
		for _, signal := range [][]impl.Phase{nil, list, list[:2], {{Color: "X", Length: -1}}} {
			text, code := impl.ReadSignal(signal, unit)
			check(t, fmt.Sprint("the text with the unit ", unit), fmt.Sprintf("%q %d", text, code), `"" 2`)
		}
	}
	for unit := int64(1); unit <= 50; unit++ {
		want := `"" 9`
		if unit == 2 {
			want = `"SOS A" 0`
		}
		text, code := impl.ReadSignal(list, unit)
		check(t, fmt.Sprint("the text with the unit ", unit), fmt.Sprintf("%q %d", text, code), want)
	}
}

// lampOfPhases draws phases that are lit and dark in turn for whole units; it
// returns false for others.
func lampOfPhases(list []impl.Phase, unit int64) (string, bool) {
	lamp := ""
	for _, phase := range list {
		state := "0"
		if len(phase.Color) == 1 && strings.Contains("WRGY", phase.Color) {
			state = "1"
		} else if phase.Color != "" {
			return "", false
		}
		if phase.Length < 1 || phase.Length > 1000 || phase.Length%unit != 0 || strings.HasSuffix(lamp, state) {
			return "", false
		}
		lamp += strings.Repeat(state, int(phase.Length/unit))
	}
	return lamp, true
}

// lettersByLamp are the letters that are drawn so.
var lettersByLamp = sync.OnceValue(func() map[string]string {
	letters := map[string]string{}
	for i, signs := range signsOfLetters {
		letters[lampOfSigns(signs)] = letterOf(i)
	}
	return letters
})

// textOfLamp returns the text that is drawn so, and false if there is none.
func textOfLamp(lamp string) (string, bool) {
	letters := lettersByLamp()
	var words []string
	for _, word := range strings.Split(lamp, "0000000") {
		text := ""
		for _, letter := range strings.Split(word, "000") {
			if letters[letter] == "" {
				return "", false
			}
			text += letters[letter]
		}
		words = append(words, text)
	}
	text := strings.Join(words, " ")
	return text, len(text) <= 12 && lampOfText(text) == lamp
}

// checkSignal asks for the text of phases; it returns whether they have one.
func checkSignal(t *testing.T, list []impl.Phase, unit int64) bool {
	t.Helper()
	want := `"" 9`
	lamp, isDrawn := lampOfPhases(list, unit)
	text, isText := textOfLamp(lamp)
	if isDrawn && isText {
		want = fmt.Sprintf("%q 0", text)
	}
	got, code := impl.ReadSignal(list, unit)
	check(t, fmt.Sprint("the text with the unit ", unit, " of "+phasesPrint(list)), fmt.Sprintf("%q %d", got, code), want)
	return isDrawn && isText
}

// changedPhases are the lists that differ from a list by one phase.
func changedPhases(list []impl.Phase, unit int64) [][]impl.Phase {
	var lists [][]impl.Phase
	for i, phase := range list {
		for _, color := range []string{"", "W", "R", "X", "w", "WR", "-", " "} {
			lists = append(lists, slices.Concat(list[:i], []impl.Phase{{Color: color, Length: phase.Length}}, list[i+1:]))
			lists = append(lists, slices.Concat(list[:i], []impl.Phase{{Color: color, Length: unit}}, list[i:]))
		}
		for _, length := range []int64{0, 1, 2, unit, 2 * unit, 3 * unit, 4 * unit, 5 * unit, 7 * unit, 8 * unit, -unit, -phase.Length, phase.Length - 1, phase.Length + 1, phase.Length + unit, phase.Length * 3, math.MinInt64, math.MaxInt64, 1<<32 + phase.Length, 1<<62 + phase.Length} {
			lists = append(lists, slices.Concat(list[:i], []impl.Phase{{Color: phase.Color, Length: length}}, list[i+1:]))
		}
		lists = append(lists, slices.Concat(list[:i], list[i+1:]), list[:i], list[i:])
	}
	return lists
}

func TestP8ChangedSignalsAreReadIfTheyAreSignals(t *testing.T) {
	reads := 0
	for _, text := range strings.Split("A,E,T,Q,SOS,ETE,EEE,TTT,YZ,OF,E T,A A,Q Q,SOS A,EEEEEEEEEEEE,T T T T T TT", ",") {
		for _, unit := range []int64{1, 2, 3, 7, 50} {
			for _, list := range changedPhases(phasesOfText(text, "W", unit), unit) {
				if checkSignal(t, list, unit) {
					reads++
				}
			}
		}
	}
	if reads < 1000 {
		t.Errorf("only %d of the changed signals are read", reads)
	}
}

func TestP8FewPhasesAreReadIfTheyAreSignals(t *testing.T) {
	phases := append(phasesWith("-W", 1, 2, 3, 7), impl.Phase{Color: "X", Length: 1}, impl.Phase{Length: 5})
	for length := 0; length <= 3; length++ {
		for _, list := range listsOfPhases(length, phases) {
			checkSignal(t, list, 1)
			checkSignal(t, list, 2)
		}
	}
	for _, list := range listsOfPhases(5, phasesWith("-W", 1, 3)) {
		checkSignal(t, list, 1)
	}
}

// checkNoSignal asks for the answer to phases that are no signal.
func checkNoSignal(t *testing.T, what string, list []impl.Phase, unit int64) {
	t.Helper()
	text, code := impl.ReadSignal(list, unit)
	check(t, "the text of "+what, fmt.Sprintf("%q %d", text, code), `"" 9`)
}

func TestP8SignalsEndWithASign(t *testing.T) {
	checkNoSignal(t, "no phases", nil, 1)
	checkNoSignal(t, "an empty list", []impl.Phase{}, 50)
	for _, text := range []string{"A", "E", "SOS A", "E E E E E E", "YYYYYYYYYYYY"} {
		for _, unit := range []int64{1, 2, 50} {
			list := phasesOfText(text, "G", unit)
			for _, units := range []int64{1, 2, 3, 7, 20} {
				dark := []impl.Phase{{Length: units * unit}}
				checkNoSignal(t, text+" with a dark end", slices.Concat(list, dark), unit)
				checkNoSignal(t, text+" with a dark beginning", slices.Concat(dark, list), unit)
				checkNoSignal(t, text+" between two dark phases", slices.Concat(dark, list, dark), unit)
			}
			checkNoSignal(t, text+" without its last sign", list[:len(list)-1], unit)
			if len(list) > 1 {
				checkNoSignal(t, text+" without its first sign", list[1:], unit)
			}
		}
	}
	for _, s := range []string{"Mo(A) W 8s", "Mo(E) W 8s", "Mo(S) W 60s", "Fl W 4s"} {
		c, _ := impl.ReadCharacter(s)
		p, _ := impl.PhasesOf(c, "W")
		checkNoSignal(t, "the period of "+s, p, 5)
	}
	c, _ := impl.ReadCharacter("Mo(S) W 60s")
	p, _ := impl.PhasesOf(c, "W")
	text, code := impl.ReadSignal(p[:5], 5)
	check(t, "the lit part of Mo(S)", fmt.Sprintf("%q %d", text, code), `"S" 0`)
}

func TestP8SignalsHaveAnyColors(t *testing.T) {
	for _, text := range []string{"A", "SOS A", "QJYX ZCPB LF"} {
		list := phasesOfText(text, "W", 3)
		for i := 0; i < len(list); i += 2 {
			list[i].Color = []string{"W", "R", "G", "Y"}[i/2%4]
		}
		read, code := impl.ReadSignal(list, 3)
		check(t, text+" in several colors", fmt.Sprintf("%q %d", read, code), fmt.Sprintf("%q 0", text))
		list[len(list)-1].Color = "B"
		checkNoSignal(t, text+" in a color that is none", list, 3)
	}
}

// phasesOfSpelling are the phases of signs that need not be those of letters.
func phasesOfSpelling(spelling string) []impl.Phase {
	units := strings.NewReplacer(" / ", "......", " ", "..", ".", "#.", "-", "###.").Replace(spelling)
	return phasesOfLamp(strings.TrimSuffix(units, "."), "W")
}

func TestP8OtherSignsAreNotRead(t *testing.T) {
	for _, signs := range textsOver(".-", 7) {
		if signs == "" || slices.Contains(signsOfLetters, signs) {
			continue
		}
		for _, spelling := range []string{signs, signs + " .-", ".- " + signs, ".- " + signs + " .-", ".- / " + signs, signs + " / .-"} {
			checkNoSignal(t, spelling, phasesOfSpelling(spelling), 1)
		}
	}
	text, code := impl.ReadSignal(phasesOfSpelling("... --- ... / .-"), 1)
	check(t, "the text of signs", fmt.Sprintf("%q %d", text, code), `"SOS A" 0`)
}

func TestP8SignalsHaveAtMostTwelveBytes(t *testing.T) {
	for _, text := range []string{"AAAAAAAAAAAAA", "E E E E E E E", "EEEEEE EEEEEE", "E EEEEEEEEEEE", "YYYYYYYYYYYYYYYYYYYYYYYYYYYYYY", "A BCDEFGHIJKLMNO"} {
		checkNoSignal(t, text, phasesOfText(text, "W", 2), 2)
		shorter := strings.TrimSuffix(text[:12], " ")
		read, code := impl.ReadSignal(phasesOfText(shorter, "W", 2), 2)
		check(t, "the text of "+shorter, fmt.Sprintf("%q %d", read, code), fmt.Sprintf("%q 0", shorter))
	}
	for _, pause := range []int64{1, 3, 7} {
		long := slices.Repeat([]impl.Phase{{Color: "W", Length: 1}, {Length: pause}}, 500000)
		checkNoSignal(t, "many phases", long, 1)
		checkNoSignal(t, "many phases with a sign at the end", long[:len(long)-1], 1)
	}
}

// morseAnswers prints the results of all functions of chapter 7.
func morseAnswers(text, color string, list []impl.Phase, unit int64) string {
	signs, one := impl.MorseOf(text)
	letter, two := impl.LetterOf(text)
	length, three := impl.MorseLength(text)
	letters, four := impl.LettersLike(text)
	sent, five := impl.SendText(text, color, unit)
	read, six := impl.ReadSignal(list, unit)
	spelling, seven := impl.SpellText(text)
	return fmt.Sprintln(signs, one, letter, two, length, three, letters, four, sent, five, read, six, spelling, seven)
}

func TestP1SignalsHaveEqualResults(t *testing.T) {
	texts := slices.Concat(sentTexts()[:60], unsentTexts(), textArguments(), textsOver(".-", 3))
	for _, text := range texts {
		for _, unit := range []int64{0, 1, 50, 51} {
			first := morseAnswers(text, "W", phasesOfText("SOS A", "W", 1), unit)
			check(t, fmt.Sprintf("the second results for %.20q", text), morseAnswers(strings.Clone(text), "W", phasesOfText("SOS A", "W", 1), unit), first)
		}
	}
	numbers := append(extremeNumbers(), 1, 2, 3, 6, 7, 49, 50, 51, 150)
	checkEqualResults(t, numbers, func(a, b, c int64) string {
		return morseAnswers("A", "W", []impl.Phase{{Color: "W", Length: a}, {Length: b}, {Color: "W", Length: b}}, c)
	})
}

func TestP1SignalsDoNotDisturbEachOther(t *testing.T) {
	checkUndisturbed(t, func(n int64) string {
		text := letterOf(int(n)) + " " + letterOf(int(n+3))
		return morseAnswers(text, "R", phasesOfText(text, "R", n+1), n+1) + morseAnswers(letterOf(int(n)), "R", nil, n)
	})
}

func TestP1SignalsAreNotModified(t *testing.T) {
	for _, text := range sentTexts()[:40] {
		memory := append(phasesOfText(text, "W", 2), impl.Phase{Length: 2}, impl.Phase{Color: "X", Length: -7})
		before := slices.Clone(memory)
		for n := range len(memory) + 1 {
			morseAnswers(text, "W", memory[:n], 2)
		}
		check(t, "whether the signal remains as it is: "+text, slices.Equal(memory, before), true)
	}
}

func TestP1ResultsOfSignalsShareNoMemory(t *testing.T) {
	for _, text := range sentTexts()[:40] {
		list, _ := impl.SendText(text, "W", 2)
		other, _ := impl.SendText(text, "W", 2)
		clear(list[:cap(list)])
		check(t, "the signal of "+text+" after a change of another one", phasesPrint(other), phasesPrint(phasesOfText(text, "W", 2)))
	}
}
