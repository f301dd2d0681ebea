package tests

import (
	"fmt"
	"math"
	"regexp"
	"slices"
	"strings"
	"testing"

	"loop.example/g00953/impl"
)

// markModel is a kind of marks as the tables of the document have it. The texts of
// the allowed characters have the form allowed.
type markModel struct {
	kind                                       int64
	name, colors, shapes, topmark, side, light string
	allowed                                    string
}

func markModels() []markModel {
	return []markModel{
		{impl.MkLeft, "left", "R", "can pillar spar", "can", "port", "Fl R 4s", `^\S+ R( \S+)?$`},
		{impl.MkRight, "right", "G", "cone pillar spar", "cone", "starboard", "Fl G 4s", `^\S+ G( \S+)?$`},
		{impl.MkNorth, "north", "BY", "pillar spar", "up", "north", "Q W", `^V?Q W$`},
		{impl.MkEast, "east", "BYB", "pillar spar", "base", "east", "Q(3) W 10s", `^(Q\(3\) W 10s|VQ\(3\) W 5s)$`},
		{impl.MkSouth, "south", "YB", "pillar spar", "down", "south", "Q(6)+LFl W 15s", `^(Q\(6\)\+LFl W 15s|VQ\(6\)\+LFl W 10s)$`},
		{impl.MkWest, "west", "YBY", "pillar spar", "point", "west", "Q(9) W 15s", `^(Q\(9\) W 15s|VQ\(9\) W 10s)$`},
		{impl.MkDanger, "danger", "BRB", "pillar spar", "balls", "clear", "Fl(2) W 5s", `^Fl\(2\) W \S+$`},
		{impl.MkSafe, "safe", "RW", "sphere pillar spar", "ball", "either", "LFl W 10s", `^(LFl W 10s|(Iso|Oc(\(\S+\))?|Mo\(A\)) W \S+)$`},
		{impl.MkSpecial, "special", "Y", "can cone pillar spar sphere", "cross", "", "Fl Y 5s", `^\S+ Y( \S+)?$`},
	}
}

func (m markModel) shapeNames() []string {
	return strings.Split(m.shapes, " ")
}

// looksLike reports whether a mark of the kind may have some parts, where an empty one is not stated.
func (m markModel) looksLike(colors, shape, topmark string) bool {
	return (colors == "" || colors == m.colors) && (shape == "" || slices.Contains(m.shapeNames(), shape)) && (topmark == "" || topmark == m.topmark)
}

// otherKinds are numbers that are not those of marks that are seen, nor MkNone.
func otherKinds() []int64 {
	list := append(numbersBeyond(impl.MkNone, impl.MkSpecial), 11, 256+1, 256+3, 1<<32+1, 1<<32+9)
	for _, n := range extremeNumbers() {
		if n < impl.MkNone || n > impl.MkSpecial {
			list = append(list, n)
		}
	}
	return list
}

func mark(kind int64, colors, shape, topmark string) impl.Mark {
	return impl.Mark{Kind: kind, Colors: colors, Shape: shape, Topmark: topmark}
}

// textsOfMarks are the texts of all valid marks.
func textsOfMarks() map[impl.Mark]string {
	texts := map[impl.Mark]string{{}: "none"}
	for _, m := range markModels() {
		for _, shape := range m.shapeNames() {
			begin := m.name + " " + m.colors + " " + shape + " "
			texts[mark(m.kind, m.colors, shape, m.topmark)] = begin + m.topmark
			texts[mark(m.kind, m.colors, shape, "")] = begin + "-"
		}
	}
	return texts
}

// eachLook visits the parts of all looks, and of others.
func eachLook(visit func(colors, shape, topmark string)) {
	for _, colors := range []string{"", "R", "G", "BY", "BYB", "YB", "YBY", "BRB", "RW", "Y", "W", "B", "r", "RG", "R ", " BY", "YBYB", "-", "\x00"} {
		for _, shape := range []string{"", "can", "cone", "pillar", "spar", "sphere", "Can", "can pillar", "pillar spar", "can ", " ", "-", "ball", "sp"} {
			for _, topmark := range []string{"", "can", "cone", "up", "base", "down", "point", "balls", "ball", "cross", "-", "Up", "up ", " ", "none"} {
				visit(colors, shape, topmark)
			}
		}
	}
}

func TestP12Constants(t *testing.T) {
	got := []int64{impl.MkNone, impl.MkLeft, impl.MkRight, impl.MkNorth, impl.MkEast, impl.MkSouth, impl.MkWest, impl.MkDanger, impl.MkSafe, impl.MkSpecial}
	check(t, "the constants", fmt.Sprint(got), "[0 1 2 3 4 5 6 7 8 9]")
}

func TestP12KindsHaveNamesAndSides(t *testing.T) {
	for _, m := range append(markModels(), markModel{kind: impl.MkNone, name: "none"}) {
		check(t, fmt.Sprint("the name of ", m.kind), impl.MarkName(m.kind), m.name)
		check(t, "the side of "+m.name, impl.SideToPass(m.kind), m.side)
		kind, ok := impl.MarkNamed(m.name)
		check(t, "whether there is the name "+m.name, ok, true)
		check(t, "the kind with the name "+m.name, kind, m.kind)
	}
	for _, n := range otherKinds() {
		check(t, fmt.Sprint("the name of ", n), impl.MarkName(n), "")
		check(t, fmt.Sprint("the side of ", n), impl.SideToPass(n), "")
	}
}

func TestP12OtherTextsAreNoNames(t *testing.T) {
	names := []string{"none"}
	for _, m := range markModels() {
		names = append(names, m.name)
	}
	checkName := func(s string) {
		if kind, ok := impl.MarkNamed(s); !slices.Contains(names, s) && (ok || kind != 0) {
			t.Errorf("MarkNamed %q: got %d, %v", s, kind, ok)
		}
	}
	for _, name := range names {
		eachChangedText(name, checkName)
	}
	for _, s := range append(textArguments(), "North", "NORTH", "nonenone", "left right", "MkLeft", "port", "starboard", "clear", "either", "R", "can", "1") {
		checkName(s)
	}
}

func TestP12StandardMarksHaveTheFirstShape(t *testing.T) {
	for kind, want := range map[int64]string{
		impl.MkLeft: "left R can can", impl.MkRight: "right G cone cone", impl.MkNorth: "north BY pillar up", impl.MkEast: "east BYB pillar base", impl.MkSouth: "south YB pillar down",
		impl.MkWest: "west YBY pillar point", impl.MkDanger: "danger BRB pillar balls", impl.MkSafe: "safe RW sphere ball", impl.MkSpecial: "special Y can cross",
	} {
		got, code := impl.StandardMark(kind)
		check(t, "the code of the standard mark of "+want, code, impl.OK)
		check(t, "the standard mark of "+want, textsOfMarks()[got], want)
		check(t, "the text of the standard mark of "+want, impl.MarkText(got), want)
		check(t, "whether it is valid: "+want, impl.ValidMark(got), true)
	}
	for _, n := range append(otherKinds(), impl.MkNone) {
		got, code := impl.StandardMark(n)
		check(t, fmt.Sprint("the standard mark of ", n), got, impl.Mark{})
		check(t, fmt.Sprint("the code of the standard mark of ", n), code, impl.ErrRange)
	}
}

func TestP12MarksAreValidIfTheyAreInTheTable(t *testing.T) {
	texts := textsOfMarks()
	check(t, "the number of valid marks", len(texts), 49)
	for _, kind := range append(otherKinds(), 0, 1, 2, 3, 4, 5, 6, 7, 8, 9) {
		eachLook(func(colors, shape, topmark string) {
			m := mark(kind, colors, shape, topmark)
			want, isValid := texts[m]
			if got := impl.ValidMark(m); got != isValid {
				t.Errorf("whether %+v is valid: got %v", m, got)
			}
			// The text of a mark that is not valid is empty.
			if got := impl.MarkText(m); got != want {
				t.Errorf("the text of %+v: got %q, want %q", m, got, want)
			}
		})
	}
}

func TestP12MarksWithoutTopmarkAreValid(t *testing.T) {
	for _, m := range markModels() {
		for _, shape := range m.shapeNames() {
			bare := mark(m.kind, m.colors, shape, "")
			check(t, "whether it is valid: "+m.name+" "+shape, impl.ValidMark(bare), true)
			check(t, "the text of "+m.name+" "+shape, impl.MarkText(bare), m.name+" "+m.colors+" "+shape+" -")
			check(t, "whether it is valid with a dash: "+m.name, impl.ValidMark(mark(m.kind, m.colors, shape, "-")), false)
			read, ok := impl.ReadMark(m.name + " " + m.colors + " " + shape + " -")
			check(t, "whether it is read: "+m.name+" "+shape, ok, true)
			check(t, "what is read of "+m.name+" "+shape, read, bare)
		}
	}
}

func TestP12MarksAreToldApartByTheirColors(t *testing.T) {
	for _, m := range markModels() {
		check(t, "the kinds like the colors "+m.colors, fmt.Sprint(impl.KindsLike(m.colors, "", "")), fmt.Sprint([]int64{m.kind}))
		check(t, "the kinds like the topmark "+m.topmark, fmt.Sprint(impl.KindsLike("", "", m.topmark)), fmt.Sprint([]int64{m.kind}))
	}
	for m, text := range textsOfMarks() {
		if m.Kind != impl.MkNone {
			check(t, "the kinds like "+text, fmt.Sprint(impl.KindsLike(m.Colors, m.Shape, m.Topmark)), fmt.Sprint([]int64{m.Kind}))
			check(t, "the kinds like the colors and the shape of "+text, fmt.Sprint(impl.KindsLike(m.Colors, m.Shape, "")), fmt.Sprint([]int64{m.Kind}))
		}
	}
}

func TestP12KindsLikeALook(t *testing.T) {
	eachLook(func(colors, shape, topmark string) {
		want := []int64{}
		for _, m := range markModels() {
			if m.looksLike(colors, shape, topmark) {
				want = append(want, m.kind)
			}
		}
		check(t, fmt.Sprintf("the kinds like %q %q %q", colors, shape, topmark), fmt.Sprint(impl.KindsLike(colors, shape, topmark)), fmt.Sprint(want))
	})
	for shape, want := range map[string]string{
		"": "[1 2 3 4 5 6 7 8 9]", "can": "[1 9]", "cone": "[2 9]", "pillar": "[1 2 3 4 5 6 7 8 9]", "spar": "[1 2 3 4 5 6 7 8 9]", "sphere": "[8 9]", "ball": "[]", "can cone": "[]", " ": "[]", "pill": "[]",
	} {
		check(t, "the kinds like the shape "+shape, fmt.Sprint(impl.KindsLike("", shape, "")), want)
	}
	check(t, "the kinds like a can of no colors", fmt.Sprint(impl.KindsLike("", "can", "cross")), "[9]")
	check(t, "the kinds like a red cone", fmt.Sprint(impl.KindsLike("R", "cone", "")), "[]")
	check(t, "the kinds like no topmark", fmt.Sprint(impl.KindsLike("Y", "spar", "-")), "[]")
}

func TestP12MarksAreRestored(t *testing.T) {
	for m, text := range textsOfMarks() {
		check(t, "the text of "+text, impl.MarkText(m), text)
		read, ok := impl.ReadMark(text)
		check(t, text+" is read", ok, true)
		check(t, "the mark of "+text, read, m)
	}
	for text, want := range map[string]impl.Mark{
		"none": {}, "north BY pillar up": mark(3, "BY", "pillar", "up"), "left R spar -": mark(1, "R", "spar", ""), "right G cone cone": mark(2, "G", "cone", "cone"), "special Y sphere cross": mark(9, "Y", "sphere", "cross"), "safe RW pillar -": mark(8, "RW", "pillar", ""),
	} {
		read, ok := impl.ReadMark(text)
		check(t, text+" is read", ok, true)
		check(t, "the mark of "+text, read, want)
		check(t, "the text of the mark of "+text, impl.MarkText(want), text)
	}
}

func checkNoMark(t *testing.T, s string) {
	t.Helper()
	m, ok := impl.ReadMark(s)
	check(t, fmt.Sprintf("%.60q is read", s), ok, false)
	check(t, fmt.Sprintf("the mark of %.60q", s), m, impl.Mark{})
}

func TestP12OtherTextsHaveNoMark(t *testing.T) {
	texts := []string{
		"", " ", "  ", "   ", "-", "- - - -", "   -", "0", "None", "none ", " none", "none -", "none - - -", "none   ", "none   -", "none none", "none R can can", "none R can -", "none\n",
		"left", "left ", "left R", "left R can", "left R can ", "left R can  ", "left R can - ", "left R can can ", " left R can can", "left  R can can", "left R  can can", "left R can  can", "left R can can can", "left R can - -", "left R can none", "left R can --", "left R can can-", "left R can -can",
		"left R - can", "left R - -", "left - can can", "left - - -", "- R can can", " R can can", "left  can can", "left R  can", "R can can", "left can can", "left can R can", "R left can can", "1 R can can", "port R can can", "Left R can can", "left r can can", "left R Can can", "left R can Can", "LEFT R CAN CAN",
		"left G can can", "left R cone can", "left R sphere can", "left R can up", "left R can cone", "left RR can can", "north BY can up", "north BY sphere up", "north YB pillar up", "north BYB pillar up", "north BY pillar down", "south BY pillar down", "east BYB pillar point", "west YBY pillar base", "danger BRB sphere balls", "danger BRB pillar ball", "safe RW can ball", "safe RW sphere balls", "safe WR sphere ball", "special Y can can", "special W can cross", "special  can cross",
		"left\tR\tcan\tcan", "left,R,can,can", "left/R/can/can", "left R can\tcan", "left R can can\n", "left\u00a0R can can", "left R can \u2013", "left \uff32 can can", "left R can can\x00", "left R can pillar spar can", "left R can pillar", "left R can pillar spar", "left R \"can\" can",
		strings.Repeat(" ", 100000), strings.Repeat("none", 100000), strings.Repeat("left R can can ", 10000), "left " + strings.Repeat("R", 100000) + " can can", "left R can " + strings.Repeat("-", 100000),
	}
	for _, s := range texts {
		checkNoMark(t, s)
	}
}

func TestP12ChangedTextsHaveMarksIfTheyAreCanonical(t *testing.T) {
	var texts []string
	for _, text := range textsOfMarks() {
		texts = append(texts, text)
	}
	isText := func(s string) bool { return slices.Contains(texts, s) }
	checkChangedTexts(t, texts, 1000, isText, func(s string) (string, bool) {
		m, ok := impl.ReadMark(s)
		return impl.MarkText(m), ok
	}, checkNoMark)
}

func TestP12UsualLightsAreAllowed(t *testing.T) {
	for _, m := range markModels() {
		usual, code := impl.StandardLight(m.kind)
		check(t, "the code of the usual light of "+m.name, code, impl.OK)
		check(t, "the usual light of "+m.name, impl.CharacterText(usual), m.light)
		check(t, "whether it is allowed for "+m.name, impl.RhythmFits(m.kind, usual), true)
	}
	for _, n := range append(otherKinds(), impl.MkNone) {
		usual, code := impl.StandardLight(n)
		check(t, fmt.Sprint("the usual light of ", n), characterPrint(usual), characterPrint(impl.Character{}))
		check(t, fmt.Sprint("the code of the usual light of ", n), code, impl.ErrRange)
	}
}

// checkAllowed asks for all kinds whether a valid character is allowed for them.
func checkAllowed(t *testing.T, c impl.Character, text string, forms map[int64]*regexp.Regexp) {
	t.Helper()
	for kind, form := range forms {
		if got, want := impl.RhythmFits(kind, c), form.MatchString(text); got != want {
			t.Errorf("whether %s is allowed for %s: got %v", text, impl.MarkName(kind), got)
		}
	}
	for _, kind := range []int64{-1, 10} {
		check(t, fmt.Sprint("whether ", text, " is allowed for ", kind), impl.RhythmFits(kind, c), false)
	}
}

func TestP12CharactersAreAllowedForKinds(t *testing.T) {
	forms := map[int64]*regexp.Regexp{impl.MkNone: regexp.MustCompile("")}
	for _, m := range markModels() {
		forms[m.kind] = regexp.MustCompile(m.allowed)
	}
	for _, m := range allRhythms() {
		periods, colors := append(m.periods(), 40, 50, 100, 150), allColors()
		if len(m.group) > 1 {
			periods, colors = []int64{m.least, 500}, []string{"W", "R", "Y", "WR"}
		}
		for _, period := range periods {
			for _, color := range colors {
				if m.hasPeriod(period) {
					checkAllowed(t, m.character(color, period), m.textOf(color, period), forms)
				}
			}
		}
	}
}

func TestP12ExamplesAreAllowed(t *testing.T) {
	for text, want := range map[string]string{
		"Fl R 4s": "[0 1]", "Q R": "[0 1]", "F R": "[0 1]", "F G": "[0 2]", "Fl(2+1) G 60s": "[0 2]", "Fl RG 4s": "[0]", "Fl WR 4s": "[0]", "Q W": "[0 3]", "VQ W": "[0 3]", "Q WR": "[0]", "Q WY": "[0]", "F W": "[0]", "Fl W 4s": "[0]",
		"Q(3) W 10s": "[0 4]", "VQ(3) W 5s": "[0 4]", "VQ(3) W 10s": "[0]", "Q(3) W 5s": "[0]", "Q(3) W 9.9s": "[0]", "Q(3) G 10s": "[0 2]", "Q(2) W 10s": "[0]", "Q(6)+LFl W 15s": "[0 5]", "VQ(6)+LFl W 10s": "[0 5]", "VQ(6)+LFl W 15s": "[0]", "Q(6)+LFl W 14.9s": "[0]", "Q(6) W 15s": "[0]", "VQ(6) W 10s": "[0]",
		"Q(9) W 15s": "[0 6]", "VQ(9) W 10s": "[0 6]", "Q(9) W 10.5s": "[0]", "VQ(9) W 15s": "[0]", "Q(9) W 15.1s": "[0]", "Fl(2) W 5s": "[0 7]", "Fl(2) W 4.5s": "[0 7]", "Fl(2) W 60s": "[0 7]", "Fl(3) W 10s": "[0]", "Fl(1+1) W 10s": "[0]", "Q(2) W 5s": "[0]", "LFl(2) W 20s": "[0]", "Fl(2) Y 5s": "[0 9]",
		"LFl W 10s": "[0 8]", "LFl W 9.9s": "[0]", "LFl W 12s": "[0]", "LFl R 10s": "[0 1]", "Iso W 2s": "[0 8]", "Iso W 60s": "[0 8]", "Iso Y 4s": "[0 9]", "Iso WG 4s": "[0]", "Oc W 4s": "[0 8]", "Oc(2) W 8s": "[0 8]", "Oc(2+1) W 12.5s": "[0 8]", "Oc R 4s": "[0 1]", "Mo(A) W 5.5s": "[0 8]", "Mo(A) W 60s": "[0 8]", "Mo(B) W 8s": "[0]", "Mo(E) W 8s": "[0]", "Mo(A) Y 8s": "[0 9]", "Mo(A) WR 8s": "[0]",
		"Fl Y 5s": "[0 9]", "F Y": "[0 9]", "VQ(6)+LFl Y 10s": "[0 9]", "Fl WY 5s": "[0]", "Fl RY 5s": "[0]",
	} {
		c, ok := impl.ReadCharacter(text)
		check(t, text+" is read", ok, true)
		kinds := []int64{}
		for kind := int64(-3); kind <= 12; kind++ {
			if impl.RhythmFits(kind, c) {
				kinds = append(kinds, kind)
			}
		}
		check(t, "the kinds for which is allowed "+text, fmt.Sprint(kinds), want)
		// An empty group is the same as none.
		c.Group = append([]int64{}, c.Group...)
		for kind := int64(0); kind <= 9; kind++ {
			check(t, "whether is allowed with a group of its own "+text, impl.RhythmFits(kind, c), slices.Contains(kinds, kind))
		}
	}
	c, _ := impl.ReadCharacter("Fl R 4s")
	for _, n := range otherKinds() {
		check(t, fmt.Sprint("whether a light is allowed for ", n), impl.RhythmFits(n, c), false)
	}
}

// checkNeverAllowed asks for all kinds, and for other numbers.
func checkNeverAllowed(t *testing.T, c impl.Character) {
	t.Helper()
	for _, kind := range append(otherKinds(), 0, 1, 2, 3, 4, 5, 6, 7, 8, 9) {
		if impl.RhythmFits(kind, c) {
			t.Errorf("%s is allowed for %d", characterPrint(c), kind)
		}
	}
}

func TestP12InvalidCharactersAreNotAllowed(t *testing.T) {
	checkNeverAllowed(t, impl.Character{})
	for _, m := range markModels() {
		usual, _ := impl.StandardLight(m.kind)
		for _, period := range append(numbersBeyond(0, 600), 601, 3, 1) {
			c := usual
			c.Period = period
			checkNeverAllowed(t, c)
		}
		for _, colors := range []string{"", "w", "RW", "WW", "X", "WRGY", "W ", "B", m.colors + "B"} {
			c := usual
			c.Colors = colors
			checkNeverAllowed(t, c)
		}
		for _, kind := range []int64{0, -1, 9, math.MaxInt64, 256 + usual.Kind} {
			c := usual
			c.Kind = kind
			checkNeverAllowed(t, c)
		}
		c := usual
		c.Letter = "A"
		checkNeverAllowed(t, c)
		c = usual
		c.Group = append(slices.Clone(c.Group), 0)
		checkNeverAllowed(t, c)
	}
	checkNeverAllowed(t, impl.Character{Kind: impl.ChIso, Colors: "W", Period: 41})
	checkNeverAllowed(t, impl.Character{Kind: impl.ChFixed, Colors: "R", Letter: "A"})
	checkNeverAllowed(t, impl.Character{Kind: impl.ChFlash, Group: []int64{1}, Colors: "R", Period: 40})
	checkNeverAllowed(t, impl.Character{Kind: impl.ChFlash, Group: []int64{2}, Colors: "W", Period: 44})
	checkNeverAllowed(t, impl.Character{Kind: impl.ChMorse, Letter: "A", Colors: "W", Period: 54})
}

func TestP12QuadrantsMakeUpTheCircle(t *testing.T) {
	for bearing := range int64(360) {
		want := int64(impl.MkNorth)
		switch {
		case bearing >= 45 && bearing <= 134:
			want = impl.MkEast
		case bearing >= 135 && bearing <= 224:
			want = impl.MkSouth
		case bearing >= 225 && bearing <= 314:
			want = impl.MkWest
		}
		got, code := impl.QuadrantOf(bearing)
		checkNumber(t, fmt.Sprint("the quadrant of ", bearing), got, code, want)
	}
	for _, n := range append(numbersBeyond(0, 359), 361, 405, 719, 720, -45, -359, -360, 1<<32, 1<<32+90) {
		got, code := impl.QuadrantOf(n)
		checkNoNumber(t, fmt.Sprint("quadrant of ", n), got, code, impl.ErrRange)
	}
}

// kindAnswers prints the results of the functions of chapter 11 that take a number.
func kindAnswers(kind int64) string {
	standard, one := impl.StandardMark(kind)
	usual, two := impl.StandardLight(kind)
	quadrant, three := impl.QuadrantOf(kind)
	return fmt.Sprint(impl.MarkName(kind), standard, one, characterPrint(usual), two, impl.SideToPass(kind), quadrant, three)
}

// lookAnswers prints the results of the functions of chapter 11 that take a mark or its parts.
func lookAnswers(m impl.Mark) string {
	text := impl.MarkText(m)
	read, ok := impl.ReadMark(text)
	return fmt.Sprint(impl.ValidMark(m), impl.KindsLike(m.Colors, m.Shape, m.Topmark), text, read, ok)
}

func TestP1MarksHaveEqualResults(t *testing.T) {
	numbers := append(extremeNumbers(), 2, 3, 4, 5, 6, 7, 8, 9, 10, 40, 50, 100, 359, 360)
	checkEqualResults(t, numbers, func(a, b, c int64) string {
		character := impl.Character{Kind: b, Group: []int64{2}, Colors: "W", Period: c}
		return kindAnswers(a) + lookAnswers(mark(a, "R", "can", "")) + fmt.Sprint(impl.RhythmFits(a, character))
	})
	for m, text := range textsOfMarks() {
		check(t, "the second results for "+text, lookAnswers(m), lookAnswers(m))
	}
	checkEqualReadings(t, func(s string) string {
		kind, isName := impl.MarkNamed(s)
		m, isMark := impl.ReadMark(s)
		return fmt.Sprint(kind, isName, m, isMark, lookAnswers(mark(1, s, "can", "can")), lookAnswers(mark(1, "R", s, "")), lookAnswers(mark(0, "", "", s)))
	}, "none", "north", "North", "north BY pillar up", "left R spar -", "left R spar", "R", "can")
}

func TestP1MarksDoNotDisturbEachOther(t *testing.T) {
	checkUndisturbed(t, func(n int64) string {
		m, _ := impl.StandardMark(1 + n%9)
		c, _ := impl.StandardLight(1 + n%9)
		return kindAnswers(n) + lookAnswers(m) + lookAnswers(mark(n, m.Colors, "spar", "")) + fmt.Sprint(impl.RhythmFits(n, c))
	})
}

func TestP1GroupsOfMarksAreNotModified(t *testing.T) {
	for _, m := range fewRhythms() {
		memory := append(slices.Clone(m.group), 7, -7, 7)
		before := slices.Clone(memory)
		c := m.character("W", m.least)
		c.Group = memory[:len(m.group)]
		for kind := int64(-1); kind <= 10; kind++ {
			impl.RhythmFits(kind, c)
			c.Period++
			impl.RhythmFits(kind, c)
			c.Period--
		}
		check(t, "whether the group of "+m.text+" remains as it is", slices.Equal(memory, before), true)
	}
}

func TestP1ResultsOfMarksShareNoMemory(t *testing.T) {
	for _, m := range markModels() {
		one, _ := impl.StandardLight(m.kind)
		two, _ := impl.StandardLight(m.kind)
		clear(one.Group[:cap(one.Group)])
		three, _ := impl.StandardLight(m.kind)
		check(t, "another light after a change of that of "+m.name, impl.CharacterText(two), m.light)
		check(t, "the light after a change of that of "+m.name, impl.CharacterText(three), m.light)
		check(t, "whether it is allowed after a change of that of "+m.name, impl.RhythmFits(m.kind, two), true)
		kinds, others := impl.KindsLike(m.colors, "", ""), impl.KindsLike(m.colors, "", "")
		clear(kinds[:cap(kinds)])
		check(t, "the kinds after a change of those of "+m.colors, fmt.Sprint(others, impl.KindsLike(m.colors, "", "")), fmt.Sprint([]int64{m.kind}, []int64{m.kind}))
	}
}
