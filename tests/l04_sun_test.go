package tests

import (
	"fmt"
	"math"
	"testing"

	"loop.example/g00953/impl"
)

// sineOf returns the sine of whole degrees in millionths.
func sineOf(degrees int64) int64 {
	return int64(math.Round(1000000 * math.Sin(float64(degrees)*math.Pi/180)))
}

func cosineOf(degrees int64) int64 {
	return sineOf(degrees + 90)
}

// sineOfTenths rounds the degrees down, also below 0.
func sineOfTenths(tenths int64) int64 {
	degrees := int64(math.Floor(float64(tenths) / 10))
	return sineOf(degrees) + roundedQuotient((sineOf(degrees+1)-sineOf(degrees))*(tenths-10*degrees), 10)
}

func declinationOf(day int64) int64 {
	n := int64(timeOf(2000, 1, 1+day).YearDay())
	return -roundedQuotient(234*cosineOf(roundedQuotient(360*(n+10), 365)), 1000000)
}

// sunSineOf follows the formula of the document.
func sunSineOf(latitude, day, minute int64) int64 {
	declination := declinationOf(day)
	s, c := sineOfTenths(declination), sineOfTenths(900-max(declination, -declination))
	m := max(minute-720, 720-minute)
	q, r := m/4, m%4
	h := cosineOf(q) + roundedQuotient((cosineOf(q+1)-cosineOf(q))*r, 4)
	return roundedQuotient(sineOf(latitude)*s, 1000000) + roundedQuotient(roundedQuotient(cosineOf(latitude)*c, 1000000)*h, 1000000)
}

func sampleLatitudes() []int64 {
	return []int64{-66, -65, -50, -23, -1, 0, 1, 30, 54, 60, 65, 66}
}

// sampleDays are the beginnings of all months, the days of the solstices and of the equinoxes, and the ends of a leap year.
func sampleDays() []int64 {
	list := []int64{58, 59, 60, 79, 80, 81, 171, 172, 173, 265, 266, 267, 354, 355, 356, 365, 366, 9816, 36583, impl.MaxDay}
	for month := int64(1); month <= 12; month++ {
		list = append(list, dayOfTime(timeOf(2026, month, 1)))
	}
	return list
}

// countsOfDay looks at all minutes of a day. It returns the first minute of
// daylight and the first one after it, and how many are dark.
func countsOfDay(latitude, day int64) [3]int64 {
	rise, set, dark := int64(-1), int64(1440), int64(0)
	for minute := range int64(1440) {
		kind, _ := impl.LightKind(latitude, day, minute)
		switch {
		case kind == impl.LkDay && rise < 0:
			rise = minute
		case kind != impl.LkDay && rise >= 0 && set == 1440:
			set = minute
		}
		if kind != impl.LkDay {
			dark++
		}
	}
	return [3]int64{rise, set, dark}
}

func TestP5Constants(t *testing.T) {
	got := []int64{impl.MaxLatitude, impl.DayEdge, impl.TwilightEdge, impl.LkDay, impl.LkTwilight, impl.LkNight, impl.MaxSeason}
	check(t, "the constants", fmt.Sprint(got), "[66 -14000 -104528 1 2 3 400]")
}

func TestP5SinesOfTenths(t *testing.T) {
	for tenths := int64(-36000); tenths <= 36000; tenths++ {
		check(t, fmt.Sprint("SineTenths ", tenths), impl.SineTenths(tenths), sineOfTenths(tenths))
	}
	for tenths, want := range map[int64]int64{0: 0, 1: 1745, -1: -1745, 5: 8726, -5: -8726, 10: 17452, 15: 26176, -15: -26175, 300: 500000, -300: -500000,
		305: 507519, 899: 999985, 900: 1000000, 905: 999924, 1800: 0, 1805: -8726, 2700: -1000000, 3600: 0, 36000: 0, -36000: 0, 35999: -1745, -35999: 1745} {
		check(t, fmt.Sprint("SineTenths ", tenths), impl.SineTenths(tenths), want)
	}
	for _, n := range numbersBeyond(-36000, 36000) {
		check(t, fmt.Sprint("SineTenths ", n), impl.SineTenths(n), 0)
	}
}

func TestP5DeclinationsOfAllDays(t *testing.T) {
	for _, day := range samplePeriods() {
		got, code := impl.DeclinationOf(day)
		check(t, "the declination on "+impl.DateText(day), [2]int64{got, code}, [2]int64{declinationOf(day), impl.OK})
	}
	for day, want := range map[int64]int64{0: -230, 59: -84, 60: -80, 79: -4, 80: 0, 172: 234, 173: 234, 266: -12, 355: -234, 365: -230, 366: -230} {
		got, code := impl.DeclinationOf(day)
		check(t, fmt.Sprint("the declination on the day ", day), [2]int64{got, code}, [2]int64{want, impl.OK})
	}
	for _, n := range numbersBeyond(0, impl.MaxDay) {
		got, code := impl.DeclinationOf(n)
		check(t, fmt.Sprint("DeclinationOf ", n), [2]int64{got, code}, [2]int64{0, impl.ErrRange})
	}
}

func TestP5TheSunFollowsTheFormula(t *testing.T) {
	for _, latitude := range sampleLatitudes() {
		for _, day := range []int64{0, 80, 172, 266, 355, 365, 9816, impl.MaxDay} {
			for minute := int64(day % 3); minute < 1440; minute += 7 {
				got, code := impl.SunSine(latitude, day, minute)
				what := fmt.Sprint("SunSine ", latitude, day, minute)
				check(t, what, [2]int64{got, code}, [2]int64{sunSineOf(latitude, day, minute), impl.OK})
			}
		}
	}
	for day := range int64(366) {
		for _, minute := range []int64{0, 361, 718, 1438} {
			got, _ := impl.SunSine(1, day, minute)
			check(t, fmt.Sprint("SunSine near the equator ", day, minute), got, sunSineOf(1, day, minute))
		}
	}
	for _, c := range [][4]int64{
		{50, 0, 0, -891007}, {50, 0, 400, -196571}, {50, 0, 720, 292373}, {50, 0, 1439, -890985}, {50, 172, 0, -285679}, {50, 172, 400, 406656}, {50, 172, 720, 894121},
		{0, 0, 400, 159844}, {-50, 0, 1439, -292351}, {66, 172, 0, -10472}, {66, 172, 1439, -10458}, {-66, 172, 720, 10472}, {-35, 9816, 720, 962194},
	} {
		got, _ := impl.SunSine(c[0], c[1], c[2])
		check(t, fmt.Sprint("SunSine ", c[:3]), got, c[3])
	}
}

func TestP5TheSunIsHighestAtNoon(t *testing.T) {
	for _, latitude := range sampleLatitudes() {
		for _, day := range sampleDays() {
			before, _ := impl.SunSine(latitude, day, 0)
			for minute := int64(1); minute < 1440; minute++ {
				sine, _ := impl.SunSine(latitude, day, minute)
				if minute <= 720 && sine < before || minute > 720 && sine > before {
					t.Errorf("at the latitude %d on the day %d the sun turns at the minute %d", latitude, day, minute)
				}
				if minute > 720 {
					other, _ := impl.SunSine(latitude, day, 1440-minute)
					check(t, fmt.Sprint("the sun before and after noon ", latitude, day, minute), sine, other)
				}
				before = sine
			}
		}
	}
}

func TestP5KindsOfLightHaveEdges(t *testing.T) {
	for _, c := range []struct{ latitude, day, minute, sine, kind int64 }{
		{50, 172, 720, 894121, impl.LkDay},
		{-65, 110, 453, -14000, impl.LkDay},
		{38, 279, 376, -14000, impl.LkDay},
		{2, 112, 355, -14001, impl.LkTwilight},
		{-58, 59, 299, -14001, impl.LkTwilight},
		{-50, 92, 346, -104528, impl.LkTwilight},
		{0, 80, 336, -104528, impl.LkTwilight},
		{-53, 160, 448, -104529, impl.LkNight},
		{1, 25, 336, -104529, impl.LkNight},
		{50, 0, 0, -891007, impl.LkNight},
	} {
		sine, code := impl.SunSine(c.latitude, c.day, c.minute)
		check(t, fmt.Sprint("the sun at the edge ", c), [2]int64{sine, code}, [2]int64{c.sine, impl.OK})
		kind, code := impl.LightKind(c.latitude, c.day, c.minute)
		check(t, fmt.Sprint("the kind at the edge ", c), [2]int64{kind, code}, [2]int64{c.kind, impl.OK})
	}
	for kind, name := range map[int64]string{impl.LkDay: "day", impl.LkTwilight: "twilight", impl.LkNight: "night", 0: "", 4: "", -1: "", math.MinInt64: "", math.MaxInt64: ""} {
		check(t, fmt.Sprint("LightName ", kind), impl.LightName(kind), name)
	}
}

func TestP5KindsOfLightFollowTheSun(t *testing.T) {
	for _, latitude := range sampleLatitudes() {
		for _, day := range sampleDays() {
			for minute := range int64(1440) {
				sine, _ := impl.SunSine(latitude, day, minute)
				want := int64(impl.LkNight)
				if sine >= impl.TwilightEdge {
					want = impl.LkTwilight
				}
				if sine >= impl.DayEdge {
					want = impl.LkDay
				}
				kind, code := impl.LightKind(latitude, day, minute)
				check(t, fmt.Sprint("LightKind ", latitude, day, minute), [2]int64{kind, code}, [2]int64{want, impl.OK})
			}
		}
	}
}

func TestP5TheSunRisesAndSetsOnceADay(t *testing.T) {
	for _, latitude := range sampleLatitudes() {
		for _, day := range sampleDays() {
			what := fmt.Sprint(" at the latitude ", latitude, " on ", impl.DateText(day))
			want := countsOfDay(latitude, day)
			rise, code := impl.Sunrise(latitude, day)
			check(t, "the sunrise"+what, [2]int64{rise, code}, [2]int64{want[0], impl.OK})
			set, code := impl.Sunset(latitude, day)
			check(t, "the sunset"+what, [2]int64{set, code}, [2]int64{want[1], impl.OK})
			dark, code := impl.DarkMinutes(latitude, day)
			check(t, "the dark minutes"+what, [2]int64{dark, code}, [2]int64{want[2], impl.OK})
			check(t, "day and night"+what, set-rise+dark, 1440)
			if dark > 0 {
				check(t, "the middle of the day"+what, rise+set, 1441)
			}
		}
	}
}

func TestP5SunriseAndSunset(t *testing.T) {
	for _, c := range []struct{ latitude, day, rise, set, dark int64 }{
		{50, 0, 476, 965, 951},
		{50, 172, 230, 1211, 459},
		{50, 80, 356, 1085, 711},
		{0, 0, 357, 1084, 713},
		{-50, 0, 233, 1208, 465},
		{54, 9816, 469, 972, 937},
		{-35, 9816, 300, 1141, 599},
		{65, 172, 62, 1379, 123},
		// The sun is just at the edge when it rises.
		{-65, 110, 453, 988, 905},
		{38, 279, 376, 1065, 751},
		// The shortest days have a sunrise, and on the longest ones the sun does not set.
		{66, 355, 637, 804, 1273},
		{-66, 172, 637, 804, 1273},
		{66, 172, 0, 1440, 0},
		{-66, 355, 0, 1440, 0},
	} {
		rise, riseCode := impl.Sunrise(c.latitude, c.day)
		set, setCode := impl.Sunset(c.latitude, c.day)
		dark, darkCode := impl.DarkMinutes(c.latitude, c.day)
		what := fmt.Sprint("the day ", c.day, " at the latitude ", c.latitude)
		check(t, what, [3]int64{rise, set, dark}, [3]int64{c.rise, c.set, c.dark})
		check(t, "the codes of "+what, [3]int64{riseCode, setCode, darkCode}, [3]int64{impl.OK, impl.OK, impl.OK})
	}
}

func TestP5DaysWithoutSunset(t *testing.T) {
	for _, c := range []struct{ latitude, winter, summer int64 }{{66, 355, 172}, {-66, 172, 355}} {
		days := 0
		for day := range int64(366) {
			rise, code := impl.Sunrise(c.latitude, day)
			check(t, fmt.Sprint("there is a sunrise on the day ", day), code, impl.OK)
			set, _ := impl.Sunset(c.latitude, day)
			if dark, _ := impl.DarkMinutes(c.latitude, day); dark == 0 {
				days++
				check(t, fmt.Sprint("the daylight of the day ", day), [2]int64{rise, set}, [2]int64{0, 1440})
			}
		}
		if days == 0 || days > 60 {
			t.Errorf("%d days without sunset at the latitude %d", days, c.latitude)
		}
		summer, _ := impl.DarkMinutes(c.latitude, c.summer)
		winter, _ := impl.DarkMinutes(c.latitude, c.winter)
		check(t, "the dark minutes of summer and winter", [2]int64{summer, winter}, [2]int64{0, 1273})
	}
}

func TestP5NightsOnTheEquatorAreShorter(t *testing.T) {
	for _, day := range samplePeriods() {
		if dark, code := impl.DarkMinutes(0, day); code != impl.OK || dark <= 0 || dark >= 720 {
			t.Errorf("%d dark minutes on the equator on the day %d", dark, day)
		}
	}
}

// seasonOf returns the first day with the most dark minutes, this number, and the sum.
func seasonOf(latitude, from, count int64) [3]int64 {
	result := [3]int64{-1, -1, 0}
	for day := from; day < from+count; day++ {
		dark, _ := impl.DarkMinutes(latitude, day)
		if dark > result[1] {
			result[0], result[1] = day, dark
		}
		result[2] += dark
	}
	return result
}

func TestP5SeasonsAddUpTheirDays(t *testing.T) {
	for _, latitude := range sampleLatitudes() {
		for _, from := range []int64{0, 100, 150, 165, 172, 330, 9816, impl.MaxDay - 399} {
			for _, count := range []int64{1, 2, 14, 100, 366, 399, 400} {
				want := seasonOf(latitude, from, count)
				what := fmt.Sprint(" of ", count, " days from ", from, " at the latitude ", latitude)
				day, most, code := impl.LongestDark(latitude, from, count)
				check(t, "the longest night"+what, [3]int64{day, most, code}, [3]int64{want[0], want[1], impl.OK})
				sum, code := impl.DarkSum(latitude, from, count)
				check(t, "the dark minutes"+what, [2]int64{sum, code}, [2]int64{want[2], impl.OK})
			}
		}
	}
}

func TestP5TheFirstLongestNight(t *testing.T) {
	for _, c := range []struct{ latitude, from, count, day, most int64 }{
		// Without any dark minute the first day is the one.
		{66, 172, 1, 172, 0},
		{66, 165, 14, 165, 0},
		{-66, 350, 10, 350, 0},
		{66, 160, 20, 160, 63},
		// Several nights before and after the solstice are equally long.
		{66, 340, 30, 351, 1273},
		{66, 352, 5, 352, 1273},
		{66, 0, 400, 351, 1273},
		{50, 0, 1, 0, 951},
		{50, impl.MaxDay, 1, impl.MaxDay, 801},
	} {
		day, most, code := impl.LongestDark(c.latitude, c.from, c.count)
		check(t, fmt.Sprint("LongestDark ", c), [3]int64{day, most, code}, [3]int64{c.day, c.most, impl.OK})
	}
}

func TestP5SeasonsHaveLimits(t *testing.T) {
	for _, c := range []struct{ latitude, from, count, code int64 }{
		{0, 0, 1, impl.OK},
		{0, 0, 400, impl.OK},
		{0, impl.MaxDay, 1, impl.OK},
		{0, impl.MaxDay - 399, 400, impl.OK},
		{66, 5, 5, impl.OK},
		{-66, 5, 5, impl.OK},
		{0, 0, 0, impl.ErrRange},
		{0, 0, -1, impl.ErrRange},
		{0, 0, 401, impl.ErrRange},
		{0, 0, math.MaxInt64, impl.ErrRange},
		{0, 0, math.MinInt64, impl.ErrRange},
		{0, -1, 1, impl.ErrRange},
		{0, -1, 2, impl.ErrRange},
		{0, -400, 400, impl.ErrRange},
		{0, impl.MaxDay, 2, impl.ErrRange},
		{0, impl.MaxDay - 398, 400, impl.ErrRange},
		{0, impl.MaxDay + 1, 1, impl.ErrRange},
		{0, math.MinInt64, 400, impl.ErrRange},
		{0, math.MaxInt64, 1, impl.ErrRange},
		{0, math.MaxInt64, 400, impl.ErrRange},
		{67, 5, 5, impl.ErrRange},
		{-67, 5, 5, impl.ErrRange},
		{math.MinInt64, 5, 5, impl.ErrRange},
		{math.MaxInt64, 5, 5, impl.ErrRange},
	} {
		day, most, code := impl.LongestDark(c.latitude, c.from, c.count)
		check(t, fmt.Sprint("the code of LongestDark ", c), code, c.code)
		sum, sumCode := impl.DarkSum(c.latitude, c.from, c.count)
		check(t, fmt.Sprint("the code of DarkSum ", c), sumCode, c.code)
		if c.code != impl.OK {
			check(t, fmt.Sprint("the results ", c), [3]int64{day, most, sum}, [3]int64{})
		}
	}
}

func TestP5LatitudesDaysAndMinutesHaveLimits(t *testing.T) {
	checkRange := func(latitude, day, minute, want int64) {
		t.Helper()
		sine, code := impl.SunSine(latitude, day, minute)
		check(t, fmt.Sprint("SunSine ", latitude, day, minute), [2]bool{code == want, sine == 0}, [2]bool{true, want != impl.OK})
		kind, code := impl.LightKind(latitude, day, minute)
		check(t, fmt.Sprint("LightKind ", latitude, day, minute), [2]bool{code == want, kind == 0}, [2]bool{true, want != impl.OK})
	}
	for _, c := range [][3]int64{{66, 5, 0}, {-66, 5, 0}, {5, 0, 0}, {5, impl.MaxDay, 0}, {5, 5, 0}, {5, 5, 1439}} {
		checkRange(c[0], c[1], c[2], impl.OK)
	}
	for _, n := range numbersBeyond(-66, 66) {
		checkRange(n, 5, 600, impl.ErrRange)
		checkDayRange(t, n, 5)
	}
	for _, n := range numbersBeyond(0, impl.MaxDay) {
		checkRange(5, n, 600, impl.ErrRange)
		checkDayRange(t, 5, n)
	}
	for _, n := range numbersBeyond(0, 1439) {
		checkRange(5, 5, n, impl.ErrRange)
	}
}

// checkDayRange asks for the sun of a day that is not one, or at a latitude that is not one.
func checkDayRange(t *testing.T, latitude, day int64) {
	t.Helper()
	rise, riseCode := impl.Sunrise(latitude, day)
	set, setCode := impl.Sunset(latitude, day)
	dark, darkCode := impl.DarkMinutes(latitude, day)
	what := fmt.Sprint("the day ", day, " at the latitude ", latitude)
	check(t, what, [3]int64{rise, set, dark}, [3]int64{})
	check(t, "the codes of "+what, [3]int64{riseCode, setCode, darkCode}, [3]int64{impl.ErrRange, impl.ErrRange, impl.ErrRange})
}

// sunAnswers prints the results of all functions of chapter 4 for some numbers.
func sunAnswers(a, b, c int64) string {
	declination, declinationCode := impl.DeclinationOf(b)
	sine, sineCode := impl.SunSine(a, b, c)
	kind, kindCode := impl.LightKind(a, b, c)
	rise, riseCode := impl.Sunrise(a, b)
	set, setCode := impl.Sunset(a, b)
	dark, darkCode := impl.DarkMinutes(a, b)
	day, most, longestCode := impl.LongestDark(a, b, c)
	sum, sumCode := impl.DarkSum(a, b, c)
	return fmt.Sprint(impl.SineTenths(a), declination, declinationCode, sine, sineCode, kind, kindCode, impl.LightName(a),
		rise, riseCode, set, setCode, dark, darkCode, day, most, longestCode, sum, sumCode)
}

func TestP1TheSunHasEqualResults(t *testing.T) {
	checkEqualResults(t, append(extremeNumbers(), 5, -66, 66, 67, 172, 400, 401, 1439, 1440, 36000, 36001, impl.MaxDay, impl.MaxDay+1), sunAnswers)
}

func TestP1TheSunDoesNotDisturbItself(t *testing.T) {
	checkUndisturbed(t, func(n int64) string { return sunAnswers(10*n, 172, 300) })
}
