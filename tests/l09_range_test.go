package tests

import (
	"fmt"
	"math"
	"math/big"
	"math/rand/v2"
	"slices"
	"sync"
	"testing"

	"loop.example/g00953/impl"
)

// logModel follows the text of the document with numbers of any size.
func logModel(n int64) int64 {
	ten, unit := big.NewInt(10), big.NewInt(100000000)
	r := int64(len(big.NewInt(n).String()) - 1)
	x := new(big.Int).Mul(big.NewInt(n), unit)
	x.Quo(x, new(big.Int).Exp(ten, big.NewInt(r), nil))
	for range 3 {
		y, d := new(big.Int).Set(unit), int64(0)
		for range 10 {
			y.Mul(y, x).Quo(y, unit)
			if y.Cmp(big.NewInt(1000000000)) >= 0 {
				y.Quo(y, ten)
				d++
			}
		}
		r, x = 10*r+d, y
	}
	return r
}

// distanceLogs has the logarithms of all distances, and of the one behind the last.
var distanceLogs = sync.OnceValue(func() []int64 {
	logs := make([]int64, impl.MaxRange+2)
	for d := range int64(impl.MaxRange + 1) {
		logs[d+1] = logModel(d + 1)
	}
	return logs
})

func enoughModel(intensity, distance, visibility int64) bool {
	return logModel(intensity)+6699-1301*distance/visibility >= 2*distanceLogs()[distance]
}

func horizonModel(height int64) int64 {
	n := big.NewInt(height)
	return n.Sqrt(n.Mul(n, big.NewInt(1483790))).Int64()
}

// sampleNumbers are the limits, the numbers near some others, and some drawn by lot, the same ones in each run.
func sampleNumbers(low, high int64, count int, others ...int64) []int64 {
	lot := rand.New(rand.NewPCG(uint64(low), uint64(high)))
	list := []int64{low, low + 1, low + 2, high - 1, high}
	for _, n := range others {
		list = append(list, n-1, n, n+1)
	}
	for i := range count {
		// Small numbers are as frequent as great ones.
		limit := max(1, high>>(i%40))
		list = append(list, low+lot.Int64N(min(limit, high-low+1)))
	}
	list = slices.DeleteFunc(list, func(n int64) bool { return n < low || n > high })
	slices.Sort(list)
	return slices.Compact(list)
}

func sampleIntensities() []int64 {
	return sampleNumbers(1, impl.MaxIntensity, 60, 10, 100, 998, 1000, 39995, 100000, 1000000, 10000000, 43351088)
}

func sampleVisibilities() []int64 {
	return sampleNumbers(1, impl.MaxVisibility, 30, 10, 100, 1000, 1852, 18520, 27681)
}

func sampleDistances() []int64 {
	return sampleNumbers(1, impl.MaxRange, 60, 4, 9, 10, 100, 1000, 1918, 17378, 50000)
}

func sampleHeights() []int64 {
	return sampleNumbers(0, impl.MaxHeight, 20, 10, 100, 400, 746, 1000, 2000)
}

// numbersNearSteps are numbers just before, at and behind the powers of ten with exponents in thousandths.
func numbersNearSteps() []int64 {
	list := []int64{}
	for step := 1; step <= 12000; step += 7 {
		n := int64(math.Ceil(math.Pow(10, float64(step)/1000)))
		for d := int64(-2); d <= 2; d++ {
			if n+d >= 1 && n+d <= impl.MaxValue {
				list = append(list, n+d)
			}
		}
	}
	return list
}

func checkNumber(t *testing.T, what string, got, code, want int64) {
	t.Helper()
	check(t, what, [2]int64{got, code}, [2]int64{want, impl.OK})
}

func checkNoNumber(t *testing.T, what string, got, code, want int64) {
	t.Helper()
	check(t, "no "+what, [2]int64{got, code}, [2]int64{0, want})
}

func TestP10Constants(t *testing.T) {
	got := []int64{impl.MaxHeight, impl.MaxIntensity, impl.MaxVisibility, impl.MaxRange, impl.NominalAir}
	check(t, "the constants", fmt.Sprint(got), "[3000 100000000 100000 100000 18520]")
}

func TestP10LogarithmsFollowTheDocument(t *testing.T) {
	for n, want := range distanceLogs()[:impl.MaxRange+1] {
		if n > 0 {
			got, code := impl.TenLog(int64(n))
			checkNumber(t, fmt.Sprint("TenLog ", n), got, code, want)
		}
	}
	for _, n := range append(sampleNumbers(1, impl.MaxValue, 4000, 1000000, 100000000, 1000000000, 10000000000, 100000000000), numbersNearSteps()...) {
		got, code := impl.TenLog(n)
		checkNumber(t, fmt.Sprint("TenLog ", n), got, code, logModel(n))
	}
}

func TestP10Logarithms(t *testing.T) {
	for n, want := range map[int64]int64{
		1: 0, 2: 301, 3: 477, 4: 602, 5: 698, 7: 845, 8: 903, 9: 954, 10: 1000, 11: 1041, 16: 1204, 20: 1301, 64: 1806, 99: 1995, 100: 2000, 128: 2107, 500: 2698, 512: 2709,
		999: 2999, 1000: 3000, 1001: 3000, 1024: 3010, 3162: 3499, 3163: 3500, 31622: 4499, 31623: 4500, 99999: 4999, 100000: 5000, 123456789: 8091,
		99999999: 7999, 100000000: 8000, 999999999: 8999, 1000000000: 9000, 1234567891: 9091, 99999999999: 10999, 100000000000: 11000, 999999999999: 11999, impl.MaxValue: 12000,
		// What is rounded down on the way makes these less by one than the logarithms are.
		510505: 5707, 1733804: 6238, 2529298: 6402, 10280163: 7011, 100230524: 8000, 1002305239: 9000, 10023052381: 10000, 100230523808: 11000, 316227766017: 11499,
	} {
		got, code := impl.TenLog(n)
		checkNumber(t, fmt.Sprint("TenLog ", n), got, code, want)
	}
}

func TestP10LogarithmsNeverDecrease(t *testing.T) {
	before := int64(-1)
	numbers := append(sampleNumbers(1, impl.MaxValue, 4000), numbersNearSteps()...)
	slices.Sort(numbers)
	for _, n := range numbers {
		log, _ := impl.TenLog(n)
		if exact := 1000 * math.Log10(float64(n)); log < before || float64(log) > exact+0.0001 || float64(log) < exact-1.0001 {
			t.Errorf("TenLog %d is %d, after %d for a lesser number", n, log, before)
		}
		before = log
		if n <= impl.MaxValue/10 {
			longer, _ := impl.TenLog(10 * n)
			check(t, fmt.Sprint("TenLog of 10 times ", n, " is greater by 1000, or less by what is rounded"), longer == log+1000 || n >= 100000000 && longer >= log+999, true)
		}
	}
}

func TestP10OtherNumbersHaveNoLogarithm(t *testing.T) {
	for _, n := range append(numbersBeyond(1, impl.MaxValue), -1, -10, -impl.MaxValue) {
		got, code := impl.TenLog(n)
		checkNoNumber(t, fmt.Sprint("TenLog ", n), got, code, impl.ErrRange)
	}
}

func TestP10HigherPlacesHaveFartherHorizons(t *testing.T) {
	before := int64(-1)
	for height := range int64(impl.MaxHeight + 1) {
		got, code := impl.HorizonOf(height)
		checkNumber(t, fmt.Sprint("HorizonOf ", height), got, code, horizonModel(height))
		check(t, fmt.Sprint("the horizon of ", height, " is farther"), got > before, true)
		before = got
	}
	for height, want := range map[int64]int64{0: 0, 1: 1218, 2: 1722, 3: 2109, 10: 3851, 50: 8613, 99: 12120, 100: 12181, 101: 12241, 400: 24362, 1000: 38519, 2999: 66707, 3000: 66718} {
		got, code := impl.HorizonOf(height)
		checkNumber(t, fmt.Sprint("HorizonOf ", height), got, code, want)
	}
}

func TestP10HigherLightsCarryFarther(t *testing.T) {
	for _, height := range sampleHeights() {
		before := int64(-1)
		for _, eye := range sampleHeights() {
			what := fmt.Sprint("GeoRange ", height, eye)
			got, code := impl.GeoRange(height, eye)
			checkNumber(t, what, got, code, horizonModel(height)+horizonModel(eye))
			other, code := impl.GeoRange(eye, height)
			checkNumber(t, what+" from the other end", other, code, got)
			check(t, what+" is farther", got > before, true)
			before = got
		}
	}
	for _, c := range [][3]int64{{0, 0, 0}, {0, 1, 1218}, {1, 0, 1218}, {100, 0, 12181}, {100, 50, 20794}, {3000, 3000, 133436}} {
		got, code := impl.GeoRange(c[0], c[1])
		checkNumber(t, fmt.Sprint("GeoRange ", c[:2]), got, code, c[2])
	}
}

// checkEye looks for the eye from below.
func checkEye(t *testing.T, height, distance int64) {
	t.Helper()
	what := fmt.Sprint("EyeFor ", height, distance)
	got, code := impl.EyeFor(height, distance)
	for eye := range int64(impl.MaxHeight + 1) {
		if reach, _ := impl.GeoRange(height, eye); reach >= distance {
			checkNumber(t, what, got, code, eye)
			return
		}
	}
	checkNoNumber(t, what, got, code, impl.ErrNotFound)
}

func TestP10EyesAreJustHighEnough(t *testing.T) {
	for _, height := range sampleHeights() {
		for _, distance := range sampleDistances() {
			checkEye(t, height, distance)
		}
		for _, eye := range []int64{0, 1, 2, 100, 1500, 2999, 3000} {
			// These distances have a horizon at just that height, or at none.
			reach, _ := impl.GeoRange(height, eye)
			for d := max(1, reach-1); d <= min(impl.MaxRange, reach+1); d++ {
				checkEye(t, height, d)
			}
		}
	}
	for _, c := range [][3]int64{{0, 1, 1}, {0, 1218, 1}, {0, 1219, 2}, {100, 1, 0}, {100, 12181, 0}, {100, 12182, 1}, {100, 13399, 1}, {100, 13400, 2},
		{400, 30000, 22}, {0, 66718, 3000}, {100, 78899, 3000}, {746, 99987, 3000}, {747, 100000, 3000}, {748, 100000, 2998}, {3000, 100000, 747}, {3000, 66718, 0}} {
		got, code := impl.EyeFor(c[0], c[1])
		checkNumber(t, fmt.Sprint("EyeFor ", c[:2]), got, code, c[2])
	}
	for _, c := range [][2]int64{{0, 66719}, {0, 100000}, {100, 78900}, {745, 100000}, {746, 99989}} {
		got, code := impl.EyeFor(c[0], c[1])
		checkNoNumber(t, fmt.Sprint("EyeFor ", c), got, code, impl.ErrNotFound)
	}
}

func TestP10LuminousRangesAreTheGreatestOnes(t *testing.T) {
	for _, intensity := range []int64{1, 5, 1000, 39994, 39995, 1000000, impl.MaxIntensity} {
		for _, visibility := range []int64{1, 2, 77, 1852, 18520, 27680, 27681, 50000, impl.MaxVisibility} {
			greatest := int64(0)
			logOfIntensity := logModel(intensity)
			for d := int64(1); d <= impl.MaxRange; d++ {
				if logOfIntensity+6699-1301*d/visibility >= 2*distanceLogs()[d] {
					greatest = d
				}
			}
			got, code := impl.LuminousRange(intensity, visibility)
			checkNumber(t, fmt.Sprint("LuminousRange ", intensity, visibility), got, code, greatest)
		}
	}
	for _, c := range [][3]int64{{1, 1, 4}, {1, 2, 7}, {2, 1, 4}, {10, 10, 35}, {1000, 1, 6}, {100, 1000, 1715}, {50000, 1000, 3343}, {1, 100000, 2167}, {1, 18520, 1918}, {1000, 18520, 17378},
		{1000000, 18520, 47630}, {100000000, 1, 9}, {100000000, 100, 693}, {100000000, 18520, 71121}, {100000000, 27680, 99999}, {100000000, 27681, 100000}, {39994, 100000, 99999}, {39995, 100000, 100000}, {100000000, 100000, 100000}} {
		got, code := impl.LuminousRange(c[0], c[1])
		checkNumber(t, fmt.Sprint("LuminousRange ", c[:2]), got, code, c[2])
	}
}

func TestP10BrighterLightsCarryFarther(t *testing.T) {
	before := map[int64]int64{}
	for _, intensity := range sampleIntensities() {
		inLessVisibility := int64(0)
		for _, visibility := range sampleVisibilities() {
			what := fmt.Sprint("LuminousRange ", intensity, visibility)
			got, code := impl.LuminousRange(intensity, visibility)
			check(t, "the code of "+what, code, impl.OK)
			check(t, what+" is a range", got >= 1 && got <= impl.MaxRange, true)
			check(t, what+" is not less than that of a light that is not brighter", got >= before[visibility], true)
			check(t, what+" is not less than in less visibility", got >= inLessVisibility, true)
			check(t, what+" can be reached", enoughModel(intensity, got, visibility), true)
			if got < impl.MaxRange {
				check(t, what+" can not be exceeded", enoughModel(intensity, got+1, visibility), false)
			}
			before[visibility], inLessVisibility = got, got
		}
	}
	for _, visibility := range sampleVisibilities() {
		dim, _ := impl.LuminousRange(1, visibility)
		bright, _ := impl.LuminousRange(impl.MaxIntensity, visibility)
		check(t, fmt.Sprint("the brightest light carries farther than the least one in ", visibility), bright > dim, true)
	}
}

func TestP10NominalRangesAreThoseInUsualAir(t *testing.T) {
	for _, intensity := range sampleIntensities() {
		want, _ := impl.LuminousRange(intensity, 18520)
		got, code := impl.NominalRange(intensity)
		checkNumber(t, fmt.Sprint("NominalRange ", intensity), got, code, want)
	}
	for intensity, want := range map[int64]int64{1: 1918, 10: 4808, 50: 8171, 100: 9993, 1000: 17378, 10000: 26424, 100000: 36641, 1000000: 47630, 10000000: 59161, 100000000: 71121} {
		got, code := impl.NominalRange(intensity)
		checkNumber(t, fmt.Sprint("NominalRange ", intensity), got, code, want)
	}
}

// carries reports whether an intensity is enough; LuminousRange must agree.
func carries(t *testing.T, intensity, distance, visibility int64) bool {
	t.Helper()
	enough := enoughModel(intensity, distance, visibility)
	reach, _ := impl.LuminousRange(intensity, visibility)
	check(t, fmt.Sprint("whether LuminousRange ", intensity, visibility, " is at least ", distance), reach >= distance, enough)
	return enough
}

// checkJustEnough asks whether a result is the least number up to a limit that is enough, if there is one.
func checkJustEnough(t *testing.T, what string, got, code, limit int64, isEnough func(n int64) bool) {
	t.Helper()
	if !isEnough(limit) {
		checkNoNumber(t, what, got, code, impl.ErrNotFound)
		return
	}
	check(t, "the code of "+what, code, impl.OK)
	check(t, what+" is enough", got >= 1 && got <= limit && isEnough(got), true)
	check(t, "less than "+what+" is enough", got > 1 && isEnough(got-1), false)
}

func TestP10IntensitiesAreJustEnough(t *testing.T) {
	for _, visibility := range sampleVisibilities() {
		most, _ := impl.LuminousRange(impl.MaxIntensity, visibility)
		for _, distance := range append(sampleDistances(), most, min(most+1, impl.MaxRange)) {
			got, code := impl.IntensityFor(distance, visibility)
			checkJustEnough(t, fmt.Sprint("IntensityFor ", distance, visibility), got, code, impl.MaxIntensity, func(n int64) bool {
				return carries(t, n, distance, visibility)
			})
		}
	}
	for _, c := range [][3]int64{{1, 1, 1}, {4, 1, 1}, {5, 1, 16}, {6, 1, 461}, {7, 1, 12532}, {8, 1, 327341}, {9, 1, 8279422}, {100, 50, 1}, {10000, 18520, 101}, {1000, 1000, 4}, {5000, 1000, 15922088},
		{17378, 18520, 998}, {17379, 18520, 1003}, {1852, 18520, 1}, {100000, 100000, 39995}, {100000, 30000, 43351088}, {1, 100000, 1}} {
		got, code := impl.IntensityFor(c[0], c[1])
		checkNumber(t, fmt.Sprint("IntensityFor ", c[:2]), got, code, c[2])
	}
	for _, c := range [][2]int64{{10, 1}, {6000, 1000}, {100000, 1}, {100000, 100}, {100000, 18520}, {100000, 27680}, {694, 100}} {
		got, code := impl.IntensityFor(c[0], c[1])
		checkNoNumber(t, fmt.Sprint("IntensityFor ", c), got, code, impl.ErrNotFound)
	}
}

func TestP10VisibilitiesAreJustEnough(t *testing.T) {
	for _, intensity := range sampleIntensities() {
		most, _ := impl.LuminousRange(intensity, impl.MaxVisibility)
		for _, distance := range append(sampleDistances(), most, min(most+1, impl.MaxRange)) {
			got, code := impl.VisibilityFor(intensity, distance)
			checkJustEnough(t, fmt.Sprint("VisibilityFor ", intensity, distance), got, code, impl.MaxVisibility, func(n int64) bool {
				return carries(t, intensity, distance, n)
			})
		}
	}
	for _, c := range [][3]int64{{1, 1, 1}, {1, 2, 1}, {1, 10, 3}, {1, 100, 49}, {1, 1000, 1859}, {1, 1918, 18348}, {1, 1919, 18632}, {1, 2000, 26552}, {1000, 5000, 2824}, {1000, 17378, 18502}, {1000, 17379, 18533},
		{1, 2167, 93976}, {51000, 100000, 92467}, {1000000, 100000, 48186}, {100000000, 100000, 27681}, {100000000, 9, 1}, {100000000, 1, 1}} {
		got, code := impl.VisibilityFor(c[0], c[1])
		checkNumber(t, fmt.Sprint("VisibilityFor ", c[:2]), got, code, c[2])
	}
	for _, c := range [][2]int64{{1, 2168}, {1, 2200}, {1, 100000}, {1000, 100000}, {39994, 100000}} {
		got, code := impl.VisibilityFor(c[0], c[1])
		checkNoNumber(t, fmt.Sprint("VisibilityFor ", c), got, code, impl.ErrNotFound)
	}
}

func TestP10RangesAreTheLesserOnes(t *testing.T) {
	for _, intensity := range []int64{1, 1000, 1000000, impl.MaxIntensity} {
		for _, visibility := range []int64{1, 1000, 18520, impl.MaxVisibility} {
			for _, height := range sampleHeights() {
				for _, eye := range []int64{0, 1, 30, 100, impl.MaxHeight} {
					luminous, _ := impl.LuminousRange(intensity, visibility)
					over, _ := impl.GeoRange(height, eye)
					got, code := impl.RangeOf(intensity, height, eye, visibility)
					checkNumber(t, fmt.Sprint("RangeOf ", intensity, height, eye, visibility), got, code, min(luminous, over))
				}
			}
		}
	}
	for _, c := range [][5]int64{{1000, 100, 50, 18520, 17378}, {1000000, 100, 50, 18520, 20794}, {1000, 0, 0, 18520, 0}, {100000000, 0, 1, 100000, 1218}, {100000000, 1, 0, 100000, 1218}, {1, 1, 0, 1, 4},
		{1000, 3000, 3000, 18520, 17378}, {100000000, 3000, 3000, 100000, 100000}, {1000000, 1000, 55, 18520, 47552}, {1000000, 1000, 56, 18520, 47630}} {
		got, code := impl.RangeOf(c[0], c[1], c[2], c[3])
		checkNumber(t, fmt.Sprint("RangeOf ", c[:4]), got, code, c[4])
	}
}

func TestP10HeightsHaveLimits(t *testing.T) {
	for _, n := range numbersBeyond(0, impl.MaxHeight) {
		what := fmt.Sprint(" for the height ", n)
		got, code := impl.HorizonOf(n)
		checkNoNumber(t, "HorizonOf"+what, got, code, impl.ErrRange)
		got, code = impl.GeoRange(n, 5)
		checkNoNumber(t, "GeoRange"+what, got, code, impl.ErrRange)
		got, code = impl.GeoRange(5, n)
		checkNoNumber(t, "GeoRange from an eye"+what, got, code, impl.ErrRange)
		got, code = impl.EyeFor(n, 5)
		checkNoNumber(t, "EyeFor"+what, got, code, impl.ErrRange)
		got, code = impl.RangeOf(5, n, 5, 5)
		checkNoNumber(t, "RangeOf"+what, got, code, impl.ErrRange)
		got, code = impl.RangeOf(5, 5, n, 5)
		checkNoNumber(t, "RangeOf from an eye"+what, got, code, impl.ErrRange)
	}
}

func TestP10IntensitiesAndVisibilitiesHaveLimits(t *testing.T) {
	for _, n := range numbersBeyond(1, impl.MaxIntensity) {
		what := fmt.Sprint(" for the intensity ", n)
		got, code := impl.LuminousRange(n, 5)
		checkNoNumber(t, "LuminousRange"+what, got, code, impl.ErrRange)
		got, code = impl.NominalRange(n)
		checkNoNumber(t, "NominalRange"+what, got, code, impl.ErrRange)
		got, code = impl.VisibilityFor(n, 5)
		checkNoNumber(t, "VisibilityFor"+what, got, code, impl.ErrRange)
		got, code = impl.RangeOf(n, 5, 5, 5)
		checkNoNumber(t, "RangeOf"+what, got, code, impl.ErrRange)
	}
	for _, n := range numbersBeyond(1, impl.MaxVisibility) {
		what := fmt.Sprint(" for the visibility ", n)
		got, code := impl.LuminousRange(5, n)
		checkNoNumber(t, "LuminousRange"+what, got, code, impl.ErrRange)
		got, code = impl.IntensityFor(5, n)
		checkNoNumber(t, "IntensityFor"+what, got, code, impl.ErrRange)
		got, code = impl.RangeOf(5, 5, 5, n)
		checkNoNumber(t, "RangeOf"+what, got, code, impl.ErrRange)
	}
}

func TestP10DistancesHaveLimits(t *testing.T) {
	for _, n := range numbersBeyond(1, impl.MaxRange) {
		what := fmt.Sprint(" for the distance ", n)
		got, code := impl.EyeFor(5, n)
		checkNoNumber(t, "EyeFor"+what, got, code, impl.ErrRange)
		got, code = impl.IntensityFor(n, 5)
		checkNoNumber(t, "IntensityFor"+what, got, code, impl.ErrRange)
		got, code = impl.VisibilityFor(5, n)
		checkNoNumber(t, "VisibilityFor"+what, got, code, impl.ErrRange)
	}
}

func TestP10RangeErrorsComeFirst(t *testing.T) {
	for what, results := range map[string]func() (int64, int64){
		// The other argument alone would be one for which nothing is found.
		"EyeFor":                   func() (int64, int64) { return impl.EyeFor(-1, impl.MaxRange) },
		"EyeFor far away":          func() (int64, int64) { return impl.EyeFor(0, impl.MaxRange+1) },
		"IntensityFor":             func() (int64, int64) { return impl.IntensityFor(impl.MaxRange, 0) },
		"IntensityFor far away":    func() (int64, int64) { return impl.IntensityFor(impl.MaxRange+1, 1) },
		"VisibilityFor":            func() (int64, int64) { return impl.VisibilityFor(0, impl.MaxRange) },
		"VisibilityFor far away":   func() (int64, int64) { return impl.VisibilityFor(1, impl.MaxRange+1) },
		"RangeOf without a height": func() (int64, int64) { return impl.RangeOf(0, 0, 0, 18520) },
	} {
		got, code := results()
		checkNoNumber(t, what, got, code, impl.ErrRange)
	}
}

// rangeAnswers prints the results of all functions of chapter 9 for some numbers.
func rangeAnswers(a, b, c int64) string {
	log, one := impl.TenLog(a)
	horizon, two := impl.HorizonOf(a)
	geographic, three := impl.GeoRange(a, b)
	eye, four := impl.EyeFor(a, b)
	luminous, five := impl.LuminousRange(a, b)
	nominal, six := impl.NominalRange(a)
	intensity, seven := impl.IntensityFor(a, b)
	visibility, eight := impl.VisibilityFor(a, b)
	both, nine := impl.RangeOf(a, b, c, a)
	turned, ten := impl.RangeOf(c, 5, a, b)
	return fmt.Sprint(log, one, horizon, two, geographic, three, eye, four, luminous, five, nominal, six, intensity, seven, visibility, eight, both, nine, turned, ten)
}

func TestP1RangesHaveEqualResults(t *testing.T) {
	checkEqualResults(t, append(extremeNumbers(), 5, 10, 100, 2999, 3000, 3001, 18520, 100000, 100001, 99999999, 100000000, 100000001), rangeAnswers)
}

func TestP1RangesDoNotDisturbEachOther(t *testing.T) {
	checkUndisturbed(t, func(n int64) string { return rangeAnswers(100*n, n, 2*n) + rangeAnswers(n*n*n*n, 18520, n) })
}
