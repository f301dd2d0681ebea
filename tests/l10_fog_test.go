package tests

import (
	"fmt"
	"math"
	"regexp"
	"slices"
	"strconv"
	"strings"
	"testing"

	"loop.example/g00953/impl"
)

// fogModel is a kind of fog signals as the table of the document has it.
type fogModel struct {
	kind   int64
	name   string
	length int64
}

func fogModels() []fogModel {
	return []fogModel{{impl.FgHorn, "Horn", 20}, {impl.FgSiren, "Siren", 40}, {impl.FgBell, "Bell", 5}, {impl.FgWhistle, "Whis", 30}}
}

func fog(kind, blasts, period, power int64) impl.FogSignal {
	return impl.FogSignal{Kind: kind, Blasts: blasts, Period: period, Power: power}
}

// noiseOf draws the period of a fog signal with a byte for each tenth of a second: # where it sounds.
func (m fogModel) noiseOf(blasts, period int64) string {
	noise := strings.Repeat(tenths("#", m.length)+tenths(".", m.length), int(blasts))
	return noise + tenths(".", period-int64(len(noise)))
}

// leastOf counts the tenths without anything behind the pause of the last blast.
func (m fogModel) leastOf(blasts int64) int64 {
	return int64(len(strings.Repeat(tenths("#.", m.length), int(blasts))))
}

func (m fogModel) textOf(blasts, period, power int64) string {
	group := ""
	if blasts != 1 {
		group = fmt.Sprintf("(%d)", blasts)
	}
	return fmt.Sprintf("%s%s %s %d", m.name, group, secondsOf(period), power)
}

// isFogModel follows the definition of validity.
func isFogModel(f impl.FogSignal) bool {
	for _, m := range fogModels() {
		if m.kind == f.Kind && f.Blasts >= 1 && f.Blasts <= 6 {
			return f.Period >= m.leastOf(f.Blasts) && f.Period <= 1200 && f.Power >= 60 && f.Power <= 140
		}
	}
	return false
}

// fogPeriods are periods at and near the limits, and some others.
func fogPeriods(least int64) []int64 {
	return sampleNumbers(least, impl.MaxFogPeriod, 6, 300, 599, 1000)
}

// sampleFogs are valid fog signals of all kinds with all numbers of blasts.
func sampleFogs() []impl.FogSignal {
	var list []impl.FogSignal
	for _, m := range fogModels() {
		for blasts := int64(1); blasts <= impl.MaxBlasts; blasts++ {
			for i, period := range fogPeriods(m.leastOf(blasts)) {
				list = append(list, fog(m.kind, blasts, period, []int64{60, 61, 110, 139, 140}[i%5]))
			}
		}
	}
	return list
}

// invalidFogs have one field beyond its limits, or several ones.
func invalidFogs() []impl.FogSignal {
	list := []impl.FogSignal{{}, fog(-1, -1, -1, -1), fog(9, 9, 9999, 9999)}
	for _, m := range fogModels() {
		for blasts := int64(1); blasts <= impl.MaxBlasts; blasts++ {
			least := m.leastOf(blasts)
			list = append(list, fog(m.kind, blasts, least-1, 110), fog(m.kind, blasts, 0, 110), fog(m.kind, blasts, -least, 110))
			for _, n := range numbersBeyond(least, impl.MaxFogPeriod) {
				list = append(list, fog(m.kind, blasts, n, 110))
			}
		}
		for _, n := range append(numbersBeyond(60, 140), 0, -110) {
			list = append(list, fog(m.kind, 1, 300, n))
		}
		for _, n := range append(numbersBeyond(1, impl.MaxBlasts), -1, math.MaxInt64/2, math.MinInt64/2, math.MaxInt64/10+1) {
			list = append(list, fog(m.kind, n, 1200, 110))
		}
	}
	for _, n := range append(numbersBeyond(impl.FgHorn, impl.FgWhistle), -1, 6, 256+impl.FgHorn, 1<<32+impl.FgHorn) {
		list = append(list, fog(n, 1, 300, 110))
	}
	return list
}

func soundRangeModel(power, wind int64) int64 {
	metres := map[int64]int64{60: 50, 80: 200, 100: 1000, 120: 4000, 140: 8000}
	low := power / 20 * 20
	calm := metres[low]
	if power > low {
		calm += roundedQuotient((metres[low+20]-metres[low])*(power-low), 20)
	}
	return calm * (4 + wind) / 4
}

func TestP11Constants(t *testing.T) {
	got := []int64{impl.FgHorn, impl.FgSiren, impl.FgBell, impl.FgWhistle, impl.MaxBlasts, impl.MaxFogPeriod, impl.MaxWind}
	check(t, "the constants", fmt.Sprint(got), "[1 2 3 4 6 1200 3]")
}

func TestP11KindsHaveNamesAndLengths(t *testing.T) {
	for _, m := range fogModels() {
		check(t, fmt.Sprint("the name of ", m.kind), impl.FogName(m.kind), m.name)
		got, code := impl.BlastLength(m.kind)
		checkNumber(t, "the length of a blast of "+m.name, got, code, m.length)
	}
	for _, n := range append(numbersBeyond(impl.FgHorn, impl.FgWhistle), extremeNumbers()...) {
		if n >= impl.FgHorn && n <= impl.FgWhistle {
			continue
		}
		check(t, fmt.Sprint("the name of ", n), impl.FogName(n), "")
		got, code := impl.BlastLength(n)
		checkNoNumber(t, fmt.Sprint("length of a blast of ", n), got, code, impl.ErrRange)
	}
}

func TestP11LeastPeriodsHaveAllBlastsAndPauses(t *testing.T) {
	for _, m := range fogModels() {
		for blasts := int64(1); blasts <= impl.MaxBlasts; blasts++ {
			want := 2 * m.length * blasts
			// The Period and the Power need not be as stated.
			for _, n := range append(extremeNumbers(), want-1, want, 110) {
				got, code := impl.LeastFogPeriod(fog(m.kind, blasts, n, 110))
				checkNumber(t, fmt.Sprint("the least period of ", m.name, blasts, " for the period ", n), got, code, want)
				got, code = impl.LeastFogPeriod(fog(m.kind, blasts, 1200, n))
				checkNumber(t, fmt.Sprint("the least period of ", m.name, blasts, " for the power ", n), got, code, want)
			}
			got, code := impl.LeastFogPeriod(impl.FogSignal{Kind: m.kind, Blasts: blasts})
			checkNumber(t, fmt.Sprint("the least period of ", m.name, blasts), got, code, want)
			check(t, fmt.Sprint(m.name, blasts, " is valid with its least period"), impl.ValidFog(fog(m.kind, blasts, got, 110)), true)
			check(t, fmt.Sprint(m.name, blasts, " is valid with a lesser period"), impl.ValidFog(fog(m.kind, blasts, got-1, 110)), false)
		}
	}
	for _, f := range invalidFogs() {
		if f.Kind < impl.FgHorn || f.Kind > impl.FgWhistle || f.Blasts < 1 || f.Blasts > impl.MaxBlasts {
			got, code := impl.LeastFogPeriod(f)
			checkNoNumber(t, fmt.Sprint("least period of ", f), got, code, impl.ErrRange)
		}
	}
}

func TestP11FogSignalsAreValidWithinTheirLimits(t *testing.T) {
	for _, f := range sampleFogs() {
		check(t, fmt.Sprint(f, " is valid"), impl.ValidFog(f), true)
	}
	for _, f := range invalidFogs() {
		check(t, fmt.Sprint(f, " is valid"), impl.ValidFog(f), false)
	}
	for kind := int64(-1); kind <= 6; kind++ {
		for blasts := int64(-1); blasts <= 8; blasts++ {
			for period := int64(-1); period <= 1205; period++ {
				for _, power := range []int64{-1, 59, 60, 140, 141} {
					f := fog(kind, blasts, period, power)
					if got := impl.ValidFog(f); got != isFogModel(f) {
						t.Errorf("whether %v is valid: got %v", f, got)
					}
				}
			}
		}
	}
	for power := int64(-5); power <= 300; power++ {
		check(t, fmt.Sprint("a fog signal with the power ", power, " is valid"), impl.ValidFog(fog(impl.FgBell, 1, 10, power)), power >= 60 && power <= 140)
	}
}

func TestP11InvalidFogSignalsHaveNoResults(t *testing.T) {
	for _, f := range invalidFogs() {
		// ErrInvalid comes before the errors of times and of winds.
		for _, n := range []int64{0, 5, -1, impl.MaxValue + 1, math.MinInt64} {
			what := fmt.Sprint(" of ", f, " for ", n)
			blasts, code := impl.BlastsOf(f)
			check(t, "BlastsOf"+what, fmt.Sprint(len(blasts), code), fmt.Sprint(0, impl.ErrInvalid))
			sounds, code := impl.SoundAt(f, n)
			check(t, "SoundAt"+what, fmt.Sprint(sounds, code), fmt.Sprint(false, impl.ErrInvalid))
			next, code := impl.NextBlast(f, n)
			checkNoNumber(t, "NextBlast"+what, next, code, impl.ErrInvalid)
			heard, code := impl.HeardFrom(f, impl.Point{}, impl.Point{}, n)
			check(t, "HeardFrom"+what, fmt.Sprint(heard, code), fmt.Sprint(false, impl.ErrInvalid))
			check(t, "FogText"+what, impl.FogText(f), "")
		}
	}
}

// blastsPrint writes the blasts of a drawn period.
func blastsPrint(noise string) string {
	var list []string
	for begin := 0; begin < len(noise); begin++ {
		if noise[begin] == '#' {
			end := begin + strings.Index(noise[begin:]+".", ".")
			list = append(list, fmt.Sprintf("[%d %d]", begin, end))
			begin = end
		}
	}
	return "[" + strings.Join(list, " ") + "]"
}

func modelOf(f impl.FogSignal) fogModel {
	return fogModels()[f.Kind-1]
}

func TestP11BlastsAreThoseOfAPeriod(t *testing.T) {
	for _, f := range sampleFogs() {
		blasts, code := impl.BlastsOf(f)
		check(t, fmt.Sprint("the code of the blasts of ", f), code, impl.OK)
		check(t, fmt.Sprint("the blasts of ", f), fmt.Sprint(blasts), blastsPrint(modelOf(f).noiseOf(f.Blasts, f.Period)))
		check(t, fmt.Sprint("the number of blasts of ", f), int64(len(blasts)), f.Blasts)
	}
	for text, want := range map[string]string{
		"Horn(2) 30s 110": "[[0 20] [40 60]]", "Horn 4s 60": "[[0 20]]", "Siren(3) 24s 140": "[[0 40] [80 120] [160 200]]", "Bell 120s 99": "[[0 5]]",
		"Bell(6) 6s 60": "[[0 5] [10 15] [20 25] [30 35] [40 45] [50 55]]", "Whis(4) 120s 120": "[[0 30] [60 90] [120 150] [180 210]]",
	} {
		f, _ := impl.ReadFog(text)
		blasts, code := impl.BlastsOf(f)
		check(t, "the blasts of "+text, fmt.Sprint(blasts, code), want+" 0")
	}
}

// nextInNoise returns for each tenth of a drawn period, and for its end, when the next blast begins.
func nextInNoise(noise string) []int64 {
	next := make([]int64, len(noise)+1)
	next[len(noise)] = int64(len(noise))
	for i := len(noise) - 1; i >= 0; i-- {
		next[i] = next[i+1]
		if noise[i] == '#' && (i == 0 || noise[i-1] == '.') {
			next[i] = int64(i)
		}
	}
	return next
}

// lastPeriods are beginnings of periods from 0 to the last one within MaxValue.
func lastPeriods(period int64) []int64 {
	most := impl.MaxValue / period
	list := []int64{0, 1, 2, 7, most / 2, most - 1, most}
	for i := range list {
		list[i] *= period
	}
	return list
}

func TestP11FogSignalsSoundInTheirBlasts(t *testing.T) {
	for _, f := range sampleFogs() {
		noise := modelOf(f).noiseOf(f.Blasts, f.Period)
		nexts := nextInNoise(noise)
		for _, begin := range lastPeriods(f.Period) {
			for i := range noise {
				at := begin + int64(i)
				if at > impl.MaxValue {
					break
				}
				sounds, code := impl.SoundAt(f, at)
				if code != impl.OK || sounds != (noise[i] == '#') {
					t.Errorf("SoundAt %v at %d: got %v, %d", f, at, sounds, code)
				}
				next, code := impl.NextBlast(f, at)
				if code != impl.OK || next != begin+nexts[i] {
					t.Errorf("NextBlast %v at %d: got %d, %d, want %d", f, at, next, code, begin+nexts[i])
				}
			}
		}
	}
}

func TestP11BlastsBetweenTwoPeriods(t *testing.T) {
	for _, c := range []struct {
		text     string
		at, next int64
		sounds   bool
	}{
		{"Horn(2) 30s 110", 0, 0, true}, {"Horn(2) 30s 110", 1, 40, true}, {"Horn(2) 30s 110", 19, 40, true}, {"Horn(2) 30s 110", 20, 40, false}, {"Horn(2) 30s 110", 39, 40, false},
		{"Horn(2) 30s 110", 40, 40, true}, {"Horn(2) 30s 110", 41, 300, true}, {"Horn(2) 30s 110", 59, 300, true}, {"Horn(2) 30s 110", 60, 300, false}, {"Horn(2) 30s 110", 80, 300, false},
		{"Horn(2) 30s 110", 299, 300, false}, {"Horn(2) 30s 110", 300, 300, true}, {"Horn(2) 30s 110", 301, 340, true}, {"Horn(2) 30s 110", 320, 340, false}, {"Horn(2) 30s 110", 599, 600, false}, {"Horn(2) 30s 110", 641, 900, true},
		// Without any time behind the pause of the last blast.
		{"Horn(2) 8s 110", 59, 80, true}, {"Horn(2) 8s 110", 60, 80, false}, {"Horn(2) 8s 110", 79, 80, false}, {"Horn(2) 8s 110", 80, 80, true}, {"Horn(2) 8s 110", 81, 120, true},
		{"Bell 1s 60", 4, 10, true}, {"Bell 1s 60", 5, 10, false}, {"Bell 1s 60", 9, 10, false}, {"Bell 1s 60", 10, 10, true}, {"Bell 1s 60", 11, 20, true}, {"Bell 1.1s 60", 10, 11, false}, {"Bell 1.1s 60", 11, 11, true}, {"Bell 1.1s 60", 16, 22, false},
		// At the end of what is allowed; the next blast may be behind it.
		{"Bell 1s 60", impl.MaxValue, impl.MaxValue, true}, {"Bell 1s 60", impl.MaxValue - 1, impl.MaxValue, false}, {"Horn(2) 30s 110", impl.MaxValue, impl.MaxValue + 200, false},
		{"Horn 119.9s 110", impl.MaxValue, impl.MaxValue + 43, false}, {"Siren(5) 120s 140", impl.MaxValue, impl.MaxValue + 800, false}, {"Siren(6) 120s 140", impl.MaxValue, impl.MaxValue, true}, {"Siren(6) 48s 140", impl.MaxValue, impl.MaxValue, true},
	} {
		f, ok := impl.ReadFog(c.text)
		check(t, c.text+" is read", ok, true)
		sounds, code := impl.SoundAt(f, c.at)
		check(t, fmt.Sprint("SoundAt ", c.text, " at ", c.at), fmt.Sprint(sounds, code), fmt.Sprint(c.sounds, impl.OK))
		next, code := impl.NextBlast(f, c.at)
		checkNumber(t, fmt.Sprint("NextBlast ", c.text, " at ", c.at), next, code, c.next)
	}
}

func TestP11TimesHaveLimits(t *testing.T) {
	for _, f := range sampleFogs() {
		for _, n := range append(numbersBeyond(0, impl.MaxValue), -f.Period) {
			sounds, code := impl.SoundAt(f, n)
			check(t, fmt.Sprint("SoundAt ", f, " at ", n), fmt.Sprint(sounds, code), fmt.Sprint(false, impl.ErrRange))
			next, code := impl.NextBlast(f, n)
			checkNoNumber(t, fmt.Sprint("NextBlast ", f, " at ", n), next, code, impl.ErrRange)
		}
	}
}

func TestP11LoudSignalsAreHeardFarther(t *testing.T) {
	for wind := int64(-impl.MaxWind); wind <= impl.MaxWind; wind++ {
		before := int64(0)
		for power := int64(60); power <= 140; power++ {
			what := fmt.Sprint("SoundRange ", power, wind)
			got, code := impl.SoundRange(power, wind)
			checkNumber(t, what, got, code, soundRangeModel(power, wind))
			check(t, what+" is farther than that of a lesser power", got > before, true)
			before = got
			if wind < impl.MaxWind {
				more, _ := impl.SoundRange(power, wind+1)
				check(t, what+" is farther with more wind", more > got, true)
			}
		}
	}
	for _, c := range [][3]int64{
		{60, 0, 50}, {80, 0, 200}, {100, 0, 1000}, {120, 0, 4000}, {140, 0, 8000}, {90, 0, 600}, {61, 0, 58}, {63, 0, 73}, {79, 0, 193}, {81, 0, 240}, {99, 0, 960}, {101, 0, 1150}, {110, 0, 2500}, {119, 0, 3850}, {121, 0, 4200}, {139, 0, 7800},
		{60, -3, 12}, {60, -2, 25}, {60, -1, 37}, {60, 1, 62}, {60, 2, 75}, {60, 3, 87}, {61, -3, 14}, {63, -1, 54}, {63, 1, 91}, {67, -3, 25}, {90, -3, 150}, {90, 3, 1050}, {110, 2, 3750}, {140, -3, 2000}, {140, 3, 14000},
	} {
		got, code := impl.SoundRange(c[0], c[1])
		checkNumber(t, fmt.Sprint("SoundRange ", c[:2]), got, code, c[2])
	}
}

func TestP11PowersAndWindsHaveLimits(t *testing.T) {
	for _, n := range append(numbersBeyond(60, 140), 0, -60, 300) {
		got, code := impl.SoundRange(n, 0)
		checkNoNumber(t, fmt.Sprint("SoundRange ", n), got, code, impl.ErrRange)
	}
	f := fog(impl.FgHorn, 2, 300, 110)
	for _, n := range append(numbersBeyond(-impl.MaxWind, impl.MaxWind), -5, 5, math.MinInt64+4, math.MaxInt64-4) {
		what := fmt.Sprint(" in the wind ", n)
		got, code := impl.SoundRange(90, n)
		checkNoNumber(t, "SoundRange"+what, got, code, impl.ErrRange)
		heard, code := impl.HeardFrom(f, impl.Point{}, impl.Point{}, n)
		check(t, "HeardFrom"+what, fmt.Sprint(heard, code), fmt.Sprint(false, impl.ErrRange))
		for _, d := range []int64{-1, 0, 500, 300000, 300001} {
			// The wind comes before the distance for which nothing is found.
			got, code = impl.PowerFor(d, n)
			checkNoNumber(t, fmt.Sprint("PowerFor ", d, what), got, code, impl.ErrRange)
		}
	}
}

// checkHeard asks for what is heard in both directions.
func checkHeard(t *testing.T, f impl.FogSignal, at, p impl.Point, wind int64, want bool) {
	t.Helper()
	heard, code := impl.HeardFrom(f, at, p, wind)
	check(t, fmt.Sprint("HeardFrom ", f, at, p, wind), fmt.Sprint(heard, code), fmt.Sprint(want, impl.OK))
	heard, code = impl.HeardFrom(f, p, at, wind)
	check(t, fmt.Sprint("HeardFrom ", f, p, at, wind), fmt.Sprint(heard, code), fmt.Sprint(want, impl.OK))
}

func TestP11FogSignalsAreHeardInTheirRange(t *testing.T) {
	at := impl.Point{X: 90000, Y: 100000}
	for power := int64(60); power <= 140; power++ {
		for wind := int64(-impl.MaxWind); wind <= impl.MaxWind; wind++ {
			f := fog(impl.FgWhistle, 1, 600, power)
			reach := soundRangeModel(power, wind)
			checkHeard(t, f, at, at, wind, true)
			checkHeard(t, f, at, impl.Point{X: at.X + reach, Y: at.Y}, wind, true)
			checkHeard(t, f, at, impl.Point{X: at.X, Y: at.Y - reach}, wind, true)
			checkHeard(t, f, at, impl.Point{X: at.X - reach - 1, Y: at.Y}, wind, false)
			checkHeard(t, f, at, impl.Point{X: at.X, Y: at.Y + reach + 1}, wind, false)
			// The Distance is rounded down, so that this point, which is a little farther away, has the same one.
			checkHeard(t, f, at, impl.Point{X: at.X + reach, Y: at.Y + 1}, wind, true)
		}
	}
	horn := fog(impl.FgHorn, 2, 300, 110)
	checkHeard(t, horn, impl.Point{}, impl.Point{X: 1500, Y: 2000}, 0, true)
	checkHeard(t, horn, impl.Point{}, impl.Point{X: 1500, Y: 2002}, 0, false)
	checkHeard(t, horn, impl.Point{}, impl.Point{X: 2100, Y: 2100}, 1, true)
	checkHeard(t, horn, impl.Point{}, impl.Point{X: 2100, Y: 2100}, 0, false)
	checkHeard(t, horn, impl.Point{}, impl.Point{X: impl.MaxCoordinate, Y: impl.MaxCoordinate}, 3, false)
	checkHeard(t, fog(impl.FgBell, 1, 10, 140), impl.Point{X: impl.MaxCoordinate, Y: impl.MaxCoordinate}, impl.Point{X: 186000, Y: impl.MaxCoordinate}, 3, true)
}

func TestP11OnlyValidPointsHear(t *testing.T) {
	f := fog(impl.FgHorn, 2, 300, 110)
	for _, n := range numbersBeyond(0, impl.MaxCoordinate) {
		for _, p := range []impl.Point{{X: n}, {Y: n}, {X: n, Y: n}} {
			// ErrInvalid comes before the error of the wind.
			for _, wind := range []int64{0, 3, 4, -4, math.MaxInt64} {
				heard, code := impl.HeardFrom(f, p, impl.Point{}, wind)
				check(t, fmt.Sprint("HeardFrom ", p, wind), fmt.Sprint(heard, code), fmt.Sprint(false, impl.ErrInvalid))
				heard, code = impl.HeardFrom(f, impl.Point{}, p, wind)
				check(t, fmt.Sprint("HeardFrom at ", p, wind), fmt.Sprint(heard, code), fmt.Sprint(false, impl.ErrInvalid))
			}
		}
	}
}

func TestP11TheLeastPowerIsEnough(t *testing.T) {
	for wind := int64(-impl.MaxWind); wind <= impl.MaxWind; wind++ {
		least := int64(60)
		for d := int64(0); d <= 14100; d++ {
			for least <= 140 && soundRangeModel(least, wind) < d {
				least++
			}
			what := fmt.Sprint("PowerFor ", d, wind)
			got, code := impl.PowerFor(d, wind)
			if least > 140 {
				checkNoNumber(t, what, got, code, impl.ErrNotFound)
				continue
			}
			checkNumber(t, what, got, code, least)
			reach, _ := impl.SoundRange(got, wind)
			check(t, what+" is enough", reach >= d, true)
			if got > 60 {
				reach, _ = impl.SoundRange(got-1, wind)
				check(t, "less than "+what+" is enough", reach >= d, false)
			}
		}
	}
	for _, c := range [][3]int64{
		{0, 0, 60}, {0, -3, 60}, {0, 3, 60}, {12, -3, 60}, {13, -3, 61}, {50, 0, 60}, {51, 0, 61}, {58, 0, 61}, {59, 0, 62}, {87, 3, 60}, {88, 3, 61}, {200, 0, 80}, {201, 0, 81}, {240, 0, 81}, {241, 0, 82},
		{600, 0, 90}, {601, 0, 91}, {1000, 0, 100}, {1001, 0, 101}, {1150, 0, 101}, {1151, 0, 102}, {4000, 0, 120}, {4001, 0, 121}, {8000, 0, 140}, {2000, -3, 140}, {14000, 3, 140},
	} {
		got, code := impl.PowerFor(c[0], c[1])
		checkNumber(t, fmt.Sprint("PowerFor ", c[:2]), got, code, c[2])
	}
}

func TestP11DistancesHaveLimits(t *testing.T) {
	for wind := int64(-impl.MaxWind); wind <= impl.MaxWind; wind++ {
		for _, d := range []int64{8000*(4+wind)/4 + 1, 100000, 299999, 300000} {
			got, code := impl.PowerFor(d, wind)
			checkNoNumber(t, fmt.Sprint("PowerFor ", d, wind), got, code, impl.ErrNotFound)
		}
		for _, d := range numbersBeyond(0, 300000) {
			got, code := impl.PowerFor(d, wind)
			checkNoNumber(t, fmt.Sprint("PowerFor ", d, wind), got, code, impl.ErrRange)
		}
	}
}

// checkFogText asks for the text of a fog signal, and reads it back.
func checkFogText(t *testing.T, f impl.FogSignal) {
	t.Helper()
	text := modelOf(f).textOf(f.Blasts, f.Period, f.Power)
	check(t, fmt.Sprint("the text of ", f), impl.FogText(f), text)
	got, ok := impl.ReadFog(text)
	check(t, text+" is read", ok, true)
	check(t, "the fog signal of "+text, got, f)
}

func TestP11FogSignalsAreRestored(t *testing.T) {
	for _, m := range fogModels() {
		for blasts := int64(1); blasts <= impl.MaxBlasts; blasts++ {
			least := m.leastOf(blasts)
			for period := least; period <= impl.MaxFogPeriod; period++ {
				checkFogText(t, fog(m.kind, blasts, period, 60+period%81))
			}
			for power := int64(60); power <= 140; power++ {
				checkFogText(t, fog(m.kind, blasts, least, power))
			}
		}
	}
	for text, want := range map[string]impl.FogSignal{
		"Horn(2) 30s 110": fog(impl.FgHorn, 2, 300, 110), "Horn 4s 60": fog(impl.FgHorn, 1, 40, 60), "Siren(6) 48s 140": fog(impl.FgSiren, 6, 480, 140),
		"Bell 1s 99": fog(impl.FgBell, 1, 10, 99), "Bell 119.9s 100": fog(impl.FgBell, 1, 1199, 100), "Whis(3) 120s 61": fog(impl.FgWhistle, 3, 1200, 61), "Whis 6.1s 139": fog(impl.FgWhistle, 1, 61, 139),
	} {
		got, ok := impl.ReadFog(text)
		check(t, text+" is read", ok, true)
		check(t, "the fog signal of "+text, got, want)
		check(t, "the text of "+text, impl.FogText(got), text)
	}
}

func checkNoFog(t *testing.T, s string) {
	t.Helper()
	f, ok := impl.ReadFog(s)
	check(t, fmt.Sprintf("%.40q is read", s), ok, false)
	check(t, fmt.Sprintf("the fog signal of %.40q", s), f, impl.FogSignal{})
}

func TestP11OtherTextsHaveNoFogSignal(t *testing.T) {
	texts := []string{
		"", " ", "  ", "   ", "Horn", "Horn ", "Horn  ", "Horn 30s", "Horn 30s ", " 30s 110", "30s 110", "0 30s 110", "1 30s 110", "110", "Horn 110", "Horn 110 30s", "30s Horn 110", "Horn 30s 110 ", " Horn 30s 110", "Horn  30s 110", "Horn 30s  110", "Horn 30s 110 110", "Horn 30s 110 W", "Horn\t30s 110", "Horn 30s 110\n", "Horn\u00a030s 110", "Horn,30s,110", "Horn30s 110", "Horn 30s110",
		// Kinds.
		"horn 30s 110", "HORN 30s 110", "Hor 30s 110", "Horns 30s 110", "Whistle 30s 110", "Siren( 30s 110", "Gong 30s 110", "Dia 30s 110", "- 30s 110", "(2) 30s 110", "() 30s 110", "Fl 30s 110", "Horn+Bell 30s 110",
		// Blasts.
		"Horn() 30s 110", "Horn(0) 30s 110", "Horn(1) 30s 110", "Horn(7) 60s 110", "Horn(10) 60s 110", "Horn(-2) 30s 110", "Horn(+2) 30s 110", "Horn(02) 30s 110", "Horn(2 30s 110", "Horn2) 30s 110", "Horn) 30s 110", "Horn( 30s 110", "Horn2 30s 110", "Horn(2)) 30s 110", "Horn((2) 30s 110", "Horn((2)) 30s 110", "Horn(2)(2) 30s 110", "Horn (2) 30s 110", "Horn( 2) 30s 110", "Horn(2 ) 30s 110", "(2)Horn 30s 110", "Horn(2+1) 30s 110", "Horn(2.0) 30s 110", "Horn(A) 30s 110", "Horn[2] 30s 110", "Horn(\uff12) 30s 110", "Horn(4294967298) 30s 110", "Horn(18446744073709551618) 30s 110",
		// Periods.
		"Horn 30 110", "Horn s 110", "Horn 0s 110", "Horn -30s 110", "Horn +30s 110", "Horn 030s 110", "Horn 30.s 110", "Horn 30.0s 110", "Horn 30.50s 110", "Horn 30.05s 110", "Horn 30.10s 110", "Horn .5s 110", "Horn 30,5s 110", "Horn 30.-5s 110", "Horn 31.-5s 110", "Horn 29.10s 110", "Horn 30S 110", "Horn 30ss 110", "Horn 30 s 110", "Horn 30m 110", "Horn 300 110", "Horn 3e1s 110", "Horn 0x1es 110", "Horn 30.5.5s 110",
		"Horn 3.9s 110", "Horn 0.4s 110", "Horn(2) 7.9s 110", "Siren(6) 47.9s 110", "Bell 0.9s 110", "Bell(6) 5.9s 110", "Whis 5.9s 110", "Horn 120.1s 110", "Horn 121s 110", "Horn 1200s 110", "Horn 429496732s 110", "Horn 4294967326s 110", "Horn 18446744073709551646s 110",
		// Powers.
		"Horn 30s -110", "Horn 30s +110", "Horn 30s 0110", "Horn 30s 110.0", "Horn 30s 110s", "Horn 30s 110dB", "Horn 30s 59", "Horn 30s 60.5", "Horn 30s 141", "Horn 30s 0", "Horn 30s -", "Horn 30s x", "Horn 30s 1e2", "Horn 30s 0x6e", "Horn 30s 1_10", "Horn 30s 1100", "Horn 30s 4294967406", "Horn 30s 18446744073709551726", "Horn 30s \uff11\uff11\uff10",
		strings.Repeat(" ", 100000), strings.Repeat("Horn 30s 110 ", 10000), "Horn" + strings.Repeat("(", 100000) + " 30s 110", "Horn(" + strings.Repeat("2", 100000) + ") 30s 110", "Horn " + strings.Repeat("0", 100000) + "30s 110", "Horn 30s " + strings.Repeat("1", 100000),
	}
	for _, s := range texts {
		checkNoFog(t, s)
	}
	for _, f := range invalidFogs() {
		name := impl.FogName(f.Kind)
		checkNoFog(t, fogModel{name: name}.textOf(f.Blasts, f.Period, f.Power))
	}
}

var fogForm = regexp.MustCompile(`^(Horn|Siren|Bell|Whis)(\(([2-6])\))? (0|[1-9][0-9]{0,2})(\.[1-9])?s ([1-9][0-9]{1,2})$`)

// isFogText reports whether a text is that of a valid fog signal.
func isFogText(s string) bool {
	parts := fogForm.FindStringSubmatch(s)
	if parts == nil {
		return false
	}
	seconds, _ := strconv.ParseFloat(parts[4]+parts[5], 64)
	power, _ := strconv.Atoi(parts[6])
	blasts := int64(1)
	if parts[3] != "" {
		blasts = int64(parts[3][0] - '0')
	}
	kind := 1 + slices.IndexFunc(fogModels(), func(m fogModel) bool { return m.name == parts[1] })
	return isFogModel(fog(int64(kind), blasts, int64(math.Round(10*seconds)), int64(power)))
}

func TestP11ChangedTextsHaveFogSignalsIfTheyAreCanonical(t *testing.T) {
	texts := []string{"Horn(2) 30s 110", "Horn 4s 60", "Siren(6) 48s 140", "Bell 1.5s 99", "Bell(3) 119.9s 100", "Whis 6s 61", "Whis(3) 120s 139"}
	checkChangedTexts(t, texts, 300, isFogText, func(s string) (string, bool) {
		f, ok := impl.ReadFog(s)
		return impl.FogText(f), ok
	}, checkNoFog)
}

// fogAnswers prints the results of the functions of chapter 10 that take a fog signal.
func fogAnswers(f impl.FogSignal, n int64, p impl.Point) string {
	least, one := impl.LeastFogPeriod(f)
	blasts, two := impl.BlastsOf(f)
	sounds, three := impl.SoundAt(f, n)
	next, four := impl.NextBlast(f, n)
	heard, five := impl.HeardFrom(f, p, impl.Point{X: 5, Y: 5}, n)
	text := impl.FogText(f)
	read, ok := impl.ReadFog(text)
	return fmt.Sprint(impl.ValidFog(f), least, one, blasts, two, sounds, three, next, four, heard, five, text, read, ok)
}

// soundAnswers prints the results of the functions of chapter 10 that take numbers only.
func soundAnswers(a, b int64) string {
	length, one := impl.BlastLength(a)
	reach, two := impl.SoundRange(a, b)
	power, three := impl.PowerFor(a, b)
	return fmt.Sprint(impl.FogName(a), length, one, reach, two, power, three)
}

func TestP1FogSignalsHaveEqualResults(t *testing.T) {
	numbers := append(extremeNumbers(), 2, 3, 5, 6, 7, 40, 60, 80, 110, 140, 141, 300, 1200, 1201, 300000, 300001)
	checkEqualResults(t, numbers, func(a, b, c int64) string {
		return soundAnswers(a, b) + fogAnswers(fog(a, b, c, 110), c, impl.Point{X: a, Y: b}) + fogAnswers(fog(3, a, b, c), a, impl.Point{Y: c}) + fogAnswers(fog(1, 2, 300, a), b, impl.Point{X: c})
	})
	for _, f := range append(invalidFogs(), sampleFogs()...) {
		check(t, fmt.Sprint("the second results for ", f), fogAnswers(f, 3, impl.Point{X: 1000}), fogAnswers(f, 3, impl.Point{X: 1000}))
	}
	checkEqualReadings(t, func(s string) string { return fmt.Sprint(impl.ReadFog(s)) }, "Horn(2) 30s 110", "Bell 1s 60", "Bell 0.9s 60", "Horn(1) 30s 110")
}

func TestP1FogSignalsDoNotDisturbEachOther(t *testing.T) {
	checkUndisturbed(t, func(n int64) string {
		return fogAnswers(fog(1+n%4, 1+n%6, 480+n, 60+n), 100*n, impl.Point{X: 100 * n}) + soundAnswers(60+n, n%4) + soundAnswers(n, -n%4)
	})
}

func TestP1ResultsOfFogSignalsShareNoMemory(t *testing.T) {
	for _, f := range sampleFogs() {
		want := fogAnswers(f, 0, impl.Point{})
		one, _ := impl.BlastsOf(f)
		two, _ := impl.BlastsOf(f)
		before := fmt.Sprint(two)
		for i, blast := range one {
			others := fmt.Sprint(one[i+1:])
			clear(blast[:cap(blast)])
			check(t, fmt.Sprint("the other blasts of ", f, " after a change of one"), fmt.Sprint(one[i+1:]), others)
		}
		clear(one[:cap(one)])
		check(t, fmt.Sprint("another result for ", f), fmt.Sprint(two), before)
		check(t, fmt.Sprint("the results for ", f, " after a change of a result"), fogAnswers(f, 0, impl.Point{}), want)
	}
}
