package tests

import (
	"fmt"
	"math"
	"regexp"
	"slices"
	"strconv"
	"strings"
	"testing"
	"time"

	"loop.example/g00953/impl"
)

// timeOf returns the beginning of a date as the standard library counts days;
// it takes the days behind the end of a month for days of the next one.
func timeOf(year, month, date int64) time.Time {
	return time.Date(int(year), time.Month(month), int(date), 0, 0, 0, 0, time.UTC)
}

// dayOfTime returns the number of days from 2000-01-01.
func dayOfTime(d time.Time) int64 {
	return (d.Unix() - timeOf(2000, 1, 1).Unix()) / 86400
}

// dayOfDate returns the day of a date such as 2026-11-16.
func dayOfDate(t *testing.T, date string) int64 {
	t.Helper()
	d, err := time.Parse(time.DateOnly, date)
	if err != nil {
		t.Fatal(err)
	}
	return dayOfTime(d)
}

// samplePeriods are the days of a leap year and of those beside it, of those around 2100, which is none, and of the last years.
func samplePeriods() []int64 {
	var list []int64
	for _, years := range [][2]int64{{2000, 2001}, {2003, 2005}, {2096, 2104}, {2272, 2272}} {
		for d := timeOf(years[0], 1, 1); d.Before(timeOf(years[1]+1, 1, 1)); d = d.AddDate(0, 0, 1) {
			list = append(list, dayOfTime(d))
		}
	}
	for day := dayOfTime(timeOf(2273, 1, 1)); day <= impl.MaxDay; day++ {
		list = append(list, day)
	}
	return list
}

func numbersBeyond(low, high int64) []int64 {
	return []int64{low - 1, high + 1, low - 1000, high + 1000, math.MinInt64, math.MinInt64 + 1, math.MaxInt64 - 1, math.MaxInt64}
}

func TestP4AllDaysAreDates(t *testing.T) {
	check(t, "MaxDay", impl.MaxDay, 99999)
	check(t, "DayMinutes", impl.DayMinutes, 1440)
	for day := range int64(impl.MaxDay + 1) {
		d := timeOf(2000, 1, 1+day)
		what := d.Format(time.DateOnly)
		year, month, date, code := impl.DateOf(day)
		check(t, what, [4]int64{year, month, date, code}, [4]int64{int64(d.Year()), int64(d.Month()), int64(d.Day()), impl.OK})
		back, code := impl.DayOf(year, month, date)
		check(t, "the day of "+what, [2]int64{back, code}, [2]int64{day, impl.OK})
		n, code := impl.DayOfYear(day)
		check(t, "the day of the year of "+what, [2]int64{n, code}, [2]int64{int64(d.YearDay()), impl.OK})
		weekday, code := impl.WeekdayOf(day)
		check(t, "the weekday of "+what, [2]int64{weekday, code}, [2]int64{int64(d.Weekday()+6) % 7, impl.OK})
		check(t, "the text of "+what, impl.DateText(day), what)
		read, ok := impl.ReadDate(what)
		check(t, "reading "+what, ok, true)
		check(t, "the day that is read in "+what, read, day)
	}
}

func TestP4AllDatesAreDays(t *testing.T) {
	for year := int64(1995); year <= 2280; year++ {
		for month := int64(-1); month <= 14; month++ {
			for date := int64(-1); date <= 33; date++ {
				want := [2]int64{0, impl.ErrRange}
				d := timeOf(year, month, date)
				isDate := d.Year() == int(year) && d.Month() == time.Month(month) && d.Day() == int(date)
				if day := dayOfTime(d); isDate && year >= 2000 && day <= impl.MaxDay {
					want = [2]int64{day, impl.OK}
				}
				day, code := impl.DayOf(year, month, date)
				check(t, fmt.Sprint("the day of ", year, month, date), [2]int64{day, code}, want)
			}
		}
	}
}

func TestP4DatesBeyondTheCalendar(t *testing.T) {
	for _, n := range numbersBeyond(0, impl.MaxDay) {
		year, month, date, code := impl.DateOf(n)
		check(t, fmt.Sprint("DateOf ", n), [4]int64{year, month, date, code}, [4]int64{0, 0, 0, impl.ErrRange})
		number, code := impl.DayOfYear(n)
		check(t, fmt.Sprint("DayOfYear ", n), [2]int64{number, code}, [2]int64{0, impl.ErrRange})
		weekday, code := impl.WeekdayOf(n)
		check(t, fmt.Sprint("WeekdayOf ", n), [2]int64{weekday, code}, [2]int64{0, impl.ErrRange})
		check(t, fmt.Sprint("DateText ", n), impl.DateText(n), "")
		for i, date := range [][3]int64{{n, 5, 6}, {2005, n, 6}, {2005, 5, n}, {n, n, n}} {
			day, code := impl.DayOf(date[0], date[1], date[2])
			check(t, fmt.Sprint("DayOf ", i, n), [2]int64{day, code}, [2]int64{0, impl.ErrRange})
		}
	}
}

func TestP4MonthsHaveTheirDays(t *testing.T) {
	for year := int64(1990); year <= 2290; year++ {
		isYear := year >= 2000 && year <= 2273
		// The day before the first of March.
		isLeap := timeOf(year, 3, 0).Day() == 29
		check(t, fmt.Sprint("IsLeap ", year), impl.IsLeap(year), isYear && isLeap)
		for month := int64(-2); month <= 15; month++ {
			want := [2]int64{0, impl.ErrRange}
			if isYear && month >= 1 && month <= 12 {
				want = [2]int64{int64(timeOf(year, month+1, 0).Day()), impl.OK}
			}
			days, code := impl.MonthDays(year, month)
			check(t, fmt.Sprint("MonthDays ", year, month), [2]int64{days, code}, want)
		}
	}
	for _, n := range append(numbersBeyond(2000, 2273), 0, -4, -400, 1600, 1996, 2276, 2400) {
		check(t, fmt.Sprint("IsLeap ", n), impl.IsLeap(n), false)
		days, code := impl.MonthDays(n, 2)
		check(t, fmt.Sprint("MonthDays of the year ", n), [2]int64{days, code}, [2]int64{0, impl.ErrRange})
	}
	for _, n := range numbersBeyond(1, 12) {
		days, code := impl.MonthDays(2004, n)
		check(t, fmt.Sprint("MonthDays of the month ", n), [2]int64{days, code}, [2]int64{0, impl.ErrRange})
	}
}

func TestP4YearsHaveTheirDays(t *testing.T) {
	for year := int64(2000); year <= 2272; year++ {
		sum := int64(0)
		for month := int64(1); month <= 12; month++ {
			first, _ := impl.DayOf(year, month, 1)
			n, _ := impl.DayOfYear(first)
			check(t, fmt.Sprint("the first day of ", year, month), n, sum+1)
			days, _ := impl.MonthDays(year, month)
			sum += days
		}
		begin, _ := impl.DayOf(year, 1, 1)
		next, _ := impl.DayOf(year+1, 1, 1)
		check(t, fmt.Sprint("the days of ", year), sum, next-begin)
		check(t, fmt.Sprint("whether there are 366 in ", year), sum == 366, impl.IsLeap(year))
	}
}

// laterDay returns the day some months later, or ErrState.
func laterDay(day, months int64) (int64, int64) {
	d := timeOf(2000, 1, 1+day)
	month := int64(d.Month()) + months
	last := timeOf(int64(d.Year()), month+1, 0)
	later := timeOf(int64(d.Year()), month, min(int64(d.Day()), int64(last.Day())))
	if dayOfTime(later) > impl.MaxDay {
		return 0, impl.ErrState
	}
	return dayOfTime(later), impl.OK
}

func TestP4MonthsLater(t *testing.T) {
	for _, day := range samplePeriods() {
		for _, months := range []int64{0, 1, 2, 3, 4, 5, 6, 7, 8, 9, 10, 11, 12, 13, 24, 47, 48, 100, 1188, 1199, 1200} {
			got, code := impl.AddMonths(day, months)
			want, wantCode := laterDay(day, months)
			check(t, fmt.Sprint(months, " months after ", impl.DateText(day)), [2]int64{got, code}, [2]int64{want, wantCode})
		}
	}
}

func TestP4TwelveMonthsAreAYear(t *testing.T) {
	for day := range int64(impl.MaxDay + 1) {
		year, month, date, _ := impl.DateOf(day)
		// Only leap years have a 29th of February.
		if month == 2 && date == 29 {
			date = 28
		}
		later, code := impl.AddMonths(day, 12)
		same, sameCode := impl.DayOf(year+1, month, date)
		if sameCode != impl.OK {
			sameCode = impl.ErrState
		}
		check(t, "a year after "+impl.DateText(day), [2]int64{later, code}, [2]int64{same, sameCode})
	}
}

func TestP4MonthsEndEarlier(t *testing.T) {
	for _, c := range []struct {
		date   string
		months int64
		want   string
	}{
		{"2000-01-28", 1, "2000-02-28"},
		{"2000-01-29", 1, "2000-02-29"},
		{"2000-01-30", 1, "2000-02-29"},
		{"2000-01-31", 1, "2000-02-29"},
		{"2001-01-29", 1, "2001-02-28"},
		{"2001-01-31", 0, "2001-01-31"},
		{"2001-01-31", 1, "2001-02-28"},
		{"2001-01-31", 2, "2001-03-31"},
		{"2001-01-31", 3, "2001-04-30"},
		{"2100-01-31", 1, "2100-02-28"},
		{"2000-02-29", 12, "2001-02-28"},
		{"2000-02-29", 48, "2004-02-29"},
		{"2000-02-29", 1200, "2100-02-28"},
		{"2096-02-29", 48, "2100-02-28"},
		{"2001-02-28", 12, "2002-02-28"},
		{"2003-02-28", 12, "2004-02-28"},
		{"2000-12-31", 2, "2001-02-28"},
		{"2003-12-31", 2, "2004-02-29"},
		{"2005-11-30", 1, "2005-12-30"},
		{"2005-12-01", 1, "2006-01-01"},
		{"2026-11-16", 12, "2027-11-16"},
	} {
		later, code := impl.AddMonths(dayOfDate(t, c.date), c.months)
		check(t, fmt.Sprint(c.months, " months after ", c.date), impl.DateText(later), c.want)
		check(t, fmt.Sprint("the code of ", c.months, " months after ", c.date), code, impl.OK)
	}
}

func TestP4MonthsLaterHaveLimits(t *testing.T) {
	lastYear := dayOfDate(t, "2272-10-15")
	for _, c := range []struct{ day, months, want, code int64 }{
		{impl.MaxDay, 0, impl.MaxDay, impl.OK},
		{impl.MaxDay, 1, 0, impl.ErrState},
		{impl.MaxDay, 2, 0, impl.ErrState},
		{impl.MaxDay, 3, 0, impl.ErrState},
		{impl.MaxDay, 12, 0, impl.ErrState},
		{impl.MaxDay, 1200, 0, impl.ErrState},
		{impl.MaxDay - 30, 1, impl.MaxDay, impl.OK},
		{impl.MaxDay - 29, 1, 0, impl.ErrState},
		{lastYear, 12, impl.MaxDay, impl.OK},
		{lastYear + 1, 12, 0, impl.ErrState},
		{lastYear + 1, 11, dayOfDate(t, "2273-09-16"), impl.OK},
		{dayOfDate(t, "2173-10-15"), 1200, impl.MaxDay, impl.OK},
		{dayOfDate(t, "2173-10-16"), 1200, 0, impl.ErrState},
		{dayOfDate(t, "2273-08-31"), 1, dayOfDate(t, "2273-09-30"), impl.OK},
		{dayOfDate(t, "2273-08-31"), 2, 0, impl.ErrState},
		{0, 1200, dayOfDate(t, "2100-01-01"), impl.OK},
		{0, 1201, 0, impl.ErrRange},
		{0, -1, 0, impl.ErrRange},
		{impl.MaxDay, 1201, 0, impl.ErrRange},
		{impl.MaxDay, -1, 0, impl.ErrRange},
		{-1, 0, 0, impl.ErrRange},
		{-1, 1, 0, impl.ErrRange},
		{impl.MaxDay + 1, 0, 0, impl.ErrRange},
		{impl.MaxDay + 1, 1200, 0, impl.ErrRange},
		{math.MinInt64, 1, 0, impl.ErrRange},
		{math.MaxInt64, 1, 0, impl.ErrRange},
		{5, math.MinInt64, 0, impl.ErrRange},
		{5, math.MaxInt64, 0, impl.ErrRange},
	} {
		day, code := impl.AddMonths(c.day, c.months)
		check(t, fmt.Sprint(c.months, " months after the day ", c.day), [2]int64{day, code}, [2]int64{c.want, c.code})
	}
}

func TestP4TheExampleIsAMonday(t *testing.T) {
	weekday, _ := impl.WeekdayOf(9816)
	check(t, "the text of 9816", impl.DateText(9816), "2026-11-16")
	check(t, "the weekday of 9816", weekday, 0)
	first, _ := impl.WeekdayOf(0)
	check(t, "the weekday of 0", first, 5)
}

// changedTexts are texts that differ from one by a byte that is another one, is missing, or is added.
func changedTexts(s string) []string {
	var list []string
	for i := range len(s) + 1 {
		for c := range 256 {
			one := string([]byte{byte(c)})
			list = append(list, s[:i]+one+s[i:])
			if i < len(s) {
				list = append(list, s[:i]+one+s[i+1:])
			}
		}
		if i < len(s) {
			list = append(list, s[:i]+s[i+1:])
		}
	}
	return list
}

// isDateText asks the standard library.
func isDateText(s string) bool {
	d, err := time.Parse(time.DateOnly, s)
	return err == nil && d.Format(time.DateOnly) == s && d.Year() >= 2000 && dayOfTime(d) <= impl.MaxDay
}

func TestP4OnlyDateTextsAreRead(t *testing.T) {
	texts := []string{"", "-", "--", "---", "2000-02-30", "2001-02-29", "2100-02-29", "2004-04-31", "1999-12-31", "2273-10-16", "2274-01-01", "0000-00-00", "9999-99-99",
		"2000-1-1", "2000-01-1", "2000-1-01", "02000-01-01", "2000-01-001", "2000-001-01", "2000--1-01", "2000-+1-01", "+2000-01-01", "-2000-01-01", "2000-01-01-", "-01-01", "2000-01", "2000-01-01-01",
		"2000/01/01", "20000101", " 2000-01-01", "2000-01-01 ", "2000-01-01\n", "2000-01-01T00:00:00Z", "2_00-01-01", "2000-0x1-01", "4294969296-01-01", "18446744073709553616-01-01", strings.Repeat("0", 1000) + "2000-01-01", strings.Repeat("-", 100000)}
	for _, s := range []string{"2000-01-01", "2000-02-29", "2001-02-28", "2026-11-16", "2099-12-31", "2100-01-01", "2199-09-09", "2273-10-15"} {
		texts = append(texts, s)
		texts = append(texts, changedTexts(s)...)
	}
	for _, s := range texts {
		day, ok := impl.ReadDate(s)
		check(t, "ReadDate "+strconv.Quote(s), ok, isDateText(s))
		if ok {
			check(t, "the text of the day of "+s, impl.DateText(day), s)
		} else {
			check(t, "the day of "+strconv.Quote(s), day, 0)
		}
	}
}

func TestP4ClockTextsAreReadBack(t *testing.T) {
	for minutes := range int64(impl.DayMinutes) {
		want := timeOf(2000, 1, 1).Add(time.Duration(minutes) * time.Minute).Format("15:04")
		check(t, fmt.Sprint("ClockText ", minutes), impl.ClockText(minutes), want)
		read, ok := impl.ReadClock(want)
		check(t, "ReadClock "+want, ok, true)
		check(t, "the minutes of "+want, read, minutes)
	}
	check(t, "ClockText 0", impl.ClockText(0), "00:00")
	check(t, "ClockText 65", impl.ClockText(65), "01:05")
	check(t, "ClockText 1439", impl.ClockText(1439), "23:59")
	for _, n := range append(numbersBeyond(0, impl.DayMinutes-1), -60, 2880) {
		check(t, fmt.Sprint("ClockText ", n), impl.ClockText(n), "")
	}
}

func TestP4OnlyClockTextsAreRead(t *testing.T) {
	canonical := regexp.MustCompile(`^([01][0-9]|2[0-3]):[0-5][0-9]$`)
	texts := slices.Concat(textsOver("0259:-+ ", 5), changedTexts("23:59"), changedTexts("00:00"), changedTexts("19:08"),
		[]string{"24:00", "23:60", "00:60", "22:119", "0:0", "00:00:00", "0000", "-1:60", "01:-1", "+1:05", "4294967296:00", "00:4294967296", "18446744073709551616:00", "00:0x1", "1:5_9", "\uff10\uff10:00", strings.Repeat(":", 100000), strings.Repeat("0", 1000) + ":00"})
	for _, s := range texts {
		minutes, ok := impl.ReadClock(s)
		check(t, "ReadClock "+strconv.Quote(s), ok, canonical.MatchString(s))
		if ok {
			check(t, "the text of the minutes of "+s, impl.ClockText(minutes), s)
		} else {
			check(t, "the minutes of "+strconv.Quote(s), minutes, 0)
		}
	}
}

// calendarAnswers prints the results of all functions of chapter 3 for some numbers.
func calendarAnswers(a, b, c int64) string {
	year, month, date, code := impl.DateOf(a)
	day, dayCode := impl.DayOf(a, b, c)
	length, lengthCode := impl.MonthDays(a, b)
	n, nCode := impl.DayOfYear(a)
	weekday, weekdayCode := impl.WeekdayOf(b)
	later, laterCode := impl.AddMonths(a, b)
	read, isDate := impl.ReadDate(impl.DateText(c))
	minutes, isClock := impl.ReadClock(impl.ClockText(c))
	return fmt.Sprint(year, month, date, code, day, dayCode, impl.IsLeap(a), length, lengthCode, n, nCode, weekday, weekdayCode,
		later, laterCode, impl.DateText(b), read, isDate, impl.ClockText(b), minutes, isClock)
}

func TestP1DatesHaveEqualResults(t *testing.T) {
	checkEqualResults(t, append(extremeNumbers(), 5, 12, 29, 1200, 1201, 1440, 2000, 2100, 2273, 2274, 36524, impl.MaxDay, impl.MaxDay+1), calendarAnswers)
}

func TestP1DatesDoNotDisturbEachOther(t *testing.T) {
	checkUndisturbed(t, func(n int64) string { return calendarAnswers(2000+n, 1+n, 28) })
}

func TestP1TextsOfDatesHaveEqualResults(t *testing.T) {
	checkEqualReadings(t, func(s string) string {
		return fmt.Sprint(impl.ReadDate(s)) + fmt.Sprint(impl.ReadClock(s))
	}, "2026-11-16", "2000-02-30", "23:59", "24:00")
}
