package tests

import (
	"fmt"
	"math/big"
	"slices"
	"strings"
	"testing"
	"time"

	"loop.example/g01026/impl"
)

// edgeTimes are numbers at and beside the limits of times and days.
var edgeTimes = numbers(-10000, -2, -1, 0, 1, 6, 7, 4999, 5000, 9999, 10000, 10001, 19999, 20000, 20035,
	99999, 100000, 100001, 9990000, 9999993, 9999999, 10000000, 10000001, 10010000)

// edgeDays are the first and the last days of years and months, and numbers at and beside the limits of days.
var edgeDays = numbers(-366, -365, -1, 0, 1, 6, 7, 30, 31, 58, 59, 60, 364, 365, 1094, 1095, 1153, 1154, 1155, 1460,
	1461, 36158, 36159, 36523, 36524, 999, 1000, 1001, 99999, 100000, 100001, 146097, 1000000)

func isTime(t int64) bool { return between(t, 0, 10_000_000) }

func isDay(day int64) bool { return between(day, 0, 100_000) }

// dayStart is when a day begins, by the calendar of the standard library.
func dayStart(day int64) time.Time {
	return time.Date(2001, time.January, 1, 0, 0, 0, 0, time.UTC).AddDate(0, 0, int(day))
}

func dateWanted(day int64) impl.Date {
	x := dayStart(day)
	return impl.Date{Year: int64(x.Year()), Month: int64(x.Month()), Day: int64(x.Day())}
}

// allDates returns the dates of all days, with their days.
func allDates() map[impl.Date]int64 {
	dates := map[impl.Date]int64{}
	for day := int64(0); day <= 100_000; day++ {
		dates[dateWanted(day)] = day
	}
	return dates
}

func TestConstantsOfTimes(t *testing.T) {
	same(t, "constants", "10000000 10000 100000 2001", impl.MaxTime, impl.DayUnits, impl.MaxDate, impl.FirstYear)
}

func TestValidTime(t *testing.T) {
	for n, want := range map[int64]bool{
		0: true, 1: true, 9999: true, 10000: true, 9999999: true, 10000000: true, -1: false, 10000001: false, -10000: false,
	} {
		if got := impl.ValidTime(n); got != want {
			t.Errorf("ValidTime(%d): got %v", n, got)
		}
	}
	for _, n := range edgeTimes {
		if got := impl.ValidTime(n); got != isTime(n) {
			t.Errorf("ValidTime(%d): got %v", n, got)
		}
	}
}

func TestDayOf(t *testing.T) {
	for n, want := range map[int64]string{
		0: "0 0", 1: "0 0", 9999: "0 0", 10000: "1 0", 10001: "1 0", 19999: "1 0", 29999: "2 0", 9990000: "999 0",
		9999999: "999 0", 10000000: "1000 0", 10000001: "0 2", -1: "0 2", -10000: "0 2", -10001: "0 2",
	} {
		day, code := impl.DayOf(n)
		same(t, fmt.Sprint("DayOf ", n), want, day, code)
	}
	for _, n := range extremes {
		day, code := impl.DayOf(n)
		same(t, fmt.Sprint("DayOf ", n), "0 2", day, code)
	}
}

func TestClockOf(t *testing.T) {
	for n, want := range map[int64]string{
		0: "0 0 0", 6: "0 0 0", 7: "0 1 0", 13: "0 1 0", 14: "0 2 0", 416: "0 59 0", 417: "1 0 0", 4999: "11 59 0",
		5000: "12 0 0", 9583: "22 59 0", 9584: "23 0 0", 9993: "23 58 0", 9994: "23 59 0", 9999: "23 59 0", 10000: "0 0 0",
		10006: "0 0 0", 10007: "0 1 0", 25000: "12 0 0", 29999: "23 59 0", 9999999: "23 59 0", 10000000: "0 0 0",
		10000001: "0 0 2", -1: "0 0 2", -5000: "0 0 2",
	} {
		hour, minute, code := impl.ClockOf(n)
		same(t, fmt.Sprint("ClockOf ", n), want, hour, minute, code)
	}
	for _, n := range extremes {
		hour, minute, code := impl.ClockOf(n)
		same(t, fmt.Sprint("ClockOf ", n), "0 0 2", hour, minute, code)
	}
}

// minuteWanted counts the minutes of a day that have begun with the rest of a time.
func minuteWanted(rest int64) int64 {
	minute := int64(0)
	for (minute+1)*10000 <= rest*1440 {
		minute++
	}
	return minute
}

func TestClocksOfWholeDays(t *testing.T) {
	for rest := int64(0); rest < 10000; rest++ {
		minute := minuteWanted(rest)
		want := fmt.Sprint(minute/60, minute%60, 0)
		for _, day := range []int64{0, 1, 500, 999} {
			h, m, code := impl.ClockOf(day*10000 + rest)
			if got := fmt.Sprint(h, m, code); got != want {
				t.Fatalf("ClockOf(%d): got %s, want %s", day*10000+rest, got, want)
			}
		}
	}
}

func TestTimeOf(t *testing.T) {
	for _, x := range []struct{ day, hour, minute, want, code int64 }{
		{0, 0, 0, 0, 0}, {0, 0, 1, 7, 0}, {0, 0, 2, 14, 0}, {0, 0, 59, 410, 0}, {0, 1, 0, 417, 0}, {0, 12, 0, 5000, 0},
		{0, 11, 59, 4994, 0}, {0, 23, 0, 9584, 0}, {0, 23, 59, 9994, 0}, {2, 12, 0, 25000, 0}, {1, 0, 0, 10000, 0},
		{999, 23, 59, 9999994, 0}, {1000, 0, 0, 10000000, 0}, {1000, 0, 1, 0, impl.ErrFull}, {1000, 23, 59, 0, impl.ErrFull},
		{1001, 0, 0, 0, impl.ErrFull}, {100000, 0, 0, 0, impl.ErrFull}, {100000, 23, 59, 0, impl.ErrFull},
		{100001, 0, 0, 0, impl.ErrRange}, {-1, 0, 0, 0, impl.ErrRange}, {0, -1, 0, 0, impl.ErrRange}, {0, 24, 0, 0, impl.ErrRange},
		{0, 0, -1, 0, impl.ErrRange}, {0, 0, 60, 0, impl.ErrRange}, {1, 1, -1, 0, impl.ErrRange}, {1, -1, 60, 0, impl.ErrRange},
		{1000, 24, 0, 0, impl.ErrRange}, {1000, 0, 60, 0, impl.ErrRange}, {100001, 24, 60, 0, impl.ErrRange},
	} {
		got, code := impl.TimeOf(x.day, x.hour, x.minute)
		same(t, fmt.Sprint("TimeOf", x), fmt.Sprint(x.want, x.code), got, code)
	}
}

// leastWanted looks for the least time of a day with an hour and a minute, one after the other.
func leastWanted(day, hour, minute int64) int64 {
	for rest := int64(0); rest < 10000; rest++ {
		if m := rest * 1440 / 10000; m/60 == hour && m%60 == minute {
			return day*10000 + rest
		}
	}
	return -1
}

func TestTimeOfIsTheLeastOne(t *testing.T) {
	for hour := int64(0); hour < 24; hour++ {
		for minute := int64(0); minute < 60; minute++ {
			for _, day := range []int64{0, 1, 999} {
				got, code := impl.TimeOf(day, hour, minute)
				h, m, codeBack := impl.ClockOf(got)
				back, codeDay := impl.DayOf(got)
				if got != leastWanted(day, hour, minute) || code != 0 || h != hour || m != minute || codeBack != 0 || back != day || codeDay != 0 {
					t.Fatalf("TimeOf(%d, %d, %d): got %d %d, at %d:%d of %d", day, hour, minute, got, code, h, m, back)
				}
			}
		}
	}
}

func timeWanted(day, hour, minute int64) (int64, int64) {
	if !isDay(day) || !between(hour, 0, 23) || !between(minute, 0, 59) {
		return 0, impl.ErrRange
	}
	if n := leastWanted(day, hour, minute); isTime(n) {
		return n, impl.OK
	}
	return 0, impl.ErrFull
}

func TestTimeOfForAllArguments(t *testing.T) {
	for _, day := range numbers(-1, 0, 1, 999, 1000, 1001, 100000, 100001) {
		for _, hour := range numbers(-1, 0, 1, 12, 22, 23, 24, 25) {
			for _, minute := range numbers(-1, 0, 1, 30, 58, 59, 60, 61) {
				want, wantCode := timeWanted(day, hour, minute)
				got, code := impl.TimeOf(day, hour, minute)
				again, codeAgain := impl.TimeOf(day, hour, minute)
				if got != want || code != wantCode || again != got || codeAgain != code {
					t.Fatalf("TimeOf(%d, %d, %d): got %d %d, want %d %d", day, hour, minute, got, code, want, wantCode)
				}
			}
		}
	}
}

func TestHoursBetween(t *testing.T) {
	for _, x := range []struct {
		a, b int64
		want string
	}{
		{0, 10000, "{24 1} 0"}, {10000, 5000, "{-12 1} 0"}, {10000, 0, "{-24 1} 0"}, {0, 0, "{0 1} 0"},
		{777, 777, "{0 1} 0"}, {0, 1, "{3 1250} 0"}, {1, 0, "{-3 1250} 0"}, {0, 417, "{1251 1250} 0"},
		{0, 625, "{3 2} 0"}, {625, 0, "{-3 2} 0"}, {0, 1250, "{3 1} 0"}, {0, 10000000, "{24000 1} 0"},
		{10000000, 0, "{-24000 1} 0"}, {9999999, 10000000, "{3 1250} 0"}, {10000000, 1, "{-29999997 1250} 0"},
		{-1, 0, "{0 0} 2"}, {0, -1, "{0 0} 2"}, {10000001, 0, "{0 0} 2"}, {0, 10000001, "{0 0} 2"}, {-1, -1, "{0 0} 2"},
	} {
		f, code := impl.HoursBetween(x.a, x.b)
		same(t, fmt.Sprint("HoursBetween", x), x.want, f, code)
	}
}

func TestHoursBetweenForAllArguments(t *testing.T) {
	for _, a := range edgeTimes {
		for _, b := range edgeTimes {
			want, wantCode := impl.Fraction{}, int64(impl.ErrRange)
			if isTime(a) && isTime(b) {
				x := big.NewRat(24*(b-a), 10000)
				want, wantCode = impl.Fraction{Num: x.Num().Int64(), Den: x.Denom().Int64()}, impl.OK
			}
			got, code := impl.HoursBetween(a, b)
			again, codeAgain := impl.HoursBetween(a, b)
			if got != want || code != wantCode || again != got || codeAgain != code {
				t.Fatalf("HoursBetween(%d, %d): got %v %d, want %v %d", a, b, got, code, want, wantCode)
			}
		}
	}
}

// datesWithDays are dates at the ends of months and years, of leap years and others, and their days.
var datesWithDays = []struct {
	date impl.Date
	day  int64
	text string
}{
	{impl.Date{Year: 2001, Month: 1, Day: 1}, 0, "2001-01-01"},
	{impl.Date{Year: 2001, Month: 1, Day: 31}, 30, "2001-01-31"},
	{impl.Date{Year: 2001, Month: 2, Day: 28}, 58, "2001-02-28"},
	{impl.Date{Year: 2001, Month: 3, Day: 1}, 59, "2001-03-01"},
	{impl.Date{Year: 2001, Month: 12, Day: 31}, 364, "2001-12-31"},
	{impl.Date{Year: 2002, Month: 1, Day: 1}, 365, "2002-01-01"},
	{impl.Date{Year: 2003, Month: 12, Day: 31}, 1094, "2003-12-31"},
	{impl.Date{Year: 2004, Month: 1, Day: 1}, 1095, "2004-01-01"},
	{impl.Date{Year: 2004, Month: 2, Day: 28}, 1153, "2004-02-28"},
	{impl.Date{Year: 2004, Month: 2, Day: 29}, 1154, "2004-02-29"},
	{impl.Date{Year: 2004, Month: 3, Day: 1}, 1155, "2004-03-01"},
	{impl.Date{Year: 2004, Month: 12, Day: 31}, 1460, "2004-12-31"},
	{impl.Date{Year: 2005, Month: 1, Day: 1}, 1461, "2005-01-01"},
	{impl.Date{Year: 2100, Month: 1, Day: 1}, 36159, "2100-01-01"},
	{impl.Date{Year: 2100, Month: 2, Day: 28}, 36217, "2100-02-28"},
	{impl.Date{Year: 2100, Month: 3, Day: 1}, 36218, "2100-03-01"},
	{impl.Date{Year: 2100, Month: 12, Day: 31}, 36523, "2100-12-31"},
	{impl.Date{Year: 2101, Month: 1, Day: 1}, 36524, "2101-01-01"},
	{impl.Date{Year: 2200, Month: 2, Day: 28}, 72741, "2200-02-28"},
	{impl.Date{Year: 2200, Month: 3, Day: 1}, 72742, "2200-03-01"},
	{impl.Date{Year: 2200, Month: 12, Day: 31}, 73047, "2200-12-31"},
	{impl.Date{Year: 2273, Month: 12, Day: 31}, 99710, "2273-12-31"},
	{impl.Date{Year: 2274, Month: 10, Day: 16}, 99999, "2274-10-16"},
	{impl.Date{Year: 2274, Month: 10, Day: 17}, 100000, "2274-10-17"},
}

func TestDates(t *testing.T) {
	for _, x := range datesWithDays {
		d, one := impl.DateOf(x.day)
		n, two := impl.DayNumber(x.date)
		back, ok := impl.ReadDate(x.text)
		same(t, "date "+x.text, fmt.Sprint(x.date, 0, x.day, 0, x.date, true, true)+" "+x.text,
			d, one, n, two, back, ok, impl.ValidDate(x.date), impl.DateText(x.date))
	}
}

// TestDatesAndDaysAreInverses is promise 3, for all days.
func TestDatesAndDaysAreInverses(t *testing.T) {
	for day := int64(0); day <= impl.MaxDate; day++ {
		d, code := impl.DateOf(day)
		if d != dateWanted(day) || code != impl.OK {
			t.Fatalf("DateOf(%d): got %v %d", day, d, code)
		}
		if n, code := impl.DayNumber(d); n != day || code != impl.OK {
			t.Fatalf("DayNumber(%v): got %d %d, want %d", d, n, code, day)
		}
		text := impl.DateText(d)
		if text != dayStart(day).Format("2006-01-02") {
			t.Fatalf("DateText(%v): got %q", d, text)
		}
		if back, ok := impl.ReadDate(text); back != d || !ok {
			t.Fatalf("ReadDate(%q): got %v %v", text, back, ok)
		}
	}
}

// TestEachDateHasItsDay is promise 3 from the other side: there are no dates but those of days.
func TestEachDateHasItsDay(t *testing.T) {
	days := allDates()
	for year := int64(1999); year <= 2276; year++ {
		for month := int64(-1); month <= 14; month++ {
			for n := int64(-1); n <= 33; n++ {
				d := impl.Date{Year: year, Month: month, Day: n}
				checkDate(t, d, days)
			}
		}
	}
	for _, x := range numbers(-2001, -1, 0, 1, 2, 12, 13, 400, 2000) {
		checkDate(t, impl.Date{Year: x, Month: 1, Day: 1}, days)
		checkDate(t, impl.Date{Year: 2004, Month: x, Day: 1}, days)
		checkDate(t, impl.Date{Year: 2004, Month: 2, Day: x}, days)
		checkDate(t, impl.Date{Year: x, Month: x, Day: x}, days)
	}
	checkDate(t, impl.Date{}, days)
}

// TestYearsWhoseDaysWrapAround tries the years that are about a multiple of 2^64 days away from
// those of dates, the number of whose days looks like that of a date in 64 bits.
func TestYearsWhoseDaysWrapAround(t *testing.T) {
	around := new(big.Int).Lsh(big.NewInt(400), 64)
	for k := int64(-180); k <= 180; k++ {
		if k == 0 {
			continue
		}
		years := new(big.Int).Mul(around, big.NewInt(k))
		years.Quo(years, big.NewInt(400*365+97))
		for n := int64(1990); n < 2290; n++ {
			d := impl.Date{Year: years.Int64() + n, Month: 3, Day: 1}
			checkDate(t, d, nil)
		}
	}
}

func checkDate(t *testing.T, d impl.Date, days map[impl.Date]int64) {
	t.Helper()
	day, valid := days[d]
	if impl.ValidDate(d) != valid {
		t.Fatalf("ValidDate(%v): got %v", d, !valid)
	}
	n, code := impl.DayNumber(d)
	if valid && (n != day || code != impl.OK) || !valid && (n != 0 || code != impl.ErrInvalid) {
		t.Fatalf("DayNumber(%v): got %d %d", d, n, code)
	}
	if text := impl.DateText(d); valid == (text == "") {
		t.Fatalf("DateText(%v): got %q", d, text)
	}
}

func TestDateOfOtherNumbers(t *testing.T) {
	for _, day := range edgeDays {
		d, code := impl.DateOf(day)
		if isDay(day) {
			same(t, fmt.Sprint("DateOf ", day), fmt.Sprint(dateWanted(day), 0), d, code)
			continue
		}
		same(t, fmt.Sprint("DateOf ", day), "{0 0 0} 2", d, code)
	}
}

func TestWeekdayOf(t *testing.T) {
	for day, want := range map[int64]string{
		0: "1 0", 1: "2 0", 6: "7 0", 7: "1 0", 13: "7 0", 14: "1 0", 99999: "5 0", 100000: "6 0", 100001: "0 2", -1: "0 2", -7: "0 2",
	} {
		n, code := impl.WeekdayOf(day)
		same(t, fmt.Sprint("WeekdayOf ", day), want, n, code)
	}
	for _, day := range extremes {
		n, code := impl.WeekdayOf(day)
		same(t, fmt.Sprint("WeekdayOf ", day), "0 2", n, code)
	}
	// The day 0 was a Monday.
	for day := int64(0); day <= impl.MaxDate; day++ {
		want := (int64(dayStart(day).Weekday())+6)%7 + 1
		if n, code := impl.WeekdayOf(day); n != want || code != impl.OK {
			t.Fatalf("WeekdayOf(%d): got %d %d, want %d", day, n, code, want)
		}
	}
}

func TestReadDateOfNearlyRightTexts(t *testing.T) {
	list := append(slices.Clone(oddTexts),
		"2001-02-29", "2100-02-29", "2200-02-29", "2004-02-30", "2001-04-31", "2001-01-32", "2001-12-32", "2001-13-01", "2001-00-01", "2001-01-00",
		"2000-12-31", "2000-02-29", "2274-10-18", "2274-11-01", "2275-01-01", "2400-02-29", "0000-00-00", "0001-01-01", "9999-12-31",
		"2001-1-1", "2001-01-1", "2001-1-01", "2001-001-01", "2001-01-001", "02001-01-01", "12001-01-01", "201-01-01", "01-01-01",
		"2001", "2001-", "2001-01", "2001-01-", "-2001-01-01", "--", "---", "2001-01-01-", "2001-01-01-01", "2001--01-01", "2001-01--01", "2001-01-01\n",
		"2001/01/01", "2001.01.01", "20010101", "2001 01 01", " 2001-01-01", "2001-01-01 ", "2001- 1-01", "2001-01- 1", "2001-01-01T00", "+2001-01-01",
		"2001-+1-01", "2001-01-+1", "2001--1-01", "2001-01--1", "2001-0x-01", "0x7d1-01-01", "2e3-01-01", "2_001-01-01", "2001-01-01\x00", "\x002001-01-01",
		"2001-01-\xff1", "\xff001-01-01", "2001\xe2\x88\x9201\xe2\x88\x9201", "２001-01-01", "2001-٠1-01", "2001-jan-01", "1-1-2001", "01-01-2001",
		"9223372036854775807-01-01", "2001-9223372036854775807-01", "2001-01-9223372036854775808", "18446744073709553617-01-01", "2001-18446744073709551617-01",
		strings.Repeat("-", 1000), strings.Repeat("0", 1000)+"2001-01-01", "2001-01-01"+strings.Repeat("0", 1000))
	for _, s := range list {
		if d, ok := impl.ReadDate(s); d != (impl.Date{}) || ok {
			t.Errorf("ReadDate(%q): got %v %v", s, d, ok)
		}
	}
}

// TestReadDateWithOtherBytes puts each byte in turn at each place of texts of dates.
func TestReadDateWithOtherBytes(t *testing.T) {
	texts := map[string]impl.Date{}
	for d, day := range allDates() {
		texts[dayStart(day).Format("2006-01-02")] = d
	}
	for _, x := range datesWithDays {
		for i := range x.text {
			checkReadDate(t, x.text[:i]+x.text[i+1:], texts)
			for c := range 256 {
				checkReadDate(t, x.text[:i]+string([]byte{byte(c)})+x.text[i+1:], texts)
				checkReadDate(t, x.text[:i]+string([]byte{byte(c)})+x.text[i:], texts)
			}
		}
	}
}

func checkReadDate(t *testing.T, s string, texts map[string]impl.Date) {
	t.Helper()
	want, wantOk := texts[s]
	if got, ok := impl.ReadDate(s); got != want || ok != wantOk {
		t.Fatalf("ReadDate(%q): got %v %v, want %v %v", s, got, ok, want, wantOk)
	}
}

func TestTimeText(t *testing.T) {
	for n, want := range map[int64]string{
		0: "0.0000", 1: "0.0001", 10: "0.0010", 999: "0.0999", 9999: "0.9999", 10000: "1.0000", 10001: "1.0001", 20035: "2.0035",
		100000: "10.0000", 123456: "12.3456", 1000000: "100.0000", 9999999: "999.9999", 10000000: "1000.0000",
		-1: "", -10000: "", 10000001: "",
	} {
		if got := impl.TimeText(n); got != want {
			t.Errorf("TimeText(%d): got %q, want %q", n, got, want)
		}
	}
	for _, n := range extremes {
		if got := impl.TimeText(n); got != "" {
			t.Errorf("TimeText(%d): got %q", n, got)
		}
	}
}

func TestReadTimeGivesBackTimes(t *testing.T) {
	list := []int64{impl.MaxTime, impl.MaxTime - 1}
	for n := int64(0); n < 30000; n++ {
		list = append(list, n)
	}
	for n := int64(30000); n <= impl.MaxTime; n += 97 {
		list = append(list, n)
	}
	for _, n := range list {
		if got, ok := impl.ReadTime(impl.TimeText(n)); got != n || !ok {
			t.Fatalf("ReadTime(%q): got %d %v, want %d", impl.TimeText(n), got, ok, n)
		}
	}
}

func TestReadTimeOfNearlyRightTexts(t *testing.T) {
	list := append(slices.Clone(oddTexts),
		"0", "2", "2.", "2.3", "2.35", "2.035", "2.00350", "2.000", "20035", "200.35", "2003.5", "20.035", "20035.", ".20035", ".0035", "0.", "0.0",
		"02.0000", "00.0000", "002.0035", "+2.0035", "-2.0035", "-0.0000", "-0.0001", "-1.0000", "--2.0035", "- 2.0035", "2 .0035", "2. 035",
		"2..0035", "2.00.35", "2.0035.", ".2.0035", "2.-035", "2.+035", "2.00a5", "a.0035", "2:0035", "2-0035", "2,0035", "2.0035 ", " 2.0035", "2.0035\n",
		"1000.0001", "1000.00000", "1001.0000", "10000.0000", "99999.9999", "2_0.0035", "0x2.0035", "2.0035\x00", "\x002.0035", "2\xff.0035", "2.003\xff",
		"２.0035", "2\u066b0035", "922337203685477.5807", "-922337203685477.5808", "922337203685477.5808", "1844674407370955.1616", "1844674407370957.1651",
		strings.Repeat("0", 1000)+"2.0035", "2.0035"+strings.Repeat("0", 1000), strings.Repeat(".", 1000))
	for _, s := range list {
		if got, ok := impl.ReadTime(s); got != 0 || ok {
			t.Errorf("ReadTime(%q): got %d %v", s, got, ok)
		}
	}
}

// readTimeWanted reads the text of a time byte by byte.
func readTimeWanted(s string) (int64, bool) {
	n := int64(0)
	for i := range len(s) {
		if i == len(s)-5 {
			if s[i] != '.' || i == 0 {
				return 0, false
			}
			continue
		}
		if s[i] < '0' || s[i] > '9' || s[0] == '0' && i > 0 && i < len(s)-5 {
			return 0, false
		}
		n = 10*n + int64(s[i]-'0')
	}
	if len(s) < 6 || !isTime(n) {
		return 0, false
	}
	return n, true
}

// TestReadTimeWithOtherBytes puts each byte in turn at each place of texts of times.
func TestReadTimeWithOtherBytes(t *testing.T) {
	for _, text := range []string{"0.0000", "0.0001", "2.0035", "9.9999", "10.0000", "12.3456", "999.9999", "1000.0000"} {
		for i := range text {
			list := []string{text[:i] + text[i+1:]}
			for c := range 256 {
				x := string([]byte{byte(c)})
				list = append(list, text[:i]+x+text[i+1:], text[:i]+x+text[i:])
			}
			for _, s := range list {
				want, wantOk := readTimeWanted(s)
				if got, ok := impl.ReadTime(s); got != want || ok != wantOk {
					t.Fatalf("ReadTime(%q): got %d %v, want %d %v", s, got, ok, want, wantOk)
				}
			}
		}
	}
}

// TestTimesForAllArguments is promise 1 for chapter 3: each call returns, and returns the same again.
func TestTimesForAllArguments(t *testing.T) {
	for _, n := range append(slices.Clone(edgeTimes), edgeDays...) {
		twice(t, "numbers", func() []any {
			day, one := impl.DayOf(n)
			hour, minute, two := impl.ClockOf(n)
			date, three := impl.DateOf(n)
			weekday, four := impl.WeekdayOf(n)
			return []any{impl.ValidTime(n), day, one, hour, minute, two, date, three, weekday, four, impl.TimeText(n)}
		})
	}
	for _, year := range numbers(-1, 0, 2000, 2001, 2004, 2274, 2275) {
		for _, month := range numbers(-1, 0, 1, 2, 3, 12, 13) {
			for _, day := range numbers(-1, 0, 1, 28, 29, 30, 31, 32) {
				d := impl.Date{Year: year, Month: month, Day: day}
				twice(t, "dates", func() []any {
					n, code := impl.DayNumber(d)
					return []any{impl.ValidDate(d), n, code, impl.DateText(d)}
				})
			}
		}
	}
	for _, s := range append(slices.Clone(oddTexts), "2001-01-01", "2274-10-17", "2.0035", "1000.0000", strings.Repeat("\xff-.", 3000)) {
		twice(t, "texts", func() []any {
			d, one := impl.ReadDate(s)
			n, two := impl.ReadTime(s)
			return []any{d, one, n, two}
		})
	}
}
