package tests

import (
	"fmt"
	"math"
	"regexp"
	"strconv"
	"strings"
	"testing"
	"time"

	"loop.example/g00896/impl"
)

var datePattern = regexp.MustCompile(`\A(c?)([0-9]{4})(?:-([0-9]{2})(?:-([0-9]{2}))?)?\z`)

func day(year, month, day int) impl.Date { return impl.Date{Year: year, Month: month, Day: day} }

func month(year, month int) impl.Date { return impl.Date{Year: year, Month: month} }

func year(year int) impl.Date { return impl.Date{Year: year} }

func circa(year int) impl.Date { return impl.Date{Year: year, Circa: true} }

// lastDay takes the number of days from the calendar of the standard library.
func lastDay(year, month int) int {
	return time.Date(year, time.Month(month)+1, 0, 0, 0, 0, 0, time.UTC).Day()
}

// datesOfYear returns all valid dates with a Year.
func datesOfYear(y int) []impl.Date {
	all := []impl.Date{year(y), circa(y)}
	for m := 1; m <= 12; m++ {
		all = append(all, month(y, m))
		for d := 1; d <= lastDay(y, m); d++ {
			all = append(all, day(y, m, d))
		}
	}
	return all
}

// someDates returns the unknown date and dates of all precisions that have parts in common.
func someDates() []impl.Date {
	all := []impl.Date{{}}
	for _, y := range []int{1, 2, 10, 12, 987, 1850, 1900, 1999, 2000, impl.MaxYear - 1, impl.MaxYear} {
		all = append(all, year(y), circa(y))
		for _, m := range []int{1, 2, 10, 12} {
			all = append(all, month(y, m), day(y, m, 1), day(y, m, 2), day(y, m, 12), day(y, m, 28))
		}
	}
	return all
}

// invalidDates returns dates that break a rule of the chapter.
func invalidDates() []impl.Date {
	all := []impl.Date{
		// Without a Year there is nothing else.
		{Month: 5}, {Day: 3}, {Month: 5, Day: 3}, {Circa: true},
		{Month: 5, Circa: true}, {Day: 3, Circa: true}, {Month: 5, Day: 3, Circa: true},
		// A Day without a Month.
		{Year: 1999, Day: 1}, {Year: 1999, Day: 31}, {Year: 1999, Day: -1}, {Year: 1999, Day: 3, Circa: true},
		// An approximate year with more parts.
		{Year: 1999, Month: 5, Circa: true}, {Year: 1999, Month: 5, Day: 3, Circa: true},
		{Year: 1999, Month: -5, Circa: true}, {Year: 1999, Month: 13, Circa: true}, {Year: 1999, Day: -3, Circa: true},
		// February.
		day(1999, 2, 29), day(1900, 2, 29), day(2100, 2, 29), day(2000, 2, 30), day(2004, 2, 30), day(4, 2, 30), day(1, 2, 29),
	}
	for _, y := range []int{-1, -4, -1999, impl.MaxYear + 1, 3200, 9999, 10000, 12999, math.MinInt, math.MaxInt, 1 << 32, 1<<32 + 1999} {
		all = append(all, year(y), circa(y), month(y, 5), day(y, 5, 3))
	}
	for _, m := range []int{-1, -5, -12, 13, 14, 99, 100, math.MinInt, math.MaxInt, 1<<32 + 5} {
		all = append(all, month(1999, m), day(1999, m, 3))
	}
	for m := 1; m <= 12; m++ {
		for _, d := range []int{-1, -3, 32, 99, 100, math.MinInt, math.MaxInt, 1<<32 + 3} {
			all = append(all, day(1999, m, d))
		}
		for _, y := range []int{1, 4, 1900, 1999, 2000, impl.MaxYear} {
			all = append(all, day(y, m, lastDay(y, m)+1))
		}
	}
	return all
}

// dateOf reads a text by its own reading of the chapter, whatever the program does.
func dateOf(s string) (impl.Date, bool) {
	if s == "unknown" {
		return impl.Date{}, true
	}
	found := datePattern.FindStringSubmatch(s)
	if found == nil {
		return impl.Date{}, false
	}
	y, _ := strconv.Atoi(found[2])
	m, _ := strconv.Atoi(found[3])
	d, _ := strconv.Atoi(found[4])
	switch {
	case y < 1 || y > 2999:
		return impl.Date{}, false
	case found[3] == "":
		return impl.Date{Year: y, Circa: found[1] != ""}, true
	case found[1] != "" || m < 1 || m > 12:
		return impl.Date{}, false
	case found[4] != "" && (d < 1 || d > lastDay(y, m)):
		return impl.Date{}, false
	}
	return day(y, m, d), true
}

// textOf writes the text of a valid date, whatever the program does.
func textOf(d impl.Date) string {
	switch {
	case d.Year == 0:
		return "unknown"
	case d.Circa:
		return fmt.Sprintf("c%04d", d.Year)
	case d.Month == 0:
		return fmt.Sprintf("%04d", d.Year)
	case d.Day == 0:
		return fmt.Sprintf("%04d-%02d", d.Year, d.Month)
	}
	return fmt.Sprintf("%04d-%02d-%02d", d.Year, d.Month, d.Day)
}

// refinesByText compares the texts of valid dates: what is more precise continues the other text.
func refinesByText(a, b impl.Date) bool {
	if b.Year == 0 {
		return true
	}
	if a.Circa && !b.Circa {
		return false
	}
	return strings.HasPrefix(strings.TrimPrefix(textOf(a), "c"), strings.TrimPrefix(textOf(b), "c"))
}

func TestLimitOfYears(t *testing.T) {
	if impl.MaxYear != 2999 {
		t.Error("limit", impl.MaxYear)
	}
}

func TestValidDates(t *testing.T) {
	for _, d := range append(someDates(),
		year(1), circa(1), month(1, 1), day(1, 1, 1),
		year(impl.MaxYear), circa(impl.MaxYear), month(impl.MaxYear, 12), day(impl.MaxYear, 12, 31),
		day(4, 2, 29), day(2000, 2, 29), day(2004, 2, 29), day(2400, 2, 29), day(1900, 2, 28),
	) {
		if !impl.IsValidDate(d) {
			t.Errorf("IsValidDate(%v) = false", d)
		}
	}
	for _, d := range invalidDates() {
		if impl.IsValidDate(d) {
			t.Errorf("IsValidDate(%v) = true", d)
		}
	}
}

func TestEveryMonthHasTheDaysOfTheCalendar(t *testing.T) {
	for y := 1; y <= impl.MaxYear; y++ {
		for m := 1; m <= 12; m++ {
			last := lastDay(y, m)
			if n, ok := impl.DaysInMonth(y, m); !ok || n != last {
				t.Fatalf("DaysInMonth(%d, %d) = %d, %v, not %d", y, m, n, ok, last)
			}
			if !impl.IsValidDate(day(y, m, last)) || impl.IsValidDate(day(y, m, last+1)) {
				t.Fatalf("the last day of %d-%d is %d", y, m, last)
			}
		}
	}
}

func TestFebruary(t *testing.T) {
	for y, days := range map[int]int{
		1: 28, 4: 29, 100: 28, 400: 29, 1600: 29, 1700: 28, 1800: 28, 1900: 28, 1999: 28,
		2000: 29, 2004: 29, 2100: 28, 2400: 29, 2800: 29, 2900: 28, 2996: 29, 2999: 28,
	} {
		if n, ok := impl.DaysInMonth(y, 2); !ok || n != days {
			t.Errorf("DaysInMonth(%d, 2) = %d, %v", y, n, ok)
		}
	}
}

func TestDaysInMonthOutsideItsBounds(t *testing.T) {
	for _, c := range [][2]int{
		{0, 1}, {0, 2}, {0, 0}, {-1, 1}, {-4, 2}, {impl.MaxYear + 1, 1}, {3200, 2}, {math.MinInt, 2}, {math.MaxInt, 2},
		{1, 0}, {1999, 0}, {1999, -1}, {1999, -2}, {1999, 13}, {2000, 14}, {impl.MaxYear, 13}, {1999, math.MinInt}, {1999, math.MaxInt},
		{1 << 32, 2}, {1999, 1<<32 + 2},
	} {
		if n, ok := impl.DaysInMonth(c[0], c[1]); ok || n != 0 {
			t.Errorf("DaysInMonth(%d, %d) = %d, %v", c[0], c[1], n, ok)
		}
	}
}

func TestTextsOfDates(t *testing.T) {
	for _, c := range []struct {
		date       impl.Date
		text, long string
	}{
		{impl.Date{}, "unknown", "n.d."},
		{day(1999, 5, 3), "1999-05-03", "3 May 1999"},
		{month(1999, 5), "1999-05", "May 1999"},
		{year(1999), "1999", "1999"},
		{circa(1850), "c1850", "ca. 1850"},
		{year(987), "0987", "987"},
		{circa(987), "c0987", "ca. 987"},
		{year(45), "0045", "45"},
		{year(1), "0001", "1"},
		{circa(1), "c0001", "ca. 1"},
		{day(1, 1, 1), "0001-01-01", "1 January 1"},
		{month(7, 10), "0007-10", "October 7"},
		{day(987, 12, 31), "0987-12-31", "31 December 987"},
		{year(1000), "1000", "1000"},
		{year(impl.MaxYear), "2999", "2999"},
		{circa(impl.MaxYear), "c2999", "ca. 2999"},
		{day(impl.MaxYear, 12, 31), "2999-12-31", "31 December 2999"},
		{day(2000, 2, 29), "2000-02-29", "29 February 2000"},
		{day(2000, 10, 10), "2000-10-10", "10 October 2000"},
	} {
		if s, ok := impl.FormatDate(c.date); !ok || s != c.text {
			t.Errorf("FormatDate(%v) = %q, %v", c.date, s, ok)
		}
		if d, ok := impl.ParseDate(c.text); !ok || d != c.date {
			t.Errorf("ParseDate(%q) = %v, %v", c.text, d, ok)
		}
		if s, ok := impl.LongDate(c.date); !ok || s != c.long {
			t.Errorf("LongDate(%v) = %q, %v", c.date, s, ok)
		}
	}
}

func TestNamesOfMonths(t *testing.T) {
	for m := 1; m <= 12; m++ {
		want := time.Month(m).String()
		if s, ok := impl.LongDate(month(1999, m)); !ok || s != want+" 1999" {
			t.Errorf("month %d: %q, %v", m, s, ok)
		}
		if s, ok := impl.LongDate(day(987, m, 10)); !ok || s != "10 "+want+" 987" {
			t.Errorf("a day of month %d: %q, %v", m, s, ok)
		}
	}
}

func TestEveryDateIsParsedBack(t *testing.T) {
	for y := 1; y <= impl.MaxYear; y++ {
		for _, d := range datesOfYear(y) {
			s, ok := impl.FormatDate(d)
			if want := textOf(d); !ok || s != want {
				t.Fatalf("FormatDate(%v) = %q, %v, not %q", d, s, ok, want)
			}
			if back, ok := impl.ParseDate(s); !ok || back != d {
				t.Fatalf("ParseDate(%q) = %v, %v", s, back, ok)
			}
		}
	}
}

// checkDates compares what ParseDate makes of texts with what dateOf makes of them.
func checkDates(t *testing.T, texts []string) {
	t.Helper()
	for _, s := range texts {
		want, isDate := dateOf(s)
		if d, ok := impl.ParseDate(s); ok != isDate || d != want {
			t.Fatalf("ParseDate(%q) = %v, %v, not %v, %v", s, d, ok, want, isDate)
		}
	}
}

func TestParseDateOfAllShortTexts(t *testing.T) {
	checkDates(t, stringsOver("0123-c", 7))
	checkDates(t, stringsOver("29-+ ", 7))
}

func TestParseDateOfAllPartsOfTwoDigits(t *testing.T) {
	for _, y := range []string{"0000", "0001", "1900", "1999", "2000", "2999", "3000", "c1999"} {
		for m := range 100 {
			texts := []string{fmt.Sprintf("%s-%02d", y, m), fmt.Sprintf("%s-%d", y, m)}
			for d := range 100 {
				texts = append(texts, fmt.Sprintf("%s-%02d-%02d", y, m, d), fmt.Sprintf("%s-%02d-%d", y, m, d))
			}
			checkDates(t, texts)
		}
	}
}

func TestParseDateOfAllYears(t *testing.T) {
	for y := range 13000 {
		checkDates(t, []string{
			fmt.Sprintf("%04d", y), fmt.Sprintf("c%04d", y), fmt.Sprintf("%d", y),
			fmt.Sprintf("%05d", y), fmt.Sprintf("-%04d", y), fmt.Sprintf("+%04d", y),
		})
	}
}

// nearTexts returns the texts that one byte less, more or other makes of s.
func nearTexts(s string) []string {
	var near []string
	for i := range len(s) + 1 {
		for c := range 256 {
			one := string([]byte{byte(c)})
			near = append(near, s[:i]+one+s[i:])
			if i < len(s) {
				near = append(near, s[:i]+one+s[i+1:])
			}
		}
		if i < len(s) {
			near = append(near, s[:i]+s[i+1:])
		}
	}
	return near
}

func TestParseDateOfTextsNextToTexts(t *testing.T) {
	for _, s := range []string{
		"unknown", "0987", "c1850", "c2999", "1999-05", "0001-12", "1999-05-03", "2000-02-29", "2999-12-31", "1999-10-09",
	} {
		checkDates(t, nearTexts(s))
	}
}

func TestParseDateRefusesOtherTexts(t *testing.T) {
	for _, s := range []string{
		"", " ", "c", "cc1850", "C1850", "c-", "ca. 1850", "c 1850", "cunknown", "unknownc", "Unknown", "UNKNOWN", "unknown ", "n.d.",
		"99", "987", "987-05", "00987", "01999", "1999-", "1999--", "1999-5", "1999-05-", "1999-05-3", "1999--03", "-1999", "-1999-05", "1999-005",
		"1999-05-003", "1999-05-03-", "1999-05-03-01", "1999-05-03 ", " 1999", "1999\n", "1999\x00", "+999", "1_99", "0x7c", "1e3", "19.9",
		"1999-+5", "1999-05-+3", "1999- 5", "1999--5", "1999-05--3", "1999-05-_3", "1999/05/03", "19990503", "3 May 1999",
		"0000", "c0000", "0000-05", "0000-05-03", "1999-00", "1999-00-00", "1999-05-00", "1999-00-03", "1999-13", "1999-13-01", "1999-05-32",
		"3000", "c3000", "9999", "10000", "3000-01-01", "1999-02-29", "1900-02-29", "2000-02-30", "1999-04-31",
		"c1999-05", "c1999-05-03", "1999c", "\u0661\u0669\u0669\u0669", "\xff\xff\xff\xff", "18446744073709553615", "4294969295",
		strings.Repeat("9", 5000), strings.Repeat("0", 5000) + "1999", "1999-" + strings.Repeat("0", 5000) + "5", strings.Repeat("-", 5000), strings.Repeat("c", 5000),
	} {
		if d, ok := impl.ParseDate(s); ok || d != (impl.Date{}) {
			t.Errorf("ParseDate(%.60q) = %v, %v", s, d, ok)
		}
	}
}

func TestInvalidDatesInEveryFunction(t *testing.T) {
	none := impl.Date{}
	for _, bad := range invalidDates() {
		if s, ok := impl.FormatDate(bad); ok || s != "" {
			t.Errorf("FormatDate(%v) = %q, %v", bad, s, ok)
		}
		if s, ok := impl.LongDate(bad); ok || s != "" {
			t.Errorf("LongDate(%v) = %q, %v", bad, s, ok)
		}
		if first, last, ok := impl.DateBounds(bad); ok || first != none || last != none {
			t.Errorf("DateBounds(%v) = %v, %v, %v", bad, first, last, ok)
		}
		// Also beside the unknown date, which everything valid refines.
		for _, good := range []impl.Date{none, year(1999), circa(1999), month(1999, 5), day(1999, 5, 3), bad} {
			for _, pair := range [][2]impl.Date{{bad, good}, {good, bad}} {
				if x, ok := impl.CompareDates(pair[0], pair[1]); ok || x != 0 {
					t.Errorf("CompareDates(%v) = %d, %v", pair, x, ok)
				}
				if yes, ok := impl.Refines(pair[0], pair[1]); ok || yes {
					t.Errorf("Refines(%v) = %v, %v", pair, yes, ok)
				}
				if d, ok := impl.MergeDates(pair[0], pair[1]); ok || d != none {
					t.Errorf("MergeDates(%v) = %v, %v", pair, d, ok)
				}
			}
		}
	}
}

func TestCompareDatesStepByStep(t *testing.T) {
	for _, c := range []struct {
		what       string
		less, more impl.Date
	}{
		{"unknown before a year", impl.Date{}, year(1)},
		{"unknown before an approximate year", impl.Date{}, circa(1)},
		{"unknown before a day", impl.Date{}, day(1, 1, 1)},
		{"Year", year(1998), year(1999)},
		{"Year by its number", year(987), year(1850)},
		{"Year before Month", month(1998, 12), month(1999, 1)},
		{"Year before Day", day(1998, 12, 31), day(1999, 1, 1)},
		{"Year before Circa", circa(1998), year(1999)},
		{"no Month before any", year(1999), month(1999, 1)},
		{"Month", month(1999, 2), month(1999, 10)},
		{"Month before Day", day(1999, 2, 28), day(1999, 3, 1)},
		{"Month before no Day", day(1999, 2, 28), month(1999, 3)},
		{"Month before Circa", circa(1999), month(1999, 1)},
		{"no Day before any", month(1999, 5), day(1999, 5, 1)},
		{"Day", day(1999, 5, 3), day(1999, 5, 20)},
		{"Circa last", year(1999), circa(1999)},
		{"Circa of the greatest year", year(impl.MaxYear), circa(impl.MaxYear)},
	} {
		if x, ok := impl.CompareDates(c.less, c.more); !ok || x != -1 {
			t.Errorf("%s: CompareDates(%v, %v) = %d, %v", c.what, c.less, c.more, x, ok)
		}
		if x, ok := impl.CompareDates(c.more, c.less); !ok || x != 1 {
			t.Errorf("%s: CompareDates(%v, %v) = %d, %v", c.what, c.more, c.less, x, ok)
		}
	}
}

// rankOf numbers valid dates in the order of the chapter.
func rankOf(d impl.Date) int {
	rank := ((d.Year*13+d.Month)*32 + d.Day) * 2
	if d.Circa {
		rank++
	}
	return rank
}

func TestCompareDatesFromBothSides(t *testing.T) {
	for _, a := range someDates() {
		for _, b := range someDates() {
			want := 0
			if rankOf(a) < rankOf(b) {
				want = -1
			} else if rankOf(a) > rankOf(b) {
				want = 1
			}
			x, ok := impl.CompareDates(a, b)
			y, fine := impl.CompareDates(b, a)
			if !ok || !fine || x != want || y != -want || (x == 0) != (a == b) {
				t.Fatalf("CompareDates(%v, %v) = %d, %v and %d, %v, not %d", a, b, x, ok, y, fine, want)
			}
		}
	}
}

func TestRefines(t *testing.T) {
	for _, c := range []struct {
		what   string
		a, b   impl.Date
		ab, ba bool
	}{
		{"unknown twice", impl.Date{}, impl.Date{}, true, true},
		{"a year and unknown", year(1999), impl.Date{}, true, false},
		{"an approximate year and unknown", circa(1999), impl.Date{}, true, false},
		{"a day and unknown", day(1999, 5, 3), impl.Date{}, true, false},
		{"a year twice", year(1999), year(1999), true, true},
		{"an approximate year twice", circa(1999), circa(1999), true, true},
		{"a day twice", day(1999, 5, 3), day(1999, 5, 3), true, true},
		{"a month of a year", month(1999, 5), year(1999), true, false},
		{"a day of a year", day(1999, 5, 3), year(1999), true, false},
		{"a day of a month", day(1999, 5, 3), month(1999, 5), true, false},
		{"a year and the same approximate one", year(1999), circa(1999), true, false},
		{"a month and the approximate year", month(1999, 5), circa(1999), true, false},
		{"a day and the approximate year", day(1999, 5, 3), circa(1999), true, false},
		{"a year and the next approximate one", year(1999), circa(2000), false, false},
		{"approximate years", circa(1999), circa(2000), false, false},
		{"years", year(1999), year(2000), false, false},
		{"a month of another year", month(2000, 5), year(1999), false, false},
		{"the same month of another year", month(2000, 5), month(1999, 5), false, false},
		{"the same day of another year", day(2000, 5, 3), day(1999, 5, 3), false, false},
		{"months", month(1999, 5), month(1999, 6), false, false},
		{"a day of another month", day(1999, 6, 3), month(1999, 5), false, false},
		{"the same day of another month", day(1999, 6, 3), day(1999, 5, 3), false, false},
		{"days", day(1999, 5, 3), day(1999, 5, 4), false, false},
		{"a day of another approximate year", day(1999, 5, 3), circa(1998), false, false},
	} {
		if yes, ok := impl.Refines(c.a, c.b); !ok || yes != c.ab {
			t.Errorf("%s: Refines(%v, %v) = %v, %v", c.what, c.a, c.b, yes, ok)
		}
		if yes, ok := impl.Refines(c.b, c.a); !ok || yes != c.ba {
			t.Errorf("%s: Refines(%v, %v) = %v, %v", c.what, c.b, c.a, yes, ok)
		}
	}
}

func TestRefinesOfAllPairs(t *testing.T) {
	for _, a := range someDates() {
		for _, b := range someDates() {
			if yes, ok := impl.Refines(a, b); !ok || yes != refinesByText(a, b) {
				t.Fatalf("Refines(%v, %v) = %v, %v", a, b, yes, ok)
			}
		}
	}
}

func TestEveryDateRefinesItselfAndLessPreciseOnes(t *testing.T) {
	for y := 1; y <= impl.MaxYear; y += 37 {
		for _, d := range datesOfYear(y) {
			for _, less := range []impl.Date{d, {Year: d.Year, Month: d.Month, Circa: d.Circa}, {Year: d.Year, Circa: d.Circa}, circa(d.Year), {}} {
				if yes, ok := impl.Refines(d, less); !ok || !yes {
					t.Fatalf("Refines(%v, %v) = %v, %v", d, less, yes, ok)
				}
				if yes, ok := impl.Refines(less, d); !ok || yes != (less == d) {
					t.Fatalf("Refines(%v, %v) = %v, %v", less, d, yes, ok)
				}
			}
		}
	}
}

func TestDateBounds(t *testing.T) {
	for _, c := range []struct{ date, first, last impl.Date }{
		{year(1999), day(1999, 1, 1), day(1999, 12, 31)},
		{year(1), day(1, 1, 1), day(1, 12, 31)},
		{year(impl.MaxYear), day(impl.MaxYear, 1, 1), day(impl.MaxYear, 12, 31)},
		{month(1999, 1), day(1999, 1, 1), day(1999, 1, 31)},
		{month(1999, 4), day(1999, 4, 1), day(1999, 4, 30)},
		{month(1999, 2), day(1999, 2, 1), day(1999, 2, 28)},
		{month(1900, 2), day(1900, 2, 1), day(1900, 2, 28)},
		{month(2000, 2), day(2000, 2, 1), day(2000, 2, 29)},
		{month(2004, 2), day(2004, 2, 1), day(2004, 2, 29)},
		{day(1999, 5, 3), day(1999, 5, 3), day(1999, 5, 3)},
		{day(2000, 2, 29), day(2000, 2, 29), day(2000, 2, 29)},
	} {
		if first, last, ok := impl.DateBounds(c.date); !ok || first != c.first || last != c.last {
			t.Errorf("DateBounds(%v) = %v, %v, %v", c.date, first, last, ok)
		}
	}
}

func TestDateBoundsOfUnknownAndApproximateDates(t *testing.T) {
	none := impl.Date{}
	for _, d := range []impl.Date{none, circa(1), circa(1850), circa(2000), circa(impl.MaxYear)} {
		if first, last, ok := impl.DateBounds(d); ok || first != none || last != none {
			t.Errorf("DateBounds(%v) = %v, %v, %v", d, first, last, ok)
		}
	}
}

func TestDateBoundsOfEveryMonthAndYear(t *testing.T) {
	for y := 1; y <= impl.MaxYear; y++ {
		for m := range 13 {
			d := month(y, m)
			want := [2]impl.Date{day(y, m, 1), day(y, m, lastDay(y, m))}
			if m == 0 {
				want = [2]impl.Date{day(y, 1, 1), day(y, 12, 31)}
			}
			if first, last, ok := impl.DateBounds(d); !ok || first != want[0] || last != want[1] {
				t.Fatalf("DateBounds(%v) = %v, %v, %v", d, first, last, ok)
			}
		}
	}
}

func TestMergeDates(t *testing.T) {
	for _, c := range []struct {
		what         string
		less, merged impl.Date
	}{
		{"unknown twice", impl.Date{}, impl.Date{}},
		{"unknown and a year", impl.Date{}, year(1999)},
		{"unknown and an approximate year", impl.Date{}, circa(1999)},
		{"unknown and a day", impl.Date{}, day(1999, 5, 3)},
		{"an approximate year twice", circa(1999), circa(1999)},
		{"an approximate year and the year", circa(1999), year(1999)},
		{"an approximate year and a month", circa(1999), month(1999, 5)},
		{"an approximate year and a day", circa(1999), day(1999, 5, 3)},
		{"a year twice", year(1999), year(1999)},
		{"a year and a month", year(1999), month(1999, 5)},
		{"a year and a day", year(1999), day(1999, 5, 3)},
		{"a month and a day", month(1999, 5), day(1999, 5, 3)},
		{"a day twice", day(1999, 5, 3), day(1999, 5, 3)},
	} {
		for _, pair := range [][2]impl.Date{{c.less, c.merged}, {c.merged, c.less}} {
			if d, ok := impl.MergeDates(pair[0], pair[1]); !ok || d != c.merged {
				t.Errorf("%s: MergeDates(%v) = %v, %v", c.what, pair, d, ok)
			}
		}
	}
}

func TestMergeDatesOfWhichNoneRefinesTheOther(t *testing.T) {
	for _, c := range [][2]impl.Date{
		{year(1999), year(2000)},
		{circa(1999), circa(2000)},
		{year(1999), circa(2000)},
		{circa(1999), day(2000, 1, 1)},
		{year(1999), month(2000, 5)},
		{month(1999, 5), month(2000, 5)},
		{month(1999, 5), month(1999, 6)},
		{month(1999, 5), day(1999, 6, 3)},
		{day(1999, 5, 3), day(1999, 6, 3)},
		{day(1999, 5, 3), day(1999, 5, 4)},
		{day(1999, 5, 3), day(2000, 5, 3)},
	} {
		for _, pair := range [][2]impl.Date{{c[0], c[1]}, {c[1], c[0]}} {
			if d, ok := impl.MergeDates(pair[0], pair[1]); ok || d != (impl.Date{}) {
				t.Errorf("MergeDates(%v) = %v, %v", pair, d, ok)
			}
		}
	}
}

func TestMergedDatesRefineBoth(t *testing.T) {
	for _, a := range someDates() {
		for _, b := range someDates() {
			d, ok := impl.MergeDates(a, b)
			if ok != (refinesByText(a, b) || refinesByText(b, a)) {
				t.Fatalf("MergeDates(%v, %v) = %v, %v", a, b, d, ok)
			}
			if other, fine := impl.MergeDates(b, a); fine != ok || other != d {
				t.Fatalf("MergeDates of %v and %v in both orders: %v, %v and %v, %v", a, b, d, ok, other, fine)
			}
			if !ok {
				continue
			}
			if d != a && d != b || !refinesByText(d, a) || !refinesByText(d, b) {
				t.Fatalf("MergeDates(%v, %v) = %v", a, b, d)
			}
			for _, part := range []impl.Date{a, b} {
				if yes, ok := impl.Refines(d, part); !ok || !yes {
					t.Fatalf("MergeDates(%v, %v) = %v, which does not refine %v", a, b, d, part)
				}
			}
		}
	}
}
