package tests

import (
	"cmp"
	"maps"
	"math"
	"math/rand"
	"regexp"
	"slices"
	"strconv"
	"strings"
	"testing"

	"loop.example/g00896/impl"
)

var (
	rangePattern     = regexp.MustCompile(`\A([A-Z]?)([1-9][0-9]{0,4})(?:-([A-Z]?)([1-9][0-9]{0,4}))?\z`)
	collapsedPattern = regexp.MustCompile(`\A([A-Z]?)([1-9][0-9]{0,4})(?:-([A-Z]?)([0-9]{1,5}))?\z`)
)

var allRangeStyles = []int{impl.RangeFull, impl.RangeMinimal, impl.RangeTwo}

// locatorLabels has the labels and their abbreviations before one page and before several.
var locatorLabels = [][3]string{
	{"page", "p.", "pp."}, {"line", "l.", "ll."}, {"chapter", "ch.", "chs."}, {"section", "sec.", "secs."},
}

func pages(letter string, from, to int) impl.PageRange {
	return impl.PageRange{Letter: letter, From: from, To: to}
}

func onePage(letter string, page int) impl.PageRange { return pages(letter, page, page) }

// rangeIn reads the text of a range by a pattern, whatever the program does.
func rangeIn(s string) (impl.PageRange, bool) {
	found := rangePattern.FindStringSubmatch(s)
	if found == nil {
		return impl.PageRange{}, false
	}
	from, _ := strconv.Atoi(found[2])
	if found[4] == "" {
		return onePage(found[1], from), true
	}
	to, _ := strconv.Atoi(found[4])
	if found[1] != found[3] || to <= from {
		return impl.PageRange{}, false
	}
	return pages(found[1], from, to), true
}

// pagesIn reads the text of a list of ranges, whatever the program does.
func pagesIn(s string) ([]impl.PageRange, bool) {
	var list []impl.PageRange
	for _, part := range strings.Split(s, ", ") {
		r, ok := rangeIn(part)
		if !ok {
			return nil, false
		}
		list = append(list, r)
	}
	if len(list) > 8 {
		return nil, false
	}
	return list, true
}

// expandedIn reads a collapsed text by the rules for its last page, whatever the program does.
func expandedIn(s string) (impl.PageRange, bool) {
	if r, ok := rangeIn(s); ok {
		// All styles write a single page in full, and a range may be written with RangeFull.
		return r, true
	}
	found := collapsedPattern.FindStringSubmatch(s)
	if found == nil || found[3] != "" {
		return impl.PageRange{}, false
	}
	first, last := found[2], found[4]
	omitted := len(first) - len(last)
	if omitted < 0 || last <= first[omitted:] {
		return impl.PageRange{}, false
	}
	// A digit that is the same in both pages is written by RangeTwo only, as the last but one.
	if last[0] == first[omitted] && len(last) != 2 {
		return impl.PageRange{}, false
	}
	from, _ := strconv.Atoi(first)
	to, _ := strconv.Atoi(first[:omitted] + last)
	return pages(found[1], from, to), true
}

// rangeTextOf writes the text of a valid range, whatever the program does.
func rangeTextOf(r impl.PageRange) string {
	if r.From == r.To {
		return r.Letter + strconv.Itoa(r.From)
	}
	return r.Letter + strconv.Itoa(r.From) + "-" + r.Letter + strconv.Itoa(r.To)
}

// pagesTextOf writes the text of a list of ranges, whatever the program does.
func pagesTextOf(list []impl.PageRange) string {
	var texts []string
	for _, r := range list {
		texts = append(texts, rangeTextOf(r))
	}
	return strings.Join(texts, ", ")
}

// collapsedOf computes the digits that remain of the last page, whatever the program does.
func collapsedOf(r impl.PageRange, style int) string {
	digits := len(strconv.Itoa(r.To))
	if style == impl.RangeFull || r.From == r.To || digits != len(strconv.Itoa(r.From)) {
		return rangeTextOf(r)
	}
	left, power := 1, 10
	for r.From/power != r.To/power || style == impl.RangeTwo && left < 2 && left < digits {
		left++
		power *= 10
	}
	last := strconv.Itoa(r.To)
	return r.Letter + strconv.Itoa(r.From) + "-" + last[digits-left:]
}

// pageSet returns every page in a list of ranges, as a range of it alone.
func pageSet(list []impl.PageRange) map[impl.PageRange]bool {
	set := map[impl.PageRange]bool{}
	for _, r := range list {
		for page := r.From; page <= r.To; page++ {
			set[onePage(r.Letter, page)] = true
		}
	}
	return set
}

// mergedOf puts neighboring pages of a list together one by one, whatever the program does.
func mergedOf(list []impl.PageRange) []impl.PageRange {
	sorted := slices.SortedFunc(maps.Keys(pageSet(list)), func(a, b impl.PageRange) int {
		return cmp.Or(strings.Compare(a.Letter, b.Letter), a.From-b.From)
	})
	var merged []impl.PageRange
	for _, page := range sorted {
		last := len(merged) - 1
		if last >= 0 && merged[last].Letter == page.Letter && merged[last].To == page.From-1 {
			merged[last].To = page.From
		} else {
			merged = append(merged, page)
		}
	}
	return merged
}

// invalidRanges returns ranges that break a rule of the chapter.
func invalidRanges() []impl.PageRange {
	all := []impl.PageRange{
		{}, {Letter: "A"}, {From: 1}, {To: 1}, {Letter: "A", From: 5}, {Letter: "A", To: 5},
		pages("", 0, 5), pages("", -1, 5), pages("", -5, -1), pages("", math.MinInt, 5), pages("", math.MinInt, math.MaxInt),
		pages("", 6, 5), pages("", 2, 1), pages("A", impl.MaxPage, impl.MaxPage-1), pages("", 5, -5), pages("", 5, math.MinInt),
		pages("", 1, impl.MaxPage+1), pages("", impl.MaxPage+1, impl.MaxPage+1), pages("", 5, math.MaxInt), pages("", 5, 1<<32+7),
		pages("", 1<<32+5, 1<<32+7), pages("", math.MaxInt, math.MaxInt), pages("Z", 1, 999999),
	}
	for _, letter := range []string{
		"AB", "AA", "ABC", "a", "z", "@", "[", "`", "{", "0", "5", " ", "-", ",", ", ", "A ", " A", "A5", "\x00", "\xc1", "\xff", "\u00c4", "\u0391",
		strings.Repeat("A", 5000),
	} {
		all = append(all, onePage(letter, 5), pages(letter, 5, 7))
	}
	return all
}

// manyRanges returns valid ranges that overlap, that touch, and that are apart.
func manyRanges() []impl.PageRange {
	var all []impl.PageRange
	numbers := []int{1, 2, 3, 9, 10, 11, 12, 19, 20, 99, 100, 101, 109, 110, 123, 124, 199, 200, 999, 1000, 1005, 1010, 1234,
		9999, 10000, 10001, 12345, 12346, 12399, 54321, 99990, 99998, impl.MaxPage}
	for _, letter := range []string{"", "A", "M", "Z"} {
		for i, from := range numbers {
			for _, to := range numbers[i:] {
				all = append(all, pages(letter, from, to))
			}
		}
	}
	return all
}

// checkNoPages checks what the functions make of something that is no list of ranges.
func checkNoPages(t *testing.T, list []impl.PageRange) {
	t.Helper()
	if impl.IsValidPages(list) {
		t.Errorf("IsValidPages(%v) = true", list)
	}
	if s, ok := impl.FormatPages(list); ok || s != "" {
		t.Errorf("FormatPages(%v) = %q, %v", list, s, ok)
	}
	if n, ok := impl.CountPages(list); ok || n != 0 {
		t.Errorf("CountPages(%v) = %d, %v", list, n, ok)
	}
	if merged, ok := impl.MergePages(list); ok || len(merged) != 0 {
		t.Errorf("MergePages(%v) = %v, %v", list, merged, ok)
	}
	for _, letter := range []string{"", "A"} {
		if has, ok := impl.HasPage(list, letter, 5); ok || has {
			t.Errorf("HasPage(%v, %q, 5) = %v, %v", list, letter, has, ok)
		}
	}
	for _, label := range locatorLabels {
		if s, ok := impl.LocatorText(label[0], list); ok || s != "" {
			t.Errorf("LocatorText(%q, %v) = %q, %v", label[0], list, s, ok)
		}
	}
}

// checkPageText compares what the functions make of a text with the patterns.
func checkPageText(t *testing.T, s string) {
	t.Helper()
	want, isList := pagesIn(s)
	if list, ok := impl.ParsePages(s); ok != isList || !slices.Equal(list, want) {
		t.Fatalf("ParsePages(%q) = %v, %v, not %v, %v", s, list, ok, want, isList)
	}
	if isList && pagesTextOf(want) != s {
		t.Fatalf("the pattern reads %q as %v", s, want)
	}
	wide, isCollapsed := expandedIn(s)
	if r, ok := impl.ExpandRange(s); ok != isCollapsed || r != wide {
		t.Fatalf("ExpandRange(%q) = %v, %v, not %v, %v", s, r, ok, wide, isCollapsed)
	}
}

// checkPages checks all that the chapter says of a list of ranges.
func checkPages(t *testing.T, list []impl.PageRange) {
	t.Helper()
	before := slices.Clone(list)
	text := pagesTextOf(list)
	if !impl.IsValidPages(list) {
		t.Fatalf("IsValidPages(%v) = false", list)
	}
	if s, ok := impl.FormatPages(list); !ok || s != text {
		t.Fatalf("FormatPages(%v) = %q, %v", list, s, ok)
	}
	if back, ok := impl.ParsePages(text); !ok || !slices.Equal(back, list) {
		t.Fatalf("ParsePages(%q) = %v, %v", text, back, ok)
	}
	set := pageSet(list)
	if n, ok := impl.CountPages(list); !ok || n != len(set) {
		t.Fatalf("CountPages(%v) = %d, %v, not %d", list, n, ok, len(set))
	}
	for _, label := range locatorLabels {
		want := label[1]
		if len(set) > 1 {
			want = label[2]
		}
		if s, ok := impl.LocatorText(label[0], list); !ok || s != want+" "+text {
			t.Fatalf("LocatorText(%q, %v) = %q, %v", label[0], list, s, ok)
		}
	}
	checkMerged(t, list, set)
	if !slices.Equal(list, before) {
		t.Fatalf("%v became %v", before, list)
	}
}

// checkMerged checks that merging a list keeps its pages, a set, and that both have them.
func checkMerged(t *testing.T, list []impl.PageRange, set map[impl.PageRange]bool) {
	t.Helper()
	merged, ok := impl.MergePages(list)
	if want := mergedOf(list); !ok || !slices.Equal(merged, want) {
		t.Fatalf("MergePages(%v) = %v, %v, not %v", list, merged, ok, want)
	}
	if again, ok := impl.MergePages(merged); !ok || !slices.Equal(again, merged) {
		t.Fatalf("MergePages(%v) = %v, %v", merged, again, ok)
	}
	if n, ok := impl.CountPages(merged); !ok || n != len(set) {
		t.Fatalf("CountPages(%v) = %d, %v, not %d", merged, n, ok, len(set))
	}
	for _, r := range list {
		for _, page := range []int{r.From - 1, r.From, (r.From + r.To) / 2, r.To, r.To + 1} {
			if page < 1 || page > impl.MaxPage {
				continue
			}
			for _, letter := range []string{"", "A", r.Letter} {
				want := set[onePage(letter, page)]
				has, ok := impl.HasPage(list, letter, page)
				still, fine := impl.HasPage(merged, letter, page)
				if !ok || !fine || has != want || still != want {
					t.Fatalf("page %s%d: %v in %v, %v in %v", letter, page, has, list, still, merged)
				}
			}
		}
	}
}

func TestLimitsOfPages(t *testing.T) {
	if impl.MaxPage != 99999 || impl.MaxRanges != 8 {
		t.Error("limits", impl.MaxPage, impl.MaxRanges)
	}
	if impl.RangeFull != 1 || impl.RangeMinimal != 2 || impl.RangeTwo != 3 {
		t.Error("styles", impl.RangeFull, impl.RangeMinimal, impl.RangeTwo)
	}
}

func TestTextsOfPages(t *testing.T) {
	for _, c := range []struct {
		list []impl.PageRange
		text string
	}{
		{[]impl.PageRange{pages("", 12, 15), onePage("A", 3)}, "12-15, A3"},
		{[]impl.PageRange{onePage("", 1)}, "1"},
		{[]impl.PageRange{onePage("", impl.MaxPage)}, "99999"},
		{[]impl.PageRange{pages("", 1, impl.MaxPage)}, "1-99999"},
		{[]impl.PageRange{pages("Z", 99998, impl.MaxPage)}, "Z99998-Z99999"},
		{[]impl.PageRange{pages("A", 9, 10)}, "A9-A10"},
		{[]impl.PageRange{pages("A", 12, 13)}, "A12-A13"},
		{[]impl.PageRange{onePage("", 5), onePage("", 5)}, "5, 5"},
		{[]impl.PageRange{onePage("B", 2), onePage("A", 1), pages("", 7, 9), pages("", 1, 20)}, "B2, A1, 7-9, 1-20"},
	} {
		if s, ok := impl.FormatPages(c.list); !ok || s != c.text {
			t.Errorf("FormatPages(%v) = %q, %v", c.list, s, ok)
		}
		if list, ok := impl.ParsePages(c.text); !ok || !slices.Equal(list, c.list) {
			t.Errorf("ParsePages(%q) = %v, %v", c.text, list, ok)
		}
	}
}

func TestParsePagesRefusesOtherTexts(t *testing.T) {
	for _, s := range []string{
		"", " ", "-", ",", ", ", "A", "AA", "A-", "-5", "5-", "5--7", "5-7-", "5-7-9", "5-A", "A-5", "-A5",
		"0", "A0", "0-5", "5-0", "00", "05", "A05", "5-07", "05-7", "A5-A07", "000001",
		"+5", "-5", "A+5", "5-+7", "A5-A+7", "5+7", "5_0", "0x5", "1e3", "5.0", "5.", "5:",
		"5-5", "6-5", "A5-A5", "A6-A5", "10-9", "99999-1",
		"A5-6", "5-A6", "A5-B6", "AB5", "AA5-AA6", "a5", "a5-a6", "5A", "5A-6A", "A 5", "A5-a6",
		"100000", "1-100000", "A100000", "999999", "1000000", "4294967301", "18446744073709551621",
		" 5", "5 ", "5 -7", "5- 7", "5 - 7", "5\n", "\x005", "5\x00", "5\u20137",
		"1,2", "1 ,2", "1 , 2", "1,  2", "1, ", ", 1", "1, , 2", "1,", ",1", "1; 2", "1 2", "1, 2,", "1, 2, ", "1, 0", "1, 05", "1, 3-3", "1\t, 2",
		"1, 2, 3, 4, 5, 6, 7, 8, 9", "\u0661", "\xff", "\xc15", "\u00c45",
		strings.Repeat("5", 5000), strings.Repeat("5, ", 5000), strings.Repeat("A", 5000), strings.Repeat("-", 5000), strings.Repeat("5, ", 100000) + "5",
	} {
		if list, ok := impl.ParsePages(s); ok || len(list) != 0 {
			t.Errorf("ParsePages(%.40q) = %v, %v", s, list, ok)
		}
	}
}

func TestNumbersOfRanges(t *testing.T) {
	checkNoPages(t, nil)
	checkNoPages(t, []impl.PageRange{})
	texts := strings.Split("8, A1-A3, 7, 2-6, B5, 100-105, A4, 1, 9", ", ")
	for n := 1; n <= 8; n++ {
		list, ok := pagesIn(strings.Join(texts[:n], ", "))
		if !ok || len(list) != n {
			t.Fatal("the list of", n)
		}
		checkPages(t, list)
	}
	full, _ := pagesIn(strings.Join(texts[:8], ", "))
	checkNoPages(t, append(slices.Clone(full), onePage("", 9)))
	checkNoPages(t, append(slices.Clone(full), full[0]))
	checkNoPages(t, append(slices.Clone(full), full...))
	checkNoPages(t, make([]impl.PageRange, 9))
	for _, last := range []string{"9", "8", "x", ""} {
		if list, ok := impl.ParsePages(strings.Join(texts[:8], ", ") + ", " + last); ok || len(list) != 0 {
			t.Errorf("nine ranges: %v, %v", list, ok)
		}
	}
	widest := strings.TrimSuffix(strings.Repeat("Z10000-Z99999, ", 8), ", ")
	if list, ok := impl.ParsePages(widest); !ok || len(list) != 8 {
		t.Errorf("ParsePages(%q) = %v, %v", widest, list, ok)
	}
}

func TestInvalidRanges(t *testing.T) {
	good := []impl.PageRange{onePage("", 5), pages("A", 2, 9), pages("", 6, 8)}
	for _, r := range invalidRanges() {
		checkNoPages(t, []impl.PageRange{r})
		for place := range len(good) + 1 {
			checkNoPages(t, slices.Insert(slices.Clone(good), place, r))
		}
		for style := -1; style <= 5; style++ {
			if s, ok := impl.CollapseRange(r, style); ok || s != "" {
				t.Errorf("CollapseRange(%v, %d) = %q, %v", r, style, s, ok)
			}
		}
	}
}

func TestEveryLetter(t *testing.T) {
	for c := range 256 {
		letter := string([]byte{byte(c)})
		list := []impl.PageRange{onePage("", 5), pages(letter, 5, 6)}
		has, ok := impl.HasPage(list[:1], letter, 5)
		if c >= 'A' && c <= 'Z' {
			checkPages(t, list)
			checkPages(t, list[1:])
			if has || !ok {
				t.Errorf("HasPage of the letter %q = %v, %v", letter, has, ok)
			}
			continue
		}
		checkNoPages(t, list)
		if has || ok {
			t.Errorf("HasPage of the letter %q = %v, %v", letter, has, ok)
		}
		checkPageText(t, letter+"5")
		checkPageText(t, letter+"5-"+letter+"6")
		checkPageText(t, letter+"5-6")
	}
}

func TestCollapseRange(t *testing.T) {
	for _, c := range []struct {
		full, minimal, two string
	}{
		{"321-328", "321-8", "321-28"},
		{"5", "5", "5"}, {"A5", "A5", "A5"}, {"10", "10", "10"}, {"99999", "99999", "99999"},
		{"5-7", "5-7", "5-7"}, {"A5-A7", "A5-7", "A5-7"}, {"1-9", "1-9", "1-9"},
		{"9-10", "9-10", "9-10"}, {"A9-A10", "A9-A10", "A9-A10"}, {"5-321", "5-321", "5-321"}, {"99-100", "99-100", "99-100"},
		{"1-99999", "1-99999", "1-99999"}, {"Z9999-Z10000", "Z9999-Z10000", "Z9999-Z10000"},
		{"12-13", "12-3", "12-13"}, {"A12-A13", "A12-3", "A12-13"}, {"12-34", "12-34", "12-34"}, {"A12-A34", "A12-34", "A12-34"},
		{"100-101", "100-1", "100-01"}, {"100-110", "100-10", "100-10"}, {"100-200", "100-200", "100-200"}, {"B100-B200", "B100-200", "B100-200"},
		{"199-205", "199-205", "199-205"}, {"191-199", "191-9", "191-99"}, {"121-131", "121-31", "121-31"}, {"121-221", "121-221", "121-221"},
		{"1000-1005", "1000-5", "1000-05"}, {"1000-1050", "1000-50", "1000-50"}, {"1000-1500", "1000-500", "1000-500"}, {"1001-1101", "1001-101", "1001-101"},
		{"10000-10001", "10000-1", "10000-01"}, {"99998-99999", "99998-9", "99998-99"}, {"10000-99999", "10000-99999", "10000-99999"},
		{"12345-12435", "12345-435", "12345-435"}, {"C11111-C11112", "C11111-2", "C11111-12"}, {"Z11111-Z11211", "Z11111-211", "Z11111-211"},
	} {
		r, ok := rangeIn(c.full)
		if !ok {
			t.Fatal("no range", c.full)
		}
		for i, want := range []string{c.full, c.minimal, c.two} {
			if s, ok := impl.CollapseRange(r, allRangeStyles[i]); !ok || s != want {
				t.Errorf("CollapseRange(%v, %d) = %q, %v, not %q", r, allRangeStyles[i], s, ok, want)
			}
			if back, ok := impl.ExpandRange(want); !ok || back != r {
				t.Errorf("ExpandRange(%q) = %v, %v", want, back, ok)
			}
		}
		for _, style := range []int{0, 4, -1, -2, -3, 1 << 32, 1<<32 + 1, math.MinInt, math.MaxInt} {
			if s, ok := impl.CollapseRange(r, style); ok || s != "" {
				t.Errorf("CollapseRange(%v, %d) = %q, %v", r, style, s, ok)
			}
		}
	}
}

func TestExpandRangeRefusesOtherTexts(t *testing.T) {
	for _, s := range []string{
		"", "-", "A", "A-", "5-", "321-", "-8", "-321", "A5-A", "A12-", "5--7", "321-8-9", "321--8", "321-8-",
		// The last page is not greater than the first one.
		"5-5", "321-1", "321-0", "321-21", "321-20", "321-321", "321-320", "A12-2", "A12-1", "A12-12", "A12-A12", "A12-A11", "328-1",
		// No style leaves as many digits as these.
		"1000-005", "1234-234", "1234-235", "1000-050", "12345-346", "12345-2346", "A321-328", "A1234-235", "A12345-12346", "A1000-005",
		// A last page of another length is written in full, with its Letter.
		"A9-10", "A99-100", "A1-99999", "A5-321", "9-010", "A9-A9", "A321-A28", "A321-A8", "A12-A3",
		// Other Letters.
		"A12-B13", "A12-B3", "12-A13", "12-A3", "AB12-3", "AA12-AA13", "a12-3", "12A-3", "1A-2", "A-A3", "A12-a13",
		"05-7", "5-07", "012-3", "00-1", "0-1", "0", "A0", "100000", "100000-1", "99999-100000", "1-100000",
		"+12-3", "12-+3", "A+1-2", "12- 3", "12 -3", " 12-3", "12-3 ", "12-3\n", "12-3, 5", "5, 7", "12-3,", "1000-1005x", "12-x", "12-\x00", "12-\xff", "1x-2",
		"\u0661", "12\u20133", strings.Repeat("1", 5000) + "-2", "1-" + strings.Repeat("2", 5000), strings.Repeat("A", 5000) + "-" + strings.Repeat("B", 4999),
	} {
		if r, ok := impl.ExpandRange(s); ok || r != (impl.PageRange{}) {
			t.Errorf("ExpandRange(%.40q) = %v, %v", s, r, ok)
		}
	}
}

// checkCollapsed checks that a range is recovered from its texts in all styles.
func checkCollapsed(t *testing.T, r impl.PageRange) {
	t.Helper()
	for _, style := range allRangeStyles {
		s, ok := impl.CollapseRange(r, style)
		if want := collapsedOf(r, style); !ok || s != want {
			t.Fatalf("CollapseRange(%v, %d) = %q, %v, not %q", r, style, s, ok, want)
		}
		if back, ok := impl.ExpandRange(s); !ok || back != r {
			t.Fatalf("ExpandRange(%q) = %v, %v, not %v", s, back, ok, r)
		}
	}
}

func TestRangesAreRecoveredFromTheirCollapsedTexts(t *testing.T) {
	for _, r := range manyRanges() {
		checkCollapsed(t, r)
	}
	for from := 1; from <= 320; from++ {
		for to := from; to <= 320; to++ {
			checkCollapsed(t, pages([]string{"", "Q"}[(from+to)%2], from, to))
		}
	}
}

func TestEveryFirstPageIsRecovered(t *testing.T) {
	for from := 1; from <= impl.MaxPage; from++ {
		for _, more := range []int{from % 3, 5 * (from % 7), 90} {
			checkCollapsed(t, pages([]string{"", "K"}[from%2], from, min(from+more, impl.MaxPage)))
		}
	}
}

func TestAllShortTextsOfPages(t *testing.T) {
	for _, s := range stringsOver("A-01, ", 6) {
		checkPageText(t, s)
	}
	for _, s := range stringsOver("AB-012", 7) {
		checkPageText(t, s)
	}
}

func TestTextsNextToTextsOfPages(t *testing.T) {
	for _, s := range []string{
		"12-15, A3", "321-8", "321-28", "321-328", "A321-8", "A321-28", "A321-A328", "1000-05", "B1000-5", "C12345-435", "99998-99999",
		"A9-A10", "Z99999", "1, 2, 3, 4, 5, 6, 7", "1, 2-4, 3, A4, 5-6, 6, 7, Z8",
	} {
		for _, near := range nearTexts(s) {
			checkPageText(t, near)
		}
	}
}

func TestEveryShortenedLastPage(t *testing.T) {
	for _, first := range []string{"7", "A7", "10", "A12", "99", "120", "Q321", "1000", "10911"} {
		for last := range 1200 {
			digits := strconv.Itoa(last)
			for _, s := range []string{digits, "0" + digits, "00" + digits, "A" + digits, "Q" + digits} {
				checkPageText(t, first+"-"+s)
			}
		}
	}
}

func TestMergePages(t *testing.T) {
	for _, c := range []struct {
		list, merged string
		count        int
	}{
		{"5", "5", 1}, {"1-3", "1-3", 3}, {"A1-A3", "A1-A3", 3},
		{"5-6, A1, 1-2, 3-4", "1-6, A1", 7}, {"1-3, 2-5, A1", "1-5, A1", 6},
		// Ranges that overlap, touch, and are one page apart.
		{"1-5, 4-9", "1-9", 9}, {"1-5, 5-9", "1-9", 9}, {"1-5, 6-9", "1-9", 9}, {"1-5, 7-9", "1-5, 7-9", 8}, {"4-9, 1-3", "1-9", 9}, {"5-9, 1-3", "1-3, 5-9", 8},
		{"1, 2", "1-2", 2}, {"2, 1", "1-2", 2}, {"1, 3", "1, 3", 2}, {"1, 3, 2", "1-3", 3}, {"1-2, 5-6, 3-4", "1-6", 6},
		// The same pages again, and ranges inside of others.
		{"5, 5", "5", 1}, {"1-9, 1-9", "1-9", 9}, {"1-9, 3-5", "1-9", 9}, {"3-5, 1-9", "1-9", 9}, {"1-9, 1-3, 9", "1-9", 9}, {"1-9, 3-5, 7-12", "1-12", 12}, {"1-9, 2, 10", "1-10", 10},
		{"1, 1, 1, 1, 1, 1, 1, 1", "1", 1}, {"8, 7, 6, 5, 4, 3, 2, 1", "1-8", 8}, {"15, 13, 11, 9, 7, 5, 3, 1", "1, 3, 5, 7, 9, 11, 13, 15", 8},
		// Other Letters never touch.
		{"A1, B2", "A1, B2", 2}, {"B2, A1", "A1, B2", 2}, {"1-3, A2-A5, B4-B6", "1-3, A2-A5, B4-B6", 10}, {"Z1, A1, 1", "1, A1, Z1", 3}, {"5, A6, 7", "5, 7, A6", 3},
		{"A3, 3, A4, 4", "3-4, A3-A4", 4}, {"B5-B9, A1-A9, B1-B4", "A1-A9, B1-B9", 18}, {"A99999, B1", "A99999, B1", 2},
		{"9, 10", "9-10", 2}, {"99-100, 101", "99-101", 3}, {"2, 10", "2, 10", 2}, {"10, 9, 100", "9-10, 100", 3},
	} {
		list, ok := pagesIn(c.list)
		if !ok {
			t.Fatal("no list", c.list)
		}
		checkPages(t, list)
		merged, ok := impl.MergePages(list)
		if !ok || pagesTextOf(merged) != c.merged {
			t.Errorf("MergePages(%s) = %v, %v, not %s", c.list, merged, ok, c.merged)
		}
		if n, ok := impl.CountPages(list); !ok || n != c.count {
			t.Errorf("CountPages(%s) = %d, %v, not %d", c.list, n, ok, c.count)
		}
	}
}

func TestPagesUpToTheLimit(t *testing.T) {
	for _, c := range []struct {
		list, merged string
		count        int
	}{
		{"1", "1", 1}, {"99999", "99999", 1}, {"1-99999", "1-99999", 99999}, {"1-99999, 99999, 1", "1-99999", 99999},
		{"50000-99999, 1-49999", "1-99999", 99999}, {"50001-99999, 1-49999", "1-49999, 50001-99999", 99998}, {"99999, 99998", "99998-99999", 2},
		{"1-99999, A1-A99999, B1-B99999, C1-C99999, D1-D99999, E1-E99999, F1-F99999, Z1-Z99999",
			"1-99999, A1-A99999, B1-B99999, C1-C99999, D1-D99999, E1-E99999, F1-F99999, Z1-Z99999", 799992},
	} {
		list, ok := pagesIn(c.list)
		merged, fine := impl.MergePages(list)
		n, good := impl.CountPages(list)
		if !ok || !fine || !good || pagesTextOf(merged) != c.merged || n != c.count {
			t.Errorf("%s: %v, %v and %d, %v", c.list, merged, fine, n, good)
		}
	}
}

// smallRanges returns all ranges of the first pages of two parts.
func smallRanges(last int) []impl.PageRange {
	var all []impl.PageRange
	for _, letter := range []string{"", "A"} {
		for from := 1; from <= last; from++ {
			for to := from; to <= last; to++ {
				all = append(all, pages(letter, from, to))
			}
		}
	}
	return all
}

func TestAllShortListsOfPages(t *testing.T) {
	for _, a := range smallRanges(6) {
		checkPages(t, []impl.PageRange{a})
		for _, b := range smallRanges(6) {
			checkPages(t, []impl.PageRange{a, b})
		}
	}
	for _, a := range smallRanges(4) {
		for _, b := range smallRanges(4) {
			for _, c := range smallRanges(4) {
				checkPages(t, []impl.PageRange{a, b, c})
			}
		}
	}
}

func TestManyListsOfPages(t *testing.T) {
	r := rand.New(rand.NewSource(7))
	for range 5000 {
		var list []impl.PageRange
		for range 1 + r.Intn(8) {
			from := 1 + r.Intn(40)
			letter := []string{"", "A", "B", "Z"}[min(r.Intn(6), 3)]
			list = append(list, pages(letter, from, from+r.Intn(6)))
		}
		checkPages(t, list)
		merged, _ := impl.MergePages(list)
		r.Shuffle(len(list), func(i, j int) { list[i], list[j] = list[j], list[i] })
		if other, ok := impl.MergePages(list); !ok || !slices.Equal(other, merged) {
			t.Fatalf("MergePages(%v) = %v, %v, and in another order %v", list, other, ok, merged)
		}
	}
}

func TestHasPage(t *testing.T) {
	list := []impl.PageRange{pages("", 12, 15), onePage("A", 3), pages("", 14, 20), pages("Z", 99990, impl.MaxPage)}
	for _, c := range []struct {
		letter string
		page   int
		has    bool
	}{
		{"", 11, false}, {"", 12, true}, {"", 13, true}, {"", 15, true}, {"", 16, true}, {"", 20, true}, {"", 21, false},
		{"", 3, false}, {"A", 3, true}, {"A", 2, false}, {"A", 4, false}, {"A", 13, false}, {"B", 3, false}, {"B", 13, false},
		{"Z", 99989, false}, {"Z", 99990, true}, {"Z", impl.MaxPage, true}, {"", impl.MaxPage, false}, {"", 1, false}, {"Y", 1, false},
	} {
		if has, ok := impl.HasPage(list, c.letter, c.page); !ok || has != c.has {
			t.Errorf("HasPage(%q, %d) = %v, %v", c.letter, c.page, has, ok)
		}
	}
}

func TestHasPageOutsideItsBounds(t *testing.T) {
	list := []impl.PageRange{pages("", 1, impl.MaxPage), pages("A", 1, impl.MaxPage)}
	for _, page := range []int{0, -1, -5, impl.MaxPage + 1, 1 << 32, 1<<32 + 5, math.MinInt, math.MaxInt} {
		for _, letter := range []string{"", "A", "B", "a"} {
			if has, ok := impl.HasPage(list, letter, page); ok || has {
				t.Errorf("HasPage(%q, %d) = %v, %v", letter, page, has, ok)
			}
		}
	}
	for _, letter := range []string{"AA", "AB", "a", "0", " ", "A ", "@", "[", "\xff", "\u00c4", strings.Repeat("A", 5000)} {
		if has, ok := impl.HasPage(list, letter, 5); ok || has {
			t.Errorf("HasPage(%.40q, 5) = %v, %v", letter, has, ok)
		}
	}
}

func TestLocatorText(t *testing.T) {
	for _, c := range []struct {
		label, list, text string
	}{
		{"page", "A3", "p. A3"}, {"page", "12-15", "pp. 12-15"}, {"page", "12-15, A3", "pp. 12-15, A3"}, {"page", "5, 5", "p. 5, 5"}, {"page", "5, A5", "pp. 5, A5"},
		{"line", "7", "l. 7"}, {"line", "7-8", "ll. 7-8"}, {"line", "99999", "l. 99999"}, {"line", "1-99999", "ll. 1-99999"},
		{"chapter", "2", "ch. 2"}, {"chapter", "2, 4", "chs. 2, 4"}, {"chapter", "B2", "ch. B2"},
		{"section", "A1", "sec. A1"}, {"section", "12-15", "secs. 12-15"}, {"section", "A1, B1", "secs. A1, B1"}, {"section", "3, 1", "secs. 3, 1"},
	} {
		list, ok := pagesIn(c.list)
		if s, fine := impl.LocatorText(c.label, list); !ok || !fine || s != c.text {
			t.Errorf("LocatorText(%q, %s) = %q, %v", c.label, c.list, s, fine)
		}
	}
}

func TestLocatorTextRefusesOtherLabels(t *testing.T) {
	for _, label := range []string{
		"", " ", "p", "p.", "pp.", "pages", "Page", "PAGE", "page ", " page", "pag", "lines", "Line", "l.", "chapters", "ch.", "sec.", "sections",
		"volume", "verse", "note", "book", "page\x00", "pagesection", strings.Repeat("page", 2000),
	} {
		for _, list := range [][]impl.PageRange{{onePage("", 5)}, {pages("A", 5, 7), onePage("", 2)}, nil} {
			if s, ok := impl.LocatorText(label, list); ok || s != "" {
				t.Errorf("LocatorText(%.40q, %v) = %q, %v", label, list, s, ok)
			}
		}
	}
}

func TestPagesLeaveTheirArgumentsAlone(t *testing.T) {
	memory := []impl.PageRange{onePage("B", 9), pages("", 5, 9), pages("", 1, 4), onePage("", 20), pages("", 8, 30), {Letter: "??", From: -1}}
	before := slices.Clone(memory)
	list := memory[:4]
	merged, ok := impl.MergePages(list)
	if !ok || pagesTextOf(merged) != "1-9, 20, B9" {
		t.Errorf("MergePages(%v) = %v, %v", list, merged, ok)
	}
	checkPages(t, list)
	if !slices.Equal(memory, before) {
		t.Errorf("%v became %v", before, memory)
	}
	// A list that is merged already is copied too.
	single := []impl.PageRange{pages("", 1, 4), onePage("A", 7)}
	merged, _ = impl.MergePages(single)
	merged[0].To, merged[1].Letter = 99, "Q"
	if pagesTextOf(single) != "1-4, A7" {
		t.Errorf("a result shares memory with its argument: %v", single)
	}
	if again, ok := impl.MergePages(single); !ok || pagesTextOf(again) != "1-4, A7" {
		t.Errorf("MergePages(%v) = %v, %v", single, again, ok)
	}
	first, _ := impl.ParsePages("1-4, A7")
	first[0].From = 3
	if second, ok := impl.ParsePages("1-4, A7"); !ok || pagesTextOf(second) != "1-4, A7" {
		t.Errorf("ParsePages = %v, %v", second, ok)
	}
}
