package tests

import (
	"fmt"
	"math"
	"math/rand"
	"regexp"
	"slices"
	"strconv"
	"strings"
	"testing"

	"loop.example/g00896/impl"
)

var (
	labelLetterPattern = regexp.MustCompile(`[A-Za-z]`)
	numbersPattern     = regexp.MustCompile(`^[1-9][0-9]{0,2}(-[1-9][0-9]{0,2})?(, [1-9][0-9]{0,2}(-[1-9][0-9]{0,2})?)*$`)
)

// manyKeys returns different keys.
func manyKeys(number int) []string {
	keys := []string{}
	for i := range number {
		keys = append(keys, fmt.Sprintf("k%d", i))
	}
	return keys
}

// areKeysOf reports whether all of a list are keys, and no more than the limit.
func areKeysOf(list []string, most int) bool {
	return len(list) <= most && !slices.ContainsFunc(list, func(s string) bool { return !keyPattern.MatchString(s) })
}

// firstCitedOf is what FirstCited has to return: every key belongs behind those that occur first
// before it.
func firstCitedOf(citations [][]string) ([]string, bool) {
	places := map[string]int{}
	for i, citation := range slices.Backward(citations) {
		if !areKeysOf(citation, 6) {
			return nil, false
		}
		for j, key := range slices.Backward(citation) {
			places[key] = 10*i + j
		}
	}
	if len(citations) > 20 {
		return nil, false
	}
	keys := []string{}
	for key := range places {
		keys = append(keys, key)
	}
	slices.SortFunc(keys, func(a, b string) int { return places[a] - places[b] })
	return keys, true
}

// checkSameKeys fails if a function has not returned the keys that are wanted.
func checkSameKeys(t *testing.T, what string, got []string, ok bool, want []string, fine bool) {
	t.Helper()
	if ok != fine || !slices.Equal(got, want) {
		t.Fatalf("%.300s: %q, %v, not %q, %v", what, got, ok, want, fine)
	}
}

// checkCited checks FirstCited, and CitedPlace in its result.
func checkCited(t *testing.T, citations [][]string) {
	t.Helper()
	order, ok := impl.FirstCited(citations)
	want, fine := firstCitedOf(citations)
	if ok != fine || !slices.Equal(order, want) {
		t.Fatalf("FirstCited(%.500q) = %q, %v, not %q, %v", citations, order, ok, want, fine)
	}
	for i, key := range order {
		if place, ok := impl.CitedPlace(order, key); !ok || place != i+1 {
			t.Fatalf("CitedPlace(%q, %q) = %d, %v", order, key, place, ok)
		}
	}
}

// checkPlace checks CitedPlace; the place 0 is none.
func checkPlace(t *testing.T, order []string, key string, want int) {
	t.Helper()
	if place, ok := impl.CitedPlace(order, key); ok != (want > 0) || place != want {
		t.Errorf("CitedPlace(%.300q, %.40q) = %d, %v, not %d", order, key, place, ok, want)
	}
}

// numbersTextOf returns the text of the numbers for which has is true, whatever the program does.
func numbersTextOf(has func(n int) bool) string {
	texts := []string{}
	for n := 1; n <= 999; n++ {
		switch {
		case !has(n):
		case has(n-1) && has(n+1):
			// A number within a run leaves a gap, and only the first of several counts.
			if texts[len(texts)-1] != "-" {
				texts = append(texts, "-")
			}
		default:
			texts = append(texts, strconv.Itoa(n))
		}
	}
	return strings.ReplaceAll(strings.Join(texts, ", "), ", -, ", "-")
}

// textOfNumbers is what NumbersText has to return.
func textOfNumbers(list []int) (string, bool) {
	if len(list) > 20 || slices.ContainsFunc(list, func(n int) bool { return n < 1 || n > 999 }) {
		return "", false
	}
	return numbersTextOf(func(n int) bool { return slices.Contains(list, n) }), true
}

// numbersIn is what ParseNumbers has to return.
func numbersIn(s string) ([]int, bool) {
	if s == "" {
		return []int{}, true
	}
	if !numbersPattern.MatchString(s) {
		return nil, false
	}
	list := []int{}
	for _, part := range strings.Split(s, ", ") {
		ends := strings.Split(part, "-")
		from, _ := strconv.Atoi(ends[0])
		to, _ := strconv.Atoi(ends[len(ends)-1])
		for n := from; n <= to; n++ {
			list = append(list, n)
		}
	}
	if text, ok := textOfNumbers(list); !ok || text != s || !slices.IsSorted(list) {
		return nil, false
	}
	return list, true
}

// checkNumbers checks NumbersText, and that its numbers are recovered.
func checkNumbers(t *testing.T, list []int) {
	t.Helper()
	want, fine := textOfNumbers(list)
	text, ok := impl.NumbersText(list)
	if ok != fine || text != want {
		t.Fatalf("NumbersText(%.300v) = %q, %v, not %q, %v", list, text, ok, want, fine)
	}
	if !ok {
		return
	}
	different := slices.Clone(list)
	slices.Sort(different)
	different = slices.Compact(different)
	if got, ok := impl.ParseNumbers(text); !ok || !slices.Equal(got, different) {
		t.Fatalf("ParseNumbers(%q) = %v, %v, not %v", text, got, ok, different)
	}
}

// checkNumbersText checks ParseNumbers, and that the text is that of the numbers.
func checkNumbersText(t *testing.T, s string) {
	t.Helper()
	want, fine := numbersIn(s)
	list, ok := impl.ParseNumbers(s)
	if ok != fine || !slices.Equal(list, want) {
		t.Fatalf("ParseNumbers(%.300q) = %v, %v, not %v, %v", s, list, ok, want, fine)
	}
	if !ok {
		return
	}
	if text, ok := impl.NumbersText(list); !ok || text != s {
		t.Fatalf("NumbersText(%v) = %q, %v, not %q", list, text, ok, s)
	}
}

// baseLabelOf returns the base label of a valid entry, whatever the program does.
func baseLabelOf(e impl.Entry) string {
	letters := func(s string, most int) string {
		return strings.Join(labelLetterPattern.FindAllString(s, most), "")
	}
	label := ""
	for _, n := range e.Authors {
		label += letters(n.Family, 1)
	}
	if len(e.Authors) == 1 {
		label = letters(e.Authors[0].Family, 3)
	}
	if len(e.Authors) == 0 {
		label = letters(e.Title, 3)
	}
	if label == "" {
		label = "Anon"
	}
	if e.Date.Year == 0 {
		return label + "??"
	}
	return label + fmt.Sprintf("%04d", e.Date.Year)[2:]
}

// baseLabelsIn returns the base labels of a valid library, whatever the program does.
func baseLabelsIn(l impl.Library) []string {
	bases := []string{}
	for _, e := range l.Entries {
		bases = append(bases, baseLabelOf(e))
	}
	return bases
}

// labelsIn returns the labels of a valid library, whatever the program does.
func labelsIn(l impl.Library) []string {
	bases := baseLabelsIn(l)
	labels := []string{}
	for i, base := range bases {
		before, others := 0, 0
		for j, other := range bases {
			if j != i && other == base {
				others++
				if j < i {
					before++
				}
			}
		}
		if others > 0 {
			base += "abcdefgh"[before : before+1]
		}
		labels = append(labels, base)
	}
	return labels
}

// keysLabelled is what KeysOfLabel has to return for entries with these labels and base labels.
func keysLabelled(l impl.Library, labels, bases []string, label string) []string {
	keys := []string{}
	for i, e := range l.Entries {
		if labels[i] == label || bases[i] == label {
			keys = append(keys, e.Key)
		}
	}
	return keys
}

// keysByLabel is what SortByLabel has to return. A zero byte is in no label and less than its bytes.
func keysByLabel(l impl.Library) []string {
	lines := []string{}
	for i, label := range labelsIn(l) {
		lines = append(lines, label+"\x00"+l.Entries[i].Key)
	}
	slices.Sort(lines)
	for i, line := range lines {
		_, lines[i], _ = strings.Cut(line, "\x00")
	}
	return lines
}

// relabelledIn is what RelabelKeys has to return.
func relabelledIn(old, l impl.Library) []string {
	before := map[string]string{}
	for i, label := range labelsIn(old) {
		before[old.Entries[i].Key] = label
	}
	keys := []string{}
	for i, label := range labelsIn(l) {
		key := l.Entries[i].Key
		if _, has := before[key]; has && before[key] != label {
			keys = append(keys, key)
		}
	}
	return keys
}

// checkLabels checks all functions of a valid library but RelabelKeys, and promise 13 for it.
func checkLabels(t *testing.T, l impl.Library) []string {
	t.Helper()
	bases := baseLabelsIn(l)
	labels, ok := impl.LabelsOf(l)
	checkSameKeys(t, "LabelsOf", labels, ok, labelsIn(l), true)
	for i, e := range l.Entries {
		base, ok := impl.BaseLabel(e)
		if !ok || base != bases[i] {
			t.Fatalf("BaseLabel(%v) = %q, %v, not %q", e, base, ok, bases[i])
		}
		letter, begins := strings.CutPrefix(labels[i], base)
		if !begins || len(letter) > 1 {
			t.Fatalf("the label %q with the base label %q", labels[i], base)
		}
		found, ok := impl.KeysOfLabel(l, labels[i])
		checkSameKeys(t, "KeysOfLabel of the label "+labels[i], found, ok, []string{e.Key}, true)
		for _, label := range []string{base, base + "a", base + "b", base + "i", base[1:], base[:len(base)-1], strings.ToLower(base), labels[i] + "a", " " + base, base + " "} {
			found, ok := impl.KeysOfLabel(l, label)
			checkSameKeys(t, "KeysOfLabel of "+label, found, ok, keysLabelled(l, labels, bases, label), true)
		}
		if all, ok := impl.KeysOfLabel(l, base); !ok || !slices.Contains(all, e.Key) {
			t.Fatalf("KeysOfLabel(%q) = %q, %v, without %q", base, all, ok, e.Key)
		}
	}
	sorted, ok := impl.SortByLabel(l)
	checkSameKeys(t, "SortByLabel", sorted, ok, keysByLabel(l), true)
	return labels
}

// checkRelabelled checks RelabelKeys, which finds the same keys from both sides.
func checkRelabelled(t *testing.T, old, l impl.Library) []string {
	t.Helper()
	keys, ok := impl.RelabelKeys(old, l)
	checkSameKeys(t, "RelabelKeys", keys, ok, relabelledIn(old, l), true)
	back, ok := impl.RelabelKeys(l, old)
	checkSameKeys(t, "RelabelKeys from the other side", back, ok, keys, true)
	return keys
}

// labelled returns a library of books whose keys are taken from someKeys in their order.
func labelled(entries ...impl.Entry) impl.Library {
	l := impl.Library{}
	for i, e := range entries {
		e.Key = someKeys[i]
		l.Entries = append(l.Entries, e)
	}
	return l
}

// bookOf returns a book whose Key is set later.
func bookOf(authors string, y int, title string) impl.Entry {
	date := impl.Date{Year: y}
	return entryFor(authors, "", date, title, 0, "k")
}

func TestLimitsOfLabels(t *testing.T) {
	if impl.MaxCitations != 20 || impl.MaxNumbers != 20 {
		t.Error("limits", impl.MaxCitations, impl.MaxNumbers)
	}
}

func TestFirstCited(t *testing.T) {
	for _, c := range []struct {
		citations [][]string
		want      []string
	}{
		{nil, nil},
		{[][]string{}, nil},
		{[][]string{{}}, nil},
		{[][]string{nil, {}, nil}, nil},
		{[][]string{{"a"}}, []string{"a"}},
		{[][]string{{"b", "a"}, {"a", "c"}}, []string{"b", "a", "c"}},
		{[][]string{{"a", "c"}, {"b", "a"}}, []string{"a", "c", "b"}},
		{[][]string{{"z", "z", "z"}, {"z"}}, []string{"z"}},
		{[][]string{{"z", "y", "z", "x"}, {}, {"x", "w", "y", "v"}}, []string{"z", "y", "x", "w", "v"}},
		{[][]string{{}, {"c"}, {}, {"b", "c"}, {"a", "b", "c"}}, []string{"c", "b", "a"}},
		{[][]string{{"a", "a1"}, {"a1", "a", "a12"}}, []string{"a", "a1", "a12"}},
		{[][]string{{"abcdefghij", "a123456789"}, {"a123456789"}}, []string{"abcdefghij", "a123456789"}},
		{[][]string{{"f", "e", "d", "c", "b", "a"}, {"a", "b", "c", "d", "e", "f"}, {"g"}}, []string{"f", "e", "d", "c", "b", "a", "g"}},
	} {
		order, ok := impl.FirstCited(c.citations)
		checkSameKeys(t, "FirstCited", order, ok, c.want, true)
		checkCited(t, c.citations)
	}
}

func TestAllShortListsOfCitations(t *testing.T) {
	lists := [][]string{}
	for _, s := range stringsOver("abc", 2) {
		lists = append(lists, strings.Split(s, "")[:len(s)])
	}
	for _, a := range lists {
		checkCited(t, [][]string{a})
		for _, b := range lists {
			checkCited(t, [][]string{a, b})
			for _, c := range lists {
				checkCited(t, [][]string{a, b, c})
			}
		}
	}
}

func TestManyCitations(t *testing.T) {
	r := rand.New(rand.NewSource(130))
	keys := manyKeys(40)
	for range 3000 {
		citations := [][]string{}
		for range r.Intn(23) {
			citation := []string{}
			for range min(r.Intn(8), 6+r.Intn(30)/29) {
				citation = append(citation, keys[r.Intn(1+r.Intn(40))])
			}
			citations = append(citations, citation)
		}
		checkCited(t, citations)
	}
}

func TestNumbersOfCitations(t *testing.T) {
	keys := manyKeys(126)
	citations := slices.Collect(slices.Chunk(keys[:120], 6))
	order, ok := impl.FirstCited(citations)
	checkSameKeys(t, "120 keys", order, ok, keys[:120], true)
	for number := range 40 {
		one, none := [][]string{}, make([][]string, number)
		for i := range number {
			one = append(one, keys[i:i+1])
		}
		checkCited(t, one)
		checkCited(t, none)
		if _, ok := impl.FirstCited(none); ok != (number <= 20) {
			t.Errorf("%d citations: %v", number, ok)
		}
		if _, ok := impl.FirstCited([][]string{{"a"}, keys[:number]}); ok != (number <= 6) {
			t.Errorf("a citation of %d keys: %v", number, ok)
		}
	}
	// One citation too many, or one key too many in any of them, even one that is there already.
	checkNoCited(t, slices.Collect(slices.Chunk(keys, 6)))
	checkNoCited(t, append(slices.Clone(citations), nil))
	checkNoCited(t, make([][]string, 100000))
	checkNoCited(t, [][]string{manyKeys(100000)})
	for i := range citations {
		changed := slices.Clone(citations)
		changed[i] = append(slices.Clone(changed[i]), changed[i][0])
		checkNoCited(t, changed)
	}
}

// checkNoCited checks that there is no list of citations.
func checkNoCited(t *testing.T, citations [][]string) {
	t.Helper()
	if order, ok := impl.FirstCited(citations); ok || len(order) != 0 {
		t.Errorf("FirstCited(%.200q) = %.200q, %v", citations, order, ok)
	}
}

func TestOtherStringsAreNotCited(t *testing.T) {
	for _, s := range append(invalidKeys(), "") {
		checkNoCited(t, [][]string{{s}})
		checkNoCited(t, [][]string{{"a", s}, {"b"}})
		checkNoCited(t, [][]string{{"a"}, {}, {"a", "b", "c", "d", "e", s}})
		checkPlace(t, []string{"a", "b"}, s, 0)
		checkPlace(t, []string{s}, s, 0)
		checkPlace(t, []string{"a", s}, "a", 0)
		checkPlace(t, []string{s, "a"}, "a", 0)
		checkPlace(t, append(manyKeys(119), s), "k3", 0)
		checkPlace(t, nil, s, 0)
	}
	for c := range 256 {
		one := string([]byte{byte(c)})
		for _, s := range []string{one, "a" + one, one + "a", "ab" + one + "c"} {
			checkCited(t, [][]string{{"a"}, {s, "b", s}})
			want := 0
			if keyPattern.MatchString(s) {
				want = 2
			}
			checkPlace(t, []string{"other", s}, s, want)
		}
	}
}

func TestCitedPlace(t *testing.T) {
	for _, c := range []struct {
		order []string
		key   string
		want  int
	}{
		{nil, "a", 0}, {[]string{}, "a", 0}, {[]string{"a"}, "a", 1}, {[]string{"b"}, "a", 0}, {[]string{"b", "a"}, "a", 2}, {[]string{"b", "a"}, "b", 1}, {[]string{"b", "a"}, "c", 0},
		{[]string{"a", "a"}, "a", 1}, {[]string{"b", "a", "b", "a"}, "a", 2}, {[]string{"b", "a", "b", "a"}, "b", 1}, {[]string{"c", "b", "b", "a", "a", "a"}, "a", 4},
		{[]string{"ab", "abc", "a"}, "a", 3}, {[]string{"ab", "abc"}, "a", 0}, {[]string{"a"}, "ab", 0}, {[]string{"a1", "a10", "a2"}, "a10", 2}, {[]string{"abcdefghij"}, "abcdefghij", 1},
	} {
		checkPlace(t, c.order, c.key, c.want)
	}
}

func TestPlacesInLongOrders(t *testing.T) {
	keys := manyKeys(130)
	for _, length := range []int{1, 20, 119, 120} {
		for i, key := range keys {
			want := i + 1
			if i >= length {
				want = 0
			}
			checkPlace(t, keys[:length], key, want)
		}
	}
	for length := 121; length <= 130; length++ {
		for _, key := range []string{"k0", "k7", "k119", "k120", "x", ""} {
			checkPlace(t, keys[:length], key, 0)
		}
	}
	checkPlace(t, slices.Repeat([]string{"a"}, 120), "a", 1)
	checkPlace(t, append(slices.Repeat([]string{"a"}, 119), "b"), "b", 120)
	checkPlace(t, slices.Repeat([]string{"a"}, 121), "a", 0)
	checkPlace(t, manyKeys(100000), "k0", 0)
}

func TestNumbersText(t *testing.T) {
	for _, c := range []struct {
		list []int
		want string
	}{
		{nil, ""}, {[]int{}, ""}, {[]int{1}, "1"}, {[]int{999}, "999"}, {[]int{999, 1}, "1, 999"}, {[]int{7, 7, 7}, "7"},
		{[]int{5, 1, 3, 2}, "1-3, 5"}, {[]int{1, 2}, "1, 2"}, {[]int{2, 1}, "1, 2"}, {[]int{1, 2, 3}, "1-3"}, {[]int{3, 2, 1}, "1-3"}, {[]int{1, 2, 3, 4}, "1-4"}, {[]int{1, 3}, "1, 3"}, {[]int{1, 3, 5}, "1, 3, 5"},
		{[]int{1, 2, 4, 5}, "1, 2, 4, 5"}, {[]int{1, 2, 4, 5, 6}, "1, 2, 4-6"}, {[]int{1, 2, 3, 5, 6}, "1-3, 5, 6"}, {[]int{1, 2, 3, 5, 6, 7}, "1-3, 5-7"}, {[]int{2, 4, 5, 6, 8}, "2, 4-6, 8"},
		{[]int{1, 1, 2}, "1, 2"}, {[]int{1, 2, 2, 3}, "1-3"}, {[]int{3, 1, 3, 2, 1}, "1-3"}, {[]int{2, 2, 2}, "2"}, {[]int{1, 1, 3, 3}, "1, 3"},
		{[]int{9, 10, 11}, "9-11"}, {[]int{10, 9}, "9, 10"}, {[]int{2, 10, 1}, "1, 2, 10"}, {[]int{99, 100, 101, 998, 999, 997}, "99-101, 997-999"}, {[]int{998, 999}, "998, 999"}, {[]int{100, 20, 3}, "3, 20, 100"},
		{[]int{1, 2, 3, 4, 5, 6, 7, 8, 9, 10, 11, 12, 13, 14, 15, 16, 17, 18, 19, 20}, "1-20"},
		{[]int{999, 998, 997, 996, 995, 994, 993, 992, 991, 990, 989, 988, 987, 986, 985, 984, 983, 982, 981, 980}, "980-999"},
	} {
		if text, ok := impl.NumbersText(c.list); !ok || text != c.want {
			t.Errorf("NumbersText(%v) = %q, %v, not %q", c.list, text, ok, c.want)
		}
		checkNumbers(t, c.list)
	}
}

func TestAllSetsOfSmallNumbers(t *testing.T) {
	r := rand.New(rand.NewSource(131))
	for _, first := range []int{1, 7, 96, 988} {
		for set := range 1 << 12 {
			list := []int{}
			for i := range 12 {
				if set>>i&1 == 1 {
					list = append(list, first+i)
				}
			}
			r.Shuffle(len(list), func(i, j int) { list[i], list[j] = list[j], list[i] })
			checkNumbers(t, list)
		}
	}
}

func TestAllShortListsOfNumbers(t *testing.T) {
	for _, s := range stringsOver("123456", 5) {
		list := []int{}
		for i := range len(s) {
			list = append(list, int(s[i]-'0'))
		}
		checkNumbers(t, list)
	}
}

func TestManyListsOfNumbers(t *testing.T) {
	r := rand.New(rand.NewSource(132))
	for range 10000 {
		list := []int{}
		for range r.Intn(22) {
			list = append(list, 1+r.Intn(1+r.Intn(999)))
		}
		checkNumbers(t, list)
	}
}

func TestEveryNumber(t *testing.T) {
	for n := -1200; n <= 1200; n++ {
		checkNumbers(t, []int{n})
		checkNumbers(t, []int{5, n, 7})
		checkNumbers(t, []int{n, n + 1})
		checkNumbers(t, []int{n, n + 2, n + 1})
		checkNumbersText(t, fmt.Sprint(n))
		checkNumbersText(t, fmt.Sprintf("%d-%d", n, n+2))
		checkNumbersText(t, fmt.Sprintf("%d-%d", n, n+20))
		checkNumbersText(t, fmt.Sprintf("3, %d", n))
	}
	for _, n := range []int{0, -1, 1000, 1001, 999999, 1000000, math.MinInt, math.MaxInt, 1<<32 + 1, 1 << 16, -(1 << 32) + 1} {
		for _, list := range [][]int{{n}, {1, n}, {n, 1}, {1, 2, n, 3}, {n, n}} {
			if text, ok := impl.NumbersText(list); ok || text != "" {
				t.Errorf("NumbersText(%v) = %q, %v", list, text, ok)
			}
		}
	}
}

func TestNumbersOfNumbers(t *testing.T) {
	for length := range 45 {
		run, gaps, equal, down := []int{}, []int{}, []int{}, []int{}
		for i := range length {
			run, gaps, equal, down = append(run, 5+i), append(gaps, 1+2*i), append(equal, 8), append(down, 500-i)
		}
		for _, list := range [][]int{run, gaps, equal, down} {
			checkNumbers(t, list)
			if _, ok := impl.NumbersText(list); ok != (length <= 20) {
				t.Errorf("NumbersText of %d numbers: %v", length, ok)
			}
		}
		checkNumbersText(t, numbersTextOf(func(n int) bool { return slices.Contains(run, n) }))
		checkNumbersText(t, numbersTextOf(func(n int) bool { return slices.Contains(gaps, n) }))
	}
	// The numbers count, not the parts of the text.
	for text, want := range map[string]bool{
		"1-20": true, "1-21": false, "980-999": true, "979-999": false, "1-999": false, "1-10, 12-21": true, "1-10, 12-22": false, "1-19, 21": true, "1-20, 22": false, "1, 3-21": true, "1, 3-22": false, "1-999999": false,
	} {
		checkNumbersText(t, text)
		if _, ok := impl.ParseNumbers(text); ok != want {
			t.Errorf("ParseNumbers(%q): %v", text, ok)
		}
	}
	if text, ok := impl.NumbersText(make([]int, 100000)); ok || text != "" {
		t.Errorf("100000 numbers: %q, %v", text, ok)
	}
}

func TestParseNumbers(t *testing.T) {
	for text, want := range map[string][]int{
		"": nil, "1": {1}, "999": {999}, "1-3, 5": {1, 2, 3, 5}, "1, 2": {1, 2}, "1-3": {1, 2, 3}, "1, 2, 4-6, 8": {1, 2, 4, 5, 6, 8}, "9-11": {9, 10, 11}, "1, 999": {1, 999}, "997-999": {997, 998, 999}, "1-3, 5-7": {1, 2, 3, 5, 6, 7},
	} {
		if list, ok := impl.ParseNumbers(text); !ok || !slices.Equal(list, want) {
			t.Errorf("ParseNumbers(%q) = %v, %v, not %v", text, list, ok, want)
		}
		checkNumbersText(t, text)
	}
}

func TestTextsWithoutNumbers(t *testing.T) {
	for _, s := range []string{
		" ", "01", "001", "1-03", "01-3", "+1", "-1", "--1", "1, +2", "1, -2", "1-+3", "1--3", "-", "1-", "-3", "1-3-5", "1-2-3", "0", "00", "0, 1", "0-2", "0-3", "1000", "998-1000", "1, 1000",
		"1-2", "1-1", "3-1", "2-1", "1, 2, 3", "1, 2, 3, 4", "1-3, 4", "1-3, 4-6", "1, 2-4", "1, 2, 3-5", "1-3, 3", "1-3, 2", "1-3, 3-5", "1-4, 2-3", "3, 1", "3-5, 1", "2, 1", "1, 1", "5, 5", "5-7, 1-3", "1, 3, 2",
		"1,2", "1 ,2", "1 , 2", "1,  2", "1, 2 ", " 1, 2", "1 - 3", "1 -3", "1- 3", "1\t, 2", "1,\t2", "1, 2\n", "1;2", "1; 2", "1 2", "1\u00a02", "1\u20133",
		",", ", ", "1,", "1, ", ", 1", "1, , 2", "1, , 3", ", , ", "1-3, ", ", 1-3", "1,, 2", "a", "1a", "a1", "1-a", "a-3", "one", "1e2", "0x1", "1_0", "1.0", "99999999999999999999", "1-99999999999999999999", "9223372036854775807", "1-9223372036854775807", "18446744073709551617", "\u0661", "1\x00", "\xff",
		strings.Repeat("1", 5000), strings.Repeat("1, ", 5000), strings.Repeat(", ", 100000), strings.Repeat("3-1, ", 100000), strings.Repeat("-", 100000), "1-" + strings.Repeat("9", 100000),
	} {
		if list, ok := impl.ParseNumbers(s); ok || len(list) != 0 {
			t.Errorf("ParseNumbers(%.40q) = %v, %v", s, list, ok)
		}
		checkNumbersText(t, s)
	}
}

func TestAllShortTextsOfNumbers(t *testing.T) {
	for _, s := range sequences([]string{"1", "2", "3", "4", "5", "-", ", "}, 6) {
		checkNumbersText(t, s)
	}
	for _, s := range stringsOver("01 ,-+", 6) {
		checkNumbersText(t, s)
	}
	for _, s := range []string{"", "7", "1-3, 5", "9, 11-13", "98, 99, 101", "997-999", "1-20"} {
		for _, near := range nearTexts(s) {
			checkNumbersText(t, near)
		}
	}
}

func TestBaseLabel(t *testing.T) {
	for _, c := range []struct {
		entry impl.Entry
		want  string
	}{
		{bookOf("Berg, Anna", 1999, "Essays"), "Ber99"},
		{bookOf("van der Berg, Anna, Jr", 1999, ""), "Ber99"},
		{bookOf("Lee", 2001, ""), "Lee01"},
		{bookOf("Li, Bo", 2010, "Roads"), "Li10"},
		{bookOf("O", 2000, "Roads"), "O00"},
		{bookOf("LEE", 1850, ""), "LEE50"},
		{bookOf("O'Neil", 1907, ""), "ONe07"},
		{bookOf("D'A", 1907, ""), "DA07"},
		{bookOf("A-b-c-d", 1907, ""), "Abc07"},
		{bookOf("A-B", 0, ""), "AB??"},
		{bookOf("Lee-Smith", 2999, ""), "Lee99"},
		{bookOf("Roe; Doe, John", 0, "Roads"), "RD??"},
		{bookOf("Doe, John; Roe", 2001, ""), "DR01"},
		{bookOf("de Lee, Anna; van der Berg; O'Neil", 1999, ""), "LBO99"},
		{bookOf("Ash; Berg; Cox; Doe", 1999, ""), "ABCD99"},
		{bookOf("Ash; Ash", 1999, ""), "AA99"},
		{bookOf("L; M", 1999, ""), "LM99"},
		{bookOf("", 0, "On Rome"), "OnR??"},
		{bookOf("", 2001, "Essays"), "Ess01"},
		{bookOf("", 2001, "the north"), "the01"},
		{bookOf("", 2001, "1999: a b c"), "abc01"},
		{bookOf("", 2001, "A {B} c"), "ABc01"},
		{bookOf("", 2001, "Ab"), "Ab01"},
		{bookOf("", 2001, "A 1"), "A01"},
		{bookOf("", 2001, "1 - z"), "z01"},
		{bookOf("", 2001, "1984"), "Anon01"},
		{bookOf("", 2001, "{} - ?"), "Anon01"},
		{bookOf("", 2001, ""), "Anon01"},
		{bookOf("", 0, ""), "Anon??"},
		{bookOf("", 2001, strings.Repeat("1", 39)+"x"), "x01"},
		{bookOf("", 2001, strings.Repeat("-", 37)+"xyz"), "xyz01"},
		// Fewer digits than two are completed as those of the text of the date.
		{bookOf("Lee", 5, ""), "Lee05"},
		{bookOf("Lee", 1, ""), "Lee01"},
		{bookOf("Lee", 10, ""), "Lee10"},
		{bookOf("Lee", 99, ""), "Lee99"},
		{bookOf("Lee", 100, ""), "Lee00"},
		{bookOf("Lee", 987, ""), "Lee87"},
		{bookOf("Lee", 1009, ""), "Lee09"},
		// Editors are no authors, and the other parts of the date do not count.
		{entryFor("", "Lee, Anna", year(1999), "On Rome", 3, "k"), "OnR99"},
		{entryFor("", "Lee; Ash", year(1999), "", 3, "k"), "Anon99"},
		{entryFor("Ash", "Lee; Berg", year(1999), "On Rome", 3, "k"), "Ash99"},
		{entryFor("Ash", "", circa(1850), "", 0, "k"), "Ash50"},
		{entryFor("Ash", "", month(1850, 11), "", 0, "k"), "Ash50"},
		{entryFor("Ash", "", day(1850, 11, 23), "", 0, "k"), "Ash50"},
		{fullEntry("lee", impl.KindArticle), "BL99"},
	} {
		if label, ok := impl.BaseLabel(c.entry); !ok || label != c.want {
			t.Errorf("BaseLabel(%v) = %q, %v, not %q", c.entry, label, ok, c.want)
		}
		checkLabels(t, labelled(c.entry))
	}
}

func TestBaseLabelsOfAllYearsAndKinds(t *testing.T) {
	for y := range impl.MaxYear + 1 {
		e := bookOf("Lee", y, "")
		e.Kind = allKinds[y%4]
		if label, ok := impl.BaseLabel(e); !ok || label != baseLabelOf(e) {
			t.Fatalf("BaseLabel of the year %d: %q, %v", y, label, ok)
		}
	}
}

func TestBaseLabelsOfAllShortNamesAndTitles(t *testing.T) {
	for _, s := range stringsOver("aB1'- ", 5) {
		for _, e := range []impl.Entry{{Title: s}, {Authors: []impl.Name{{Family: s}}, Title: "x"}, {Authors: []impl.Name{{Family: s}, {Family: "Lee"}}}, {Authors: []impl.Name{{Family: "Lee"}, {Family: s}}}} {
			e.Key, e.Kind = "k", impl.KindReport
			label, ok := impl.BaseLabel(e)
			want := ""
			if impl.IsValidEntry(e) {
				want = baseLabelOf(e)
			}
			checkSameText(t, "BaseLabel", s, label, ok, want, want != "")
		}
	}
	for c := range 256 {
		one := string([]byte{byte(c)})
		for _, s := range []string{one, "a" + one + "bcd", one + "a", "1" + one, "ab" + one} {
			e := bookOf("", 1999, s)
			label, ok := impl.BaseLabel(e)
			want := ""
			if impl.IsValidEntry(e) {
				want = baseLabelOf(e)
			}
			checkSameText(t, "BaseLabel", s, label, ok, want, want != "")
		}
	}
}

func TestBaseLabelsOfManyNames(t *testing.T) {
	r := rand.New(rand.NewSource(133))
	names, dates := manyNames(), someDates()
	for range 5000 {
		e := randomEntry(r, "k", names, dates)
		if label, ok := impl.BaseLabel(e); !ok || label != baseLabelOf(e) {
			t.Fatalf("BaseLabel(%v) = %q, %v, not %q", e, label, ok, baseLabelOf(e))
		}
	}
}

func TestInvalidEntriesHaveNoLabel(t *testing.T) {
	bad := append(invalidEntries(), impl.Entry{}, impl.Entry{Key: "k", Kind: impl.KindBook, Authors: make([]impl.Name, 1)})
	for _, family := range []string{"", "'", "-", "lee", "1", "'Neil", "O'", "Abcdefghijklm"} {
		bad = append(bad, impl.Entry{Key: "k", Kind: impl.KindBook, Authors: []impl.Name{{Family: family}}, Title: "Roads", Date: year(1999)})
	}
	for _, y := range []int{-1, -99, 3000, 3099, math.MinInt, math.MaxInt} {
		bad = append(bad, bookOf("Lee", y, "Roads"))
	}
	for _, e := range bad {
		if label, ok := impl.BaseLabel(e); ok || label != "" {
			t.Errorf("BaseLabel(%.300q) = %q, %v", fmt.Sprint(e), label, ok)
		}
	}
}

func TestLabelsOf(t *testing.T) {
	berg, lee, none := bookOf("Berg, Anna", 1999, "Essays"), bookOf("Lee", 2001, ""), bookOf("", 0, "")
	for _, c := range []struct {
		what   string
		l      impl.Library
		labels string
		sorted string
	}{
		{"none", labelled(), "", ""},
		{"one", labelled(berg), "Ber99", "a"},
		{"different ones", labelled(berg, lee), "Ber99 Lee01", "a a0"},
		{"different ones in the other order", labelled(lee, berg), "Lee01 Ber99", "a0 a"},
		{"the same one twice", labelled(berg, berg), "Ber99a Ber99b", "a a0"},
		{"twice, apart", labelled(lee, berg, none, lee), "Lee01a Ber99 Anon?? Lee01b", "a1b a0 a aa"},
		{"the same one three times", labelled(lee, lee, berg, lee), "Lee01a Lee01b Ber99 Lee01c", "a1b a a0 aa"},
		{"two labels several times", labelled(lee, berg, lee, berg, none), "Lee01a Ber99a Lee01b Ber99b Anon??", "ab a0 aa a a1b"},
		{"eight times", labelled(lee, lee, lee, lee, lee, lee, lee, lee), "Lee01a Lee01b Lee01c Lee01d Lee01e Lee01f Lee01g Lee01h", "a a0 a1b aa ab b b9 ba"},
		{"eight without anything", labelled(none, none, none, none, none, none, none, none), "Anon??a Anon??b Anon??c Anon??d Anon??e Anon??f Anon??g Anon??h", "a a0 a1b aa ab b b9 ba"},
		{"seven times and another one", labelled(lee, lee, lee, berg, lee, lee, lee, lee), "Lee01a Lee01b Lee01c Ber99 Lee01d Lee01e Lee01f Lee01g", "aa a a0 a1b ab b b9 ba"},
		{"base labels of different kinds", labelled(bookOf("Lee", 1999, ""), bookOf("", 1899, "L. E. E. p"), bookOf("", 1999, "Lee")), "Lee99a LEE99 Lee99b", "a0 a a1b"},
		{"the century does not count", labelled(bookOf("Lee", 1999, ""), bookOf("Leeson", 99, "x"), bookOf("de Lee", 2899, "")), "Lee99a Lee99b Lee99c", "a a0 a1b"},
		{"case counts", labelled(bookOf("Lee", 1999, ""), bookOf("LEE", 1999, "")), "Lee99 LEE99", "a0 a"},
		{"initials like a Family", labelled(bookOf("A; B; C", 1999, ""), bookOf("A-BC", 1999, ""), bookOf("", 1999, "A B C")), "ABC99a ABC99b ABC99c", "a a0 a1b"},
		{"no letters like a Title", labelled(bookOf("", 1999, "Anon"), bookOf("", 1999, "1999")), "Ano99 Anon99", "a a0"},
		{"the year before the letters", labelled(bookOf("Lee", 2001, ""), bookOf("Lee", 2001, ""), bookOf("Lee", 2000, ""), bookOf("Le", 2001, ""), bookOf("Lee", 0, "")), "Lee01a Lee01b Lee00 Le01 Lee??", "aa a1b a a0 ab"},
	} {
		labels := checkLabels(t, c.l)
		if got := strings.Join(labels, " "); got != c.labels {
			t.Errorf("%s: %q, not %q", c.what, got, c.labels)
		}
		if sorted, ok := impl.SortByLabel(c.l); !ok || strings.Join(sorted, " ") != c.sorted {
			t.Errorf("%s: sorted %q, %v, not %q", c.what, sorted, ok, c.sorted)
		}
	}
}

func TestKeysOfLabel(t *testing.T) {
	berg, lee, none := bookOf("Berg, Anna", 1999, "Essays"), bookOf("Lee", 2001, ""), bookOf("", 0, "")
	l := labelled(lee, berg, lee, none, lee)
	for label, want := range map[string][]string{
		"Lee01": {"a", "a1b", "ab"}, "Lee01a": {"a"}, "Lee01b": {"a1b"}, "Lee01c": {"ab"}, "Lee01d": nil, "Ber99": {"a0"}, "Ber99a": nil, "Anon??": {"aa"}, "Anon??a": nil,
		"": nil, "Lee": nil, "lee01": nil, "LEE01": nil, "01": nil, "Lee01aa": nil, "Lee01A": nil, "Lee01 ": nil, " Lee01": nil, "Lee01`": nil, "Lee01\x00": nil, "a": nil, "Lee??": nil, "\xff": nil, "Anon": nil, "??": nil,
		strings.Repeat("Lee01", 2000): nil,
	} {
		keys, ok := impl.KeysOfLabel(l, label)
		checkSameKeys(t, "KeysOfLabel of "+label, keys, ok, want, true)
		keys, ok = impl.KeysOfLabel(impl.Library{}, label)
		checkSameKeys(t, "KeysOfLabel of no entries", keys, ok, nil, true)
	}
	labels, bases := labelsIn(l), baseLabelsIn(l)
	for _, near := range nearTexts("Lee01a") {
		keys, ok := impl.KeysOfLabel(l, near)
		checkSameKeys(t, "KeysOfLabel of "+near, keys, ok, keysLabelled(l, labels, bases, near), true)
	}
}

func TestRelabelKeys(t *testing.T) {
	berg, lee, none := bookOf("Berg, Anna", 1999, "Essays"), bookOf("Lee", 2001, ""), bookOf("", 0, "")
	full := labelled(lee, berg, lee, none, lee)
	for _, c := range []struct {
		what   string
		old, l impl.Library
		want   string
	}{
		{"nothing", labelled(), labelled(), ""},
		{"nothing before", labelled(), full, ""},
		{"the same", full, full, ""},
		{"the first one less", full, without(full, "a"), "a1b ab"},
		{"one in the middle less", full, without(full, "a1b"), "ab"},
		{"the last one less", full, without(full, "ab"), ""},
		{"two less", full, without(without(full, "a"), "ab"), "a1b"},
		{"the last two less", full, without(without(full, "ab"), "a1b"), "a"},
		{"one with a label of its own less", full, without(full, "a0"), ""},
		{"one changed into another's label", full, labelled(lee, berg, berg, none, lee), "a0 a1b ab"},
		{"one changed into a label of its own", full, labelled(lee, berg, lee, bookOf("", 0, "x"), lee), "aa"},
		{"one changed without its label", full, labelled(lee, bookOf("Bergson", 2099, "x"), lee, none, lee), ""},
		{"two exchanged", full, labelled(berg, lee, lee, none, lee), "a a0"},
		{"two with the same base label exchanged", labelled(lee, bookOf("Leeson", 1901, "")), labelled(bookOf("Leeson", 1901, ""), lee), ""},
		{"all others", full, labelled(none, none, none, berg, none), "a a0 a1b aa ab"},
		{"no shared Key", without(labelled(lee, berg), "a0"), without(labelled(lee, berg), "a"), ""},
		{"the same labels under other Keys", without(labelled(lee, lee), "a"), without(labelled(lee, lee), "a0"), ""},
		{"one shared Key", labelled(lee, lee), without(labelled(none, lee, lee), "a"), "a0"},
	} {
		for _, pair := range [][2]impl.Library{{c.old, c.l}, {c.l, c.old}} {
			keys := checkRelabelled(t, pair[0], pair[1])
			if got := strings.Join(keys, " "); got != c.want {
				t.Errorf("%s: %q, not %q", c.what, got, c.want)
			}
		}
	}
}

// closeLabel returns an entry whose base label other ones often have.
func closeLabel(r *rand.Rand) impl.Entry {
	people := []string{"", "Lee, Anna", "Lee, Bo", "Leeson", "LEE", "L; E; E", "Le", "L; E", "Berg", "de Berg; Lee", "B; L"}
	titles := []string{"", "1", "Lee", "le -", "L. E. E.", "anon", "Anon", "B l"}
	years := []int{0, 0, 1999, 1899, 99, 2001, 1, 2000}
	return bookOf(people[r.Intn(1+r.Intn(len(people)))], years[r.Intn(1+r.Intn(len(years)))], titles[r.Intn(len(titles))])
}

// randomLabels returns a library with some of someKeys in which base labels are often equal.
func randomLabels(r *rand.Rand) impl.Library {
	l := impl.Library{}
	for _, i := range r.Perm(len(someKeys))[:r.Intn(len(someKeys))] {
		e := closeLabel(r)
		e.Key = someKeys[i]
		l.Entries = append(l.Entries, e)
	}
	slices.SortFunc(l.Entries, func(a, b impl.Entry) int { return strings.Compare(a.Key, b.Key) })
	return l
}

func TestLabelsOfManyLibraries(t *testing.T) {
	r := rand.New(rand.NewSource(134))
	old := labelled()
	for range 2000 {
		l := randomLabels(r)
		checkLabels(t, l)
		checkRelabelled(t, old, l)
		checkRelabelled(t, l, l)
		if len(l.Entries) > 0 {
			i := r.Intn(len(l.Entries))
			checkRelabelled(t, l, without(l, l.Entries[i].Key))
			changed := impl.Library{Entries: slices.Clone(l.Entries)}
			changed.Entries[i] = closeLabel(r)
			changed.Entries[i].Key = l.Entries[i].Key
			checkRelabelled(t, l, changed)
		}
		old = l
	}
}

func TestLabelsOfAllPatterns(t *testing.T) {
	books := []impl.Entry{bookOf("Lee", 2001, ""), bookOf("Berg", 1999, ""), bookOf("", 0, "")}
	for _, s := range stringsOver("012", 5) {
		entries := []impl.Entry{}
		for i := range len(s) {
			entries = append(entries, books[s[i]-'0'])
		}
		l := labelled(entries...)
		checkLabels(t, l)
		if len(s) > 0 {
			checkRelabelled(t, l, labelled(entries[1:]...))
			checkRelabelled(t, l, without(l, "a"))
		}
	}
}

func TestLabelsOfFullLibraries(t *testing.T) {
	r := rand.New(rand.NewSource(135))
	names, dates := manyNames(), someDates()
	for range 300 {
		l := impl.Library{}
		for _, key := range someKeys[:8] {
			l.Entries = append(l.Entries, randomEntry(r, key, names, dates))
		}
		checkLabels(t, l)
		checkRelabelled(t, l, without(l, someKeys[r.Intn(8)]))
	}
}

func TestInvalidLibrariesHaveNoLabels(t *testing.T) {
	fine := labelled(bookOf("Lee", 2001, ""), bookOf("Lee", 2001, ""))
	bad := invalidLibraries()
	for _, e := range invalidEntries() {
		bad = append(bad, impl.Library{Entries: []impl.Entry{e}})
	}
	for _, l := range bad {
		for what, result := range map[string]func() ([]string, bool){
			"LabelsOf":                func() ([]string, bool) { return impl.LabelsOf(l) },
			"SortByLabel":             func() ([]string, bool) { return impl.SortByLabel(l) },
			"KeysOfLabel":             func() ([]string, bool) { return impl.KeysOfLabel(l, "BL99") },
			"KeysOfLabel of no label": func() ([]string, bool) { return impl.KeysOfLabel(l, "") },
			"RelabelKeys before":      func() ([]string, bool) { return impl.RelabelKeys(l, fine) },
			"RelabelKeys behind":      func() ([]string, bool) { return impl.RelabelKeys(fine, l) },
			"RelabelKeys of nothing":  func() ([]string, bool) { return impl.RelabelKeys(l, impl.Library{}) },
			"RelabelKeys to nothing":  func() ([]string, bool) { return impl.RelabelKeys(impl.Library{}, l) },
			"RelabelKeys of both":     func() ([]string, bool) { return impl.RelabelKeys(l, l) },
		} {
			if keys, ok := result(); ok || len(keys) != 0 {
				t.Errorf("%s(%.300q) = %q, %v", what, fmt.Sprint(l), keys, ok)
			}
		}
	}
}

func TestLabelsKeepTheirArguments(t *testing.T) {
	l, old := sharingLibrary(), sharingLibrary()
	before := whole(l)
	checkLabels(t, l)
	checkRelabelled(t, old, l)
	checkRelabelled(t, l, l)
	if whole(l) != before || whole(old) != before {
		t.Errorf("%s has become %s", before, whole(l))
	}
	keys := []string{"b", "a", "b", "c", "not a key", "", "a", "d", "e", "f", "g"}
	citations := [][]string{keys[:2], keys[1:4:4], {}, nil, keys[2:3], {"not a key"}, nil}[:5]
	order, ok := impl.FirstCited(citations)
	checkSameKeys(t, "FirstCited", order, ok, []string{"b", "a", "c"}, true)
	checkPlace(t, keys[:4], "c", 4)
	for i := range order[:cap(order)] {
		order[:cap(order)][i] = "spoilt"
	}
	if strings.Join(keys, ",") != "b,a,b,c,not a key,,a,d,e,f,g" || len(citations[3]) != 0 || citations[:7][5][0] != "not a key" {
		t.Errorf("%q, %q", keys, citations[:7])
	}
	numbers := []int{5, 1, 3, 2, 2, 0, 1000, 9}
	if text, ok := impl.NumbersText(numbers[:5]); !ok || text != "1-3, 5" || !slices.Equal(numbers, []int{5, 1, 3, 2, 2, 0, 1000, 9}) {
		t.Errorf("%q, %v, %v", text, ok, numbers)
	}
}

func TestLabelsDoNotDependOnEarlierCalls(t *testing.T) {
	l := labelled(bookOf("Lee", 2001, ""), bookOf("Lee", 2001, ""), bookOf("Berg", 2001, ""))
	for range 3 {
		labels, ok := impl.LabelsOf(l)
		checkSameKeys(t, "LabelsOf", labels, ok, []string{"Lee01a", "Lee01b", "Ber01"}, true)
		for i := range labels[:cap(labels)] {
			labels[:cap(labels)][i] = "spoilt"
		}
		list, ok := impl.ParseNumbers("1-3, 5")
		if !ok || !slices.Equal(list, []int{1, 2, 3, 5}) {
			t.Fatal("ParseNumbers", list, ok)
		}
		for i := range list[:cap(list)] {
			list[:cap(list)][i] = -7
		}
	}
}
