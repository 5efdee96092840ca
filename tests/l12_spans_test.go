package tests

import (
	"fmt"
	"math"
	"math/rand"
	"slices"
	"strings"
	"testing"
	"unicode"

	"loop.example/g00896/impl"
)

// otherQuotes changes every mark to the other one.
var otherQuotes = map[byte]byte{'"': '\'', '\'': '"'}

// isQuotedText reports whether s is a quoted text.
func isQuotedText(s string) bool {
	return len(s) <= 200 && !strings.ContainsFunc(s, func(c rune) bool { return c < 32 || c > 126 })
}

// quoteMarksIn returns the places of the marks of a quoted text.
func quoteMarksIn(s string) []int {
	places := []int{}
	padded := []rune(" " + s + " ")
	for i := range len(s) {
		apostrophe := s[i] == '\'' && unicode.IsLetter(padded[i]) && unicode.IsLetter(padded[i+2])
		if s[i] == '"' || s[i] == '\'' && !apostrophe {
			places = append(places, i)
		}
	}
	return places
}

// pairedIn takes the first two neighboring marks that are the same out of the marks, again and
// again, and returns them in ascending order and the marks that are left, whatever the program
// does.
func pairedIn(s string) ([][]int, []int) {
	pairs, left := [][]int{}, quoteMarksIn(s)
	for i := 0; i+1 < len(left); {
		if s[left[i]] != s[left[i+1]] {
			i++
			continue
		}
		pairs = append(pairs, []int{left[i], left[i+1]})
		left = slices.Delete(left, i, i+2)
		i = 0
	}
	slices.SortFunc(pairs, slices.Compare)
	return pairs, left
}

// depthIn returns the depth of a pair.
func depthIn(pairs [][]int, pair []int) int {
	depth := 1
	for _, p := range pairs {
		if p[0] < pair[0] && pair[1] < p[1] {
			depth++
		}
	}
	return depth
}

// deepestIn returns the greatest depth of a pair.
func deepestIn(s string) int {
	deepest := 0
	pairs, _ := pairedIn(s)
	for _, pair := range pairs {
		deepest = max(deepest, depthIn(pairs, pair))
	}
	return deepest
}

// alternatedOf changes the marks of all pairs by their depths, whatever the program does.
func alternatedOf(s string) string {
	text := []byte(s)
	pairs, _ := pairedIn(s)
	for _, pair := range pairs {
		for _, place := range pair {
			text[place] = []byte{'\'', '"'}[depthIn(pairs, pair)%2]
		}
	}
	return string(text)
}

// exchangedOf changes every paired mark, whatever the program does.
func exchangedOf(s string) string {
	text := []byte(s)
	pairs, _ := pairedIn(s)
	for _, place := range slices.Concat(pairs...) {
		text[place] = otherQuotes[s[place]]
	}
	return string(text)
}

// quotedOf is what QuoteText has to return.
func quotedOf(s string) (string, bool) {
	quoted := `"` + exchangedOf(s) + `"`
	if !isQuotedText(quoted) {
		return "", false
	}
	return quoted, true
}

// unquotedOf is what UnquoteText has to return.
func unquotedOf(s string) (string, bool) {
	inside, begins := strings.CutPrefix(s, `"`)
	inside, ends := strings.CutSuffix(inside, `"`)
	if !begins || !ends {
		return "", false
	}
	text := exchangedOf(inside)
	if quoted, ok := quotedOf(text); !ok || quoted != s {
		return "", false
	}
	return text, true
}

// hasQuoteBetweenLetters reports whether a `"` of a text would become an apostrophe.
func hasQuoteBetweenLetters(s string) bool {
	for i := 1; i+1 < len(s); i++ {
		if s[i] == '"' && unicode.IsLetter(rune(s[i-1])) && unicode.IsLetter(rune(s[i+1])) {
			return true
		}
	}
	return false
}

// checkSameText fails if a function has not returned the text that is wanted.
func checkSameText(t *testing.T, what, s, got string, ok bool, want string, fine bool) {
	t.Helper()
	if ok != fine || got != want {
		t.Fatalf("%s(%q) = %q, %v, not %q, %v", what, s, got, ok, want, fine)
	}
}

// checkQuoted checks every function of a quoted text.
func checkQuoted(t *testing.T, s string) {
	t.Helper()
	pairs, left := pairedIn(s)
	if got, ok := impl.PairMarks(s); !ok || !slices.EqualFunc(got, pairs, slices.Equal) {
		t.Fatalf("PairMarks(%q) = %v, %v, not %v", s, got, ok, pairs)
	}
	if got, ok := impl.UnpairedMarks(s); !ok || !slices.Equal(got, left) {
		t.Fatalf("UnpairedMarks(%q) = %v, %v, not %v", s, got, ok, left)
	}
	if got, ok := impl.QuoteDepth(s); !ok || got != deepestIn(s) {
		t.Fatalf("QuoteDepth(%q) = %d, %v, not %d", s, got, ok, deepestIn(s))
	}
	alternated, ok := impl.AlternateQuotes(s)
	checkSameText(t, "AlternateQuotes", s, alternated, ok, alternatedOf(s), true)
	want, fine := quotedOf(s)
	quoted, ok := impl.QuoteText(s)
	checkSameText(t, "QuoteText", s, quoted, ok, want, fine)
	checkUnquoted(t, s)
	if fine {
		checkUnquoted(t, quoted)
	}
	checkRecovered(t, s)
	checkQuotedSpans(t, []impl.Span{{Text: s}})
}

// checkUnquoted checks UnquoteText for a quoted text.
func checkUnquoted(t *testing.T, s string) {
	t.Helper()
	want, fine := unquotedOf(s)
	text, ok := impl.UnquoteText(s)
	checkSameText(t, "UnquoteText", s, text, ok, want, fine)
	if !ok {
		return
	}
	quoted, ok := impl.QuoteText(text)
	checkSameText(t, "QuoteText", text, quoted, ok, s, true)
}

// checkRecovered checks the second half of promise 12 for a text.
func checkRecovered(t *testing.T, s string) {
	t.Helper()
	quoted, ok := impl.QuoteText(s)
	_, left := pairedIn(s)
	if !ok || len(left) > 0 || hasQuoteBetweenLetters(s) {
		return
	}
	text, ok := impl.UnquoteText(quoted)
	checkSameText(t, "UnquoteText", quoted, text, ok, s, true)
}

// quotedLetters returns the letters that QuoteSpans has to return.
func quotedLetters(all []letter) ([]letter, bool) {
	quoted, ok := quotedOf(textOfLetters(all))
	if !ok {
		return nil, false
	}
	changed := slices.Concat(lettersOfText(`"`), all, lettersOfText(`"`))
	for i := range changed {
		changed[i].c = quoted[i]
	}
	return changed, true
}

// checkQuotedSpans checks QuoteSpans for a valid list.
func checkQuotedSpans(t *testing.T, list []impl.Span) {
	t.Helper()
	want := []impl.Span{}
	letters, fine := []letter{}, false
	if isQuotedText(textOfLetters(lettersOfSpans(list))) {
		letters, fine = quotedLetters(lettersOfSpans(list))
	}
	if fine {
		want, fine = validSpans(spansOfLetters(letters))
	}
	got, ok := impl.QuoteSpans(list)
	checkEqualSpans(t, fmt.Sprintf("QuoteSpans(%v)", list), got, ok, want, fine)
	if !ok {
		return
	}
	plain, _ := impl.PlainText(list)
	text, _ := impl.PlainText(got)
	quoted, ok := impl.QuoteText(plain)
	checkSameText(t, "QuoteText", plain, quoted, ok, text, true)
}

// validSpans returns a list and true, or nothing and false if it is not valid.
func validSpans(list []impl.Span) ([]impl.Span, bool) {
	if !isSpans(list) {
		return []impl.Span{}, false
	}
	return list, true
}

// emphasizedOf changes Italic letter by letter, whatever the program does.
func emphasizedOf(list []impl.Span) []impl.Span {
	all := lettersOfSpans(list)
	for i := range all {
		all[i].italic = !all[i].italic
	}
	return spansOfLetters(all)
}

// checkEmphasized checks EmphasizeSpans and QuoteSpans for a valid list.
func checkEmphasized(t *testing.T, list []impl.Span) {
	t.Helper()
	got, ok := impl.EmphasizeSpans(list)
	checkEqualSpans(t, fmt.Sprintf("EmphasizeSpans(%v)", list), got, ok, emphasizedOf(list), true)
	again, ok := impl.EmphasizeSpans(got)
	checkEqualSpans(t, fmt.Sprintf("EmphasizeSpans(%v)", got), again, ok, spansOfLetters(lettersOfSpans(list)), true)
	checkQuotedSpans(t, list)
}

// checkSplit checks SplitSpans, and the first half of promise 12, for a valid list.
func checkSplit(t *testing.T, list []impl.Span, at int) {
	t.Helper()
	all := lettersOfSpans(list)
	first, rest, ok := impl.SplitSpans(list, at)
	what := fmt.Sprintf("SplitSpans(%v, %d)", list, at)
	if at < 0 || at > len(all) {
		checkEqualSpans(t, what, first, ok, []impl.Span{}, false)
		checkEqualSpans(t, what, rest, ok, []impl.Span{}, false)
		return
	}
	checkEqualSpans(t, what, first, ok, spansOfLetters(all[:at]), true)
	checkEqualSpans(t, what, rest, ok, spansOfLetters(all[at:]), true)
	whole, _ := impl.NormalizeSpans(list)
	// Both parts together may have one span too many for a list.
	if together := slices.Concat(first, rest); len(together) <= 80 {
		joined, ok := impl.NormalizeSpans(together)
		checkEqualSpans(t, what, joined, ok, whole, true)
	}
}

// replacedOf replaces letters, whatever the program does.
func replacedOf(list []impl.Span, from, to int, text string) ([]impl.Span, bool) {
	all := lettersOfSpans(list)
	if from < 0 || from > to || to > len(all) || !isQuotedText(text) {
		return []impl.Span{}, false
	}
	replacing := lettersOfText(text)
	for i := range replacing {
		if len(all) > 0 {
			like := all[min(from, len(all)-1)]
			replacing[i].italic, replacing[i].bold = like.italic, like.bold
		}
	}
	return validSpans(spansOfLetters(slices.Concat(all[:from], replacing, all[to:])))
}

// checkReplacedSpans checks ReplaceSpans for a valid list.
func checkReplacedSpans(t *testing.T, list []impl.Span, from, to int, text string) {
	t.Helper()
	want, fine := replacedOf(list, from, to, text)
	got, ok := impl.ReplaceSpans(list, from, to, text)
	if ok != fine || !slices.Equal(got, want) {
		t.Fatalf("ReplaceSpans(%v, %d, %d, %q) = %v, %v, not %v, %v", list, from, to, text, got, ok, want, fine)
	}
}

// checkEveryPlace checks the functions of a valid list at all places, in and out of the list.
func checkEveryPlace(t *testing.T, list []impl.Span, texts ...string) {
	t.Helper()
	before, n := slices.Clone(list), len(lettersOfSpans(list))
	checkEmphasized(t, list)
	for from := -1; from <= n+1; from++ {
		checkSplit(t, list, from)
		for to := -1; to <= n+1; to++ {
			for _, text := range texts {
				checkReplacedSpans(t, list, from, to, text)
			}
		}
	}
	if !slices.Equal(list, before) {
		t.Fatalf("%v has become %v", before, list)
	}
}

// checkNoQuotation checks that every function refuses s.
func checkNoQuotation(t *testing.T, s string) {
	t.Helper()
	for what, change := range map[string]func(string) (string, bool){
		"AlternateQuotes": impl.AlternateQuotes, "QuoteText": impl.QuoteText, "UnquoteText": impl.UnquoteText,
	} {
		got, ok := change(s)
		checkSameText(t, what, s, got, ok, "", false)
	}
	if got, ok := impl.PairMarks(s); ok || len(got) != 0 {
		t.Errorf("PairMarks(%q) = %v, %v", s, got, ok)
	}
	if got, ok := impl.UnpairedMarks(s); ok || len(got) != 0 {
		t.Errorf("UnpairedMarks(%q) = %v, %v", s, got, ok)
	}
	if got, ok := impl.QuoteDepth(s); ok || got != 0 {
		t.Errorf("QuoteDepth(%q) = %v, %v", s, got, ok)
	}
	got, ok := impl.QuoteSpans([]impl.Span{{Text: s}})
	checkEqualSpans(t, fmt.Sprintf("QuoteSpans of %q", s), got, ok, []impl.Span{}, false)
	for _, list := range [][]impl.Span{nil, {{Text: "abc"}}} {
		got, ok := impl.ReplaceSpans(list, 0, 0, s)
		checkEqualSpans(t, fmt.Sprintf("ReplaceSpans with %q", s), got, ok, []impl.Span{}, false)
	}
}

// checkNoChangedSpans checks that every function refuses a list.
func checkNoChangedSpans(t *testing.T, what string, list []impl.Span) {
	t.Helper()
	got, ok := impl.EmphasizeSpans(list)
	checkEqualSpans(t, "EmphasizeSpans: "+what, got, ok, []impl.Span{}, false)
	got, ok = impl.QuoteSpans(list)
	checkEqualSpans(t, "QuoteSpans: "+what, got, ok, []impl.Span{}, false)
	for _, at := range []int{-1, 0, 1, 2, 4000} {
		first, rest, ok := impl.SplitSpans(list, at)
		checkEqualSpans(t, "SplitSpans: "+what, first, ok, []impl.Span{}, false)
		checkEqualSpans(t, "SplitSpans: "+what, rest, ok, []impl.Span{}, false)
		for _, text := range []string{"", "a"} {
			got, ok := impl.ReplaceSpans(list, 0, at, text)
			checkEqualSpans(t, "ReplaceSpans: "+what, got, ok, []impl.Span{}, false)
		}
	}
}

func TestLimitOfQuotedTexts(t *testing.T) {
	if impl.MaxQuoted != 200 {
		t.Error("MaxQuoted is", impl.MaxQuoted)
	}
}

func TestEmphasizeSpans(t *testing.T) {
	for _, c := range []struct {
		list []impl.Span
		want string
	}{
		{nil, ""}, {[]impl.Span{{}}, ""}, {[]impl.Span{{Italic: true}, {Bold: true}}, ""}, {[]impl.Span{{Text: "a"}}, "_a_"}, {[]impl.Span{{Text: "a", Italic: true}}, "a"}, {[]impl.Span{{Text: "a", Bold: true}}, "*_a_*"}, {[]impl.Span{{Text: "a", Italic: true, Bold: true}}, "*a*"},
		{[]impl.Span{{Text: "a"}, {Text: "b", Italic: true}, {Text: "c", Bold: true}, {Text: "d", Italic: true, Bold: true}}, "_a_b*_c_**d*"}, {[]impl.Span{{Text: "a"}, {Text: "b"}}, "_ab_"}, {[]impl.Span{{Text: "a"}, {Text: "", Italic: true}, {Text: "b"}}, "_ab_"},
	} {
		checkEmphasized(t, c.list)
		got, ok := impl.EmphasizeSpans(c.list)
		if markup := markupOf(lettersOfSpans(got)); !ok || markup != c.want {
			t.Errorf("EmphasizeSpans(%v) is %q, %v, not %q", c.list, markup, ok, c.want)
		}
	}
}

func TestSplitSpans(t *testing.T) {
	list := []impl.Span{{Text: "ab"}, {}, {Text: "c"}, {Text: "de", Italic: true}, {Text: "", Bold: true}, {Text: "f", Bold: true}, {Text: "gh", Italic: true, Bold: true}, {Text: ""}}
	for at, want := range [][2]string{
		{"", "abc_de_*f**_gh_*"}, {"a", "bc_de_*f**_gh_*"}, {"ab", "c_de_*f**_gh_*"}, {"abc", "_de_*f**_gh_*"}, {"abc_d_", "_e_*f**_gh_*"},
		{"abc_de_", "*f**_gh_*"}, {"abc_de_*f*", "*_gh_*"}, {"abc_de_*f**_g_*", "*_h_*"}, {"abc_de_*f**_gh_*", ""},
	} {
		checkSplit(t, list, at)
		first, rest, ok := impl.SplitSpans(list, at)
		if a, b := markupOf(lettersOfSpans(first)), markupOf(lettersOfSpans(rest)); !ok || a != want[0] || b != want[1] {
			t.Errorf("SplitSpans at %d: %q, %q, %v, not %q", at, a, b, ok, want)
		}
	}
	for _, at := range []int{-1, 9, 10, math.MinInt, math.MaxInt} {
		checkSplit(t, list, at)
	}
	for _, at := range []int{-1, 0, 1} {
		for _, empty := range [][]impl.Span{nil, {}, {{}}, {{Italic: true}, {Bold: true}}} {
			checkSplit(t, empty, at)
		}
	}
}

func TestReplaceSpans(t *testing.T) {
	list := []impl.Span{{Text: "ab"}, {Text: "cd", Italic: true}, {Text: "", Bold: true}, {Text: "ef", Bold: true}, {Text: "gh", Italic: true, Bold: true}}
	for _, c := range []struct {
		from, to int
		text     string
		want     string
	}{
		// Nothing is replaced.
		{0, 0, "X", "Xab_cd_*ef**_gh_*"}, {1, 1, "X", "aXb_cd_*ef**_gh_*"}, {2, 2, "X", "ab_Xcd_*ef**_gh_*"}, {3, 3, "X", "ab_cXd_*ef**_gh_*"}, {4, 4, "X", "ab_cd_*Xef**_gh_*"}, {6, 6, "X", "ab_cd_*ef**_Xgh_*"}, {8, 8, "X", "ab_cd_*ef**_ghX_*"},
		{0, 0, "", "ab_cd_*ef**_gh_*"}, {5, 5, "", "ab_cd_*ef**_gh_*"}, {8, 8, "", "ab_cd_*ef**_gh_*"},
		// One span and several ones.
		{0, 1, "X", "Xb_cd_*ef**_gh_*"}, {0, 2, "X", "X_cd_*ef**_gh_*"}, {1, 3, "XY", "aXY_d_*ef**_gh_*"}, {2, 4, "X", "ab_X_*ef**_gh_*"}, {3, 7, "X", "ab_cX_*_h_*"}, {5, 8, "X", "ab_cd_*eX*"}, {7, 8, "X", "ab_cd_*ef**_gX_*"}, {1, 8, "X", "aX"}, {0, 8, "X", "X"}, {2, 8, "X", "ab_X_"},
		// An empty text.
		{0, 8, "", ""}, {0, 2, "", "_cd_*ef**_gh_*"}, {2, 4, "", "ab*ef**_gh_*"}, {3, 5, "", "ab_c_*f**_gh_*"}, {4, 8, "", "ab_cd_"}, {7, 8, "", "ab_cd_*ef**_g_*"}, {1, 7, "", "a*_h_*"},
		// Marks and spaces are bytes as others are.
		{2, 6, `"' *_`, `ab_"' \*\__*_gh_*`},
	} {
		checkReplacedSpans(t, list, c.from, c.to, c.text)
		got, ok := impl.ReplaceSpans(list, c.from, c.to, c.text)
		if markup := markupOf(lettersOfSpans(got)); !ok || markup != c.want {
			t.Errorf("ReplaceSpans(%d, %d, %q) is %q, %v, not %q", c.from, c.to, c.text, markup, ok, c.want)
		}
	}
	for _, place := range [][2]int{{-1, 0}, {-1, -1}, {0, 9}, {9, 9}, {8, 9}, {1, 0}, {8, 7}, {8, 0}, {math.MinInt, math.MaxInt}, {0, math.MaxInt}, {math.MinInt, 0}, {math.MaxInt, math.MinInt}} {
		checkReplacedSpans(t, list, place[0], place[1], "X")
		checkReplacedSpans(t, list, place[0], place[1], "")
	}
}

func TestReplaceSpansOfAnEmptyList(t *testing.T) {
	for _, empty := range [][]impl.Span{nil, {}, {{}}, {{Italic: true}, {Bold: true}}, {{Italic: true, Bold: true}}} {
		checkEveryPlace(t, empty, "", "a", `"`)
		// The spans have no byte, so there is no emphasis.
		got, ok := impl.ReplaceSpans(empty, 0, 0, "ab")
		checkEqualSpans(t, fmt.Sprint(empty), got, ok, []impl.Span{{Text: "ab"}}, true)
	}
	// The last byte counts, not the last span.
	got, ok := impl.ReplaceSpans([]impl.Span{{Text: "a", Bold: true}, {Italic: true}}, 1, 1, "b")
	checkEqualSpans(t, "the last byte", got, ok, []impl.Span{{Text: "ab", Bold: true}}, true)
	got, ok = impl.ReplaceSpans([]impl.Span{{Italic: true}, {Text: "a", Bold: true}}, 0, 0, "b")
	checkEqualSpans(t, "the first byte", got, ok, []impl.Span{{Text: "ba", Bold: true}}, true)
}

func TestReplacedSpansAreNormal(t *testing.T) {
	// Neighbors that agree come together if what was between them is left out.
	list := []impl.Span{{Text: "a"}, {Text: "b", Bold: true}, {Text: "c"}}
	got, ok := impl.ReplaceSpans(list, 1, 2, "")
	checkEqualSpans(t, "left out", got, ok, []impl.Span{{Text: "ac"}}, true)
	got, ok = impl.ReplaceSpans(list, 0, 2, "")
	checkEqualSpans(t, "left out at the beginning", got, ok, []impl.Span{{Text: "c"}}, true)
	got, ok = impl.ReplaceSpans([]impl.Span{{Text: "a"}, {Text: "b"}, {}, {Text: "c"}}, 1, 1, "X")
	checkEqualSpans(t, "put in", got, ok, []impl.Span{{Text: "aXbc"}}, true)
}

func TestAllShortListsChanged(t *testing.T) {
	var spans []impl.Span
	for _, text := range []string{"", "a", `"b`, "'"} {
		for set := range 4 {
			spans = append(spans, impl.Span{Text: text, Italic: set&1 > 0, Bold: set&2 > 0})
		}
	}
	lists := [][]impl.Span{nil}
	for range 3 {
		var longer [][]impl.Span
		for _, list := range lists {
			for _, span := range spans {
				longer = append(longer, append(slices.Clone(list), span))
			}
		}
		for _, list := range longer {
			checkEveryPlace(t, list, "", "x", `'"`)
		}
		lists = longer
	}
}

// randomSpans returns a list of at most so many spans with a few bytes each.
func randomSpans(r *rand.Rand, most int) []impl.Span {
	list := []impl.Span{}
	for range r.Intn(most + 1) {
		text := ""
		for range r.Intn(5) {
			text += []string{`"`, "'", "a", " ", string(rune(32 + r.Intn(95)))}[r.Intn(5)]
		}
		list = append(list, impl.Span{Text: text, Italic: r.Intn(2) == 0, Bold: r.Intn(2) == 0})
	}
	return list
}

func TestManyListsChanged(t *testing.T) {
	r := rand.New(rand.NewSource(120))
	for range 20000 {
		list := randomSpans(r, 1+r.Intn(30))
		n := len(lettersOfSpans(list))
		checkEmphasized(t, list)
		checkSplit(t, list, r.Intn(n+3)-1)
		text := textOfLetters(lettersOfSpans(randomSpans(r, 3)))
		checkReplacedSpans(t, list, r.Intn(n+3)-1, r.Intn(n+3)-1, text)
		from := r.Intn(n + 1)
		checkReplacedSpans(t, list, from, from+r.Intn(n-from+1), text)
	}
}

func TestPairMarks(t *testing.T) {
	for _, c := range []struct {
		s     string
		pairs [][]int
		left  []int
		depth int
	}{
		{"", nil, nil, 0}, {"a b", nil, nil, 0}, {`"`, nil, []int{0}, 0}, {"'", nil, []int{0}, 0}, {`""`, [][]int{{0, 1}}, nil, 1}, {"''", [][]int{{0, 1}}, nil, 1}, {`"'`, nil, []int{0, 1}, 0}, {`'"`, nil, []int{0, 1}, 0},
		{`"a 'b' c"`, [][]int{{0, 8}, {3, 5}}, nil, 2}, {`"a" 'b' "c"`, [][]int{{0, 2}, {4, 6}, {8, 10}}, nil, 1}, {`"'a' 'b'"`, [][]int{{0, 8}, {1, 3}, {5, 7}}, nil, 2}, {`"a '"b"' c"`, [][]int{{0, 10}, {3, 7}, {4, 6}}, nil, 3},
		// A pair of the same mark stands beside a pair, never in it.
		{`"a "b" c"`, [][]int{{0, 3}, {5, 8}}, nil, 1}, {`""""`, [][]int{{0, 1}, {2, 3}}, nil, 1}, {`"""`, [][]int{{0, 1}}, []int{2}, 1}, {"'''''", [][]int{{0, 1}, {2, 3}}, []int{4}, 1},
		{`"''"`, [][]int{{0, 3}, {1, 2}}, nil, 2}, {`'""'`, [][]int{{0, 3}, {1, 2}}, nil, 2}, {`"'"'"`, nil, []int{0, 1, 2, 3, 4}, 0}, {`"'""'"`, [][]int{{0, 5}, {1, 4}, {2, 3}}, nil, 3}, {`"'"'"'`, nil, []int{0, 1, 2, 3, 4, 5}, 0},
		// Marks that are open at the end.
		{`"a 'b"`, nil, []int{0, 3, 5}, 0}, {`a" 'b' c`, [][]int{{3, 5}}, []int{1}, 1}, {`'a "b" c`, [][]int{{3, 5}}, []int{0}, 1}, {`"a" 'b`, [][]int{{0, 2}}, []int{4}, 1}, {`" ' "" '' "a"`, [][]int{{2, 7}, {4, 5}, {10, 12}}, []int{0, 8}, 2},
		{`' "a 'b' c" "`, [][]int{{2, 10}, {5, 7}}, []int{0, 12}, 2}, {`" 'a' ' "b"`, [][]int{{2, 4}, {8, 10}}, []int{0, 6}, 1},
		// Apostrophes.
		{"don't", nil, nil, 0}, {`don't "x`, nil, []int{6}, 0}, {`"don't"`, [][]int{{0, 6}}, nil, 1}, {"'don't'", [][]int{{0, 6}}, nil, 1}, {"a'b'c'd", nil, nil, 0}, {"A'Z z'a", nil, nil, 0},
		{"a'1", nil, []int{1}, 0}, {"1'a", nil, []int{1}, 0}, {"1'2", nil, []int{1}, 0}, {"'a", nil, []int{0}, 0}, {"a'", nil, []int{1}, 0}, {"a' b", nil, []int{1}, 0}, {"a 'b", nil, []int{2}, 0}, {"the '90s", nil, []int{4}, 0}, {"dogs' 'tis", [][]int{{4, 6}}, nil, 1},
		{"a''b", [][]int{{1, 2}}, nil, 1}, {"a'''b", [][]int{{1, 2}}, []int{3}, 1}, {`a'"b`, nil, []int{1, 2}, 0}, {`a"'b`, nil, []int{1, 2}, 0}, {`a'"'b`, nil, []int{1, 2, 3}, 0}, {`a"b"c`, [][]int{{1, 3}}, nil, 1}, {"a'b''c", [][]int{{3, 4}}, nil, 1},
		{"a-'b", nil, []int{2}, 0}, {"[a'b]", nil, nil, 0}, {"a@'b", nil, []int{2}, 0}, {"@'a", nil, []int{1}, 0}, {"a'@", nil, []int{1}, 0}, {"Z'[", nil, []int{1}, 0}, {"z'{", nil, []int{1}, 0}, {"a'`", nil, []int{1}, 0},
		// The grave accent is no mark.
		{"`a` 'b'", [][]int{{4, 6}}, nil, 1},
	} {
		checkQuoted(t, c.s)
		if got, ok := impl.PairMarks(c.s); !ok || !slices.EqualFunc(got, c.pairs, slices.Equal) {
			t.Errorf("PairMarks(%q) = %v, %v, not %v", c.s, got, ok, c.pairs)
		}
		if got, ok := impl.UnpairedMarks(c.s); !ok || !slices.Equal(got, c.left) {
			t.Errorf("UnpairedMarks(%q) = %v, %v, not %v", c.s, got, ok, c.left)
		}
		if got, ok := impl.QuoteDepth(c.s); !ok || got != c.depth {
			t.Errorf("QuoteDepth(%q) = %v, %v, not %v", c.s, got, ok, c.depth)
		}
	}
}

func TestDeepPairs(t *testing.T) {
	for depth := range 101 {
		half := strings.Repeat(`"'`, 50)[:depth]
		back := []byte(half)
		slices.Reverse(back)
		s := half + string(back)
		checkQuoted(t, s)
		if got, ok := impl.QuoteDepth(s); !ok || got != depth {
			t.Errorf("QuoteDepth(%q) = %d, %v", s, got, ok)
		}
	}
}

func TestAlternateQuotes(t *testing.T) {
	for _, c := range [][2]string{
		{"", ""}, {"a", "a"}, {`"`, `"`}, {"'", "'"}, {"''", `""`}, {`""`, `""`}, {`"'`, `"'`}, {"'a'", `"a"`}, {`'a "b" c'`, `"a 'b' c"`}, {`"a 'b' c"`, `"a 'b' c"`}, {`'a' "b" 'c'`, `"a" "b" "c"`}, {`'"'a'"'`, `"'"a"'"`}, {`"'"a"'"`, `"'"a"'"`},
		{`''""''`, `""""""`}, {`'"'"""'"'`, `'"'"""'"'`}, {"don't", "don't"}, {"'don't'", `"don't"`}, {"dogs' 'tis", `dogs" "tis`}, {`" ''`, `" ""`}, {`' ""`, `' ""`}, {`'a "b"`, `'a "b"`}, {`" 'a "b" c'`, `" "a 'b' c"`}, {`'" 'a`, `'" 'a`},
		// A mark that becomes an apostrophe, and marks that are no apostrophes.
		{`"x"y"z"`, `"x"y"z"`}, {`'x"y"z'`, `"x'y'z"`}, {"a''b", `a""b`}, {`'a''b'`, `"a""b"`},
	} {
		checkQuoted(t, c[0])
		got, ok := impl.AlternateQuotes(c[0])
		checkSameText(t, "AlternateQuotes", c[0], got, ok, c[1], true)
	}
}

func TestQuoteText(t *testing.T) {
	for _, c := range [][2]string{
		{"", `""`}, {"a", `"a"`}, {" ", `" "`}, {`the "big" one`, `"the 'big' one"`}, {"the 'big' one", `"the "big" one"`}, {`""`, `"''"`}, {"''", `""""`}, {`"`, `"""`}, {"'", `"'"`}, {`"a 'b' c" 'd'`, `"'a "b" c' "d""`}, {`"'"a"'"`, `"'"'a'"'"`},
		{"don't", `"don't"`}, {`"don't"`, `"'don't'"`}, {"dogs' 'tis", `"dogs" "tis"`}, {`a "b" 'c`, `"a 'b' 'c"`}, {`"a 'b`, `""a 'b"`}, {`"a 'b' c`, `""a "b" c"`}, {`x"y"`, `"x'y'"`}, {"a'1'", `"a"1""`},
		// Marks that become apostrophes, and one of two that does.
		{`a"b"c`, `"a'b'c"`}, {`a"b" c`, `"a'b' c"`}, {`"a"b`, `"'a'b"`},
	} {
		checkQuoted(t, c[0])
		got, ok := impl.QuoteText(c[0])
		checkSameText(t, "QuoteText", c[0], got, ok, c[1], true)
	}
}

func TestUnquoteText(t *testing.T) {
	for _, c := range [][2]string{
		{`""`, ""}, {`"a"`, "a"}, {`" "`, " "}, {`"the 'big' one"`, `the "big" one`}, {`"the "big" one"`, "the 'big' one"}, {`"''"`, `""`}, {`""""`, "''"}, {`"""`, `"`}, {`"'"`, "'"}, {`"'a "b" c' "d""`, `"a 'b' c" 'd'`},
		{`"don't"`, "don't"}, {`"'don't'"`, `"don't"`}, {`"dogs" "tis"`, "dogs' 'tis"}, {`"a 'b' 'c"`, `a "b" 'c`}, {`""a 'b"`, `"a 'b`}, {`"'''"`, `""'`},
		// Apostrophes remain, although marks may have become them.
		{`"a'b'c"`, "a'b'c"},
	} {
		checkUnquoted(t, c[0])
		got, ok := impl.UnquoteText(c[0])
		checkSameText(t, "UnquoteText", c[0], got, ok, c[1], true)
		checkQuoted(t, c[0])
	}
}

func TestUnquoteTextRefusesOtherTexts(t *testing.T) {
	for _, s := range []string{
		"", "a", `"`, "'", "''", "'a'", `"a`, `a"`, `"a'`, `'a"`, ` "a"`, `"a" `, `a "b"`, `"a" b`, `x"`, "don't", `'"a"'`, `'""`, `""'`,
		// The marks of a pair would become apostrophes.
		`"x"y"z"`, `"a"b" c"`, `"'x"y"z'"`,
		// The marks of a pair would meet unpaired ones.
		`"'"""`, `""'''"`, `"'"'''"`,
	} {
		checkQuoted(t, s)
		got, ok := impl.UnquoteText(s)
		checkSameText(t, "UnquoteText", s, got, ok, "", false)
	}
}

func TestAllShortQuotedTexts(t *testing.T) {
	for _, s := range stringsOver(`"'`, 12) {
		checkQuoted(t, s)
	}
	for _, s := range stringsOver(`"'a`, 8) {
		checkQuoted(t, s)
	}
	for _, s := range stringsOver(`"'a 1`, 6) {
		checkQuoted(t, s)
	}
	for _, s := range sequences([]string{`"`, "'", "x'y", `x"y`, " ", "z", "9"}, 5) {
		checkQuoted(t, s)
		checkUnquoted(t, `"`+s+`"`)
	}
}

// randomQuotation returns a text of at most so many bytes with many marks.
func randomQuotation(r *rand.Rand, most int) string {
	text := ""
	for range r.Intn(most + 1) {
		text += []string{`"`, "'", " ", "a", string(rune(32 + r.Intn(95)))}[r.Intn(5)]
	}
	return text
}

// nestedQuotation returns a text with pairs in pairs, all of them closed.
func nestedQuotation(r *rand.Rand, depth int) string {
	text := ""
	for range r.Intn(4) {
		switch {
		case depth > 0 && r.Intn(2) == 0:
			mark := []string{`"`, "'"}[r.Intn(2)]
			text += " " + mark + nestedQuotation(r, depth-1) + mark + " "
		default:
			text += []string{"a", "it's", "9", ", ", "the"}[r.Intn(5)]
		}
	}
	return text
}

func TestManyQuotedTexts(t *testing.T) {
	r := rand.New(rand.NewSource(121))
	for range 20000 {
		checkQuoted(t, randomQuotation(r, 1+r.Intn(200)))
		if s := nestedQuotation(r, 1+r.Intn(6)); isQuotedText(s) {
			checkQuoted(t, s)
		} else {
			checkNoQuotation(t, s)
		}
	}
}

func TestQuoteSpans(t *testing.T) {
	for _, c := range []struct {
		list []impl.Span
		want []impl.Span
	}{
		{nil, []impl.Span{{Text: `""`}}}, {[]impl.Span{{}, {Bold: true}}, []impl.Span{{Text: `""`}}}, {[]impl.Span{{Text: "a"}}, []impl.Span{{Text: `"a"`}}},
		{[]impl.Span{{Text: "a", Bold: true}}, []impl.Span{{Text: `"`}, {Text: "a", Bold: true}, {Text: `"`}}}, {[]impl.Span{{Text: "a", Italic: true}, {Text: "b"}}, []impl.Span{{Text: `"`}, {Text: "a", Italic: true}, {Text: `b"`}}},
		{[]impl.Span{{Text: "a"}, {Text: "b", Italic: true, Bold: true}}, []impl.Span{{Text: `"a`}, {Text: "b", Italic: true, Bold: true}, {Text: `"`}}},
		// Marks in different spans are paired, and a letter in another span makes an apostrophe.
		{[]impl.Span{{Text: `"a`}, {Text: `b"`, Bold: true}}, []impl.Span{{Text: `"'a`}, {Text: "b'", Bold: true}, {Text: `"`}}}, {[]impl.Span{{Text: `"`, Italic: true}, {Text: "a"}, {Text: `"`, Bold: true}}, []impl.Span{{Text: `"`}, {Text: "'", Italic: true}, {Text: "a"}, {Text: "'", Bold: true}, {Text: `"`}}},
		{[]impl.Span{{Text: "'a", Bold: true}, {Text: "'", Italic: true}, {Text: "b'"}}, []impl.Span{{Text: `"`}, {Text: `"a`, Bold: true}, {Text: "'", Italic: true}, {Text: `b""`}}}, {[]impl.Span{{Text: "a", Bold: true}, {Text: "''"}, {Text: "b", Bold: true}}, []impl.Span{{Text: `"`}, {Text: "a", Bold: true}, {Text: `""`}, {Text: "b", Bold: true}, {Text: `"`}}},
		{[]impl.Span{{Text: "'", Bold: true}, {}, {Text: "x"}, {}, {Text: `"`, Bold: true}}, []impl.Span{{Text: `"`}, {Text: "'", Bold: true}, {Text: "x"}, {Text: `"`, Bold: true}, {Text: `"`}}},
	} {
		checkQuotedSpans(t, c.list)
		got, ok := impl.QuoteSpans(c.list)
		checkEqualSpans(t, fmt.Sprintf("QuoteSpans(%v)", c.list), got, ok, c.want, true)
	}
}

func TestEveryByteOfAQuotedText(t *testing.T) {
	for c := range 256 {
		one := string([]byte{byte(c)})
		for _, s := range []string{one, "a" + one, one + "a", "a" + one + "b", one + "'a", "a'" + one, `"` + one + `"`, "'" + one + "'", strings.Repeat("a", 199) + one, strings.Repeat(one, 200)} {
			if c >= 32 && c <= 126 {
				checkQuoted(t, s)
				checkReplacedSpans(t, []impl.Span{{Text: "abc", Bold: true}}, 1, 2, s)
			} else {
				checkNoQuotation(t, s)
			}
		}
	}
	for _, s := range []string{"caf\u00e9", "\u201ca\u201d", "\u2018a\u2019", "don\u2019t", "\"\u00e9\"", "\"a\n\"", "\"\xff\"", "\"\x00\""} {
		checkNoQuotation(t, s)
	}
}

func TestLengthsOfQuotedTexts(t *testing.T) {
	for _, piece := range []string{"a", `"`, "'", " ", `"'`, `"a`, "'a", "a'", `"a" `, `'"a"' `, "a'b"} {
		long := strings.Repeat(piece, 300)
		for _, length := range []int{1, 2, 3, 100, 197, 198, 199, 200} {
			checkQuoted(t, long[:length])
			checkReplacedSpans(t, []impl.Span{{Text: "abc"}, {Text: "d", Bold: true}}, 1, 3, long[:length])
			_, ok := impl.QuoteText(long[:length])
			if ok != (length <= 198) {
				t.Errorf("QuoteText of %d bytes: %v", length, ok)
			}
			checkUnquoted(t, `"`+long[:min(length, 198)]+`"`)
		}
		for _, length := range []int{201, 202, 300} {
			checkNoQuotation(t, long[:length])
		}
		checkNoQuotation(t, strings.Repeat(piece, 5000))
		checkNoQuotation(t, `"`+long[:199]+`"`)
	}
	full := strings.Repeat("a", 198)
	if got, ok := impl.QuoteText(full); !ok || got != `"`+full+`"` {
		t.Errorf("QuoteText: %q, %v", got, ok)
	}
	if got, ok := impl.UnquoteText(`"` + full + `"`); !ok || got != full {
		t.Errorf("UnquoteText: %q, %v", got, ok)
	}
}

// turningSpans returns so many spans with one byte each that do not agree with their neighbors.
func turningSpans(number int) []impl.Span {
	list := []impl.Span{}
	for i := range number {
		list = append(list, impl.Span{Text: "a", Italic: i%2 == 0, Bold: true})
	}
	return list
}

func TestNumbersOfChangedSpans(t *testing.T) {
	for number := range 90 {
		list := turningSpans(number)
		if number > 80 {
			checkNoChangedSpans(t, fmt.Sprint(number, " spans"), list)
			checkNoChangedSpans(t, fmt.Sprint(number, " empty spans"), make([]impl.Span, number))
			continue
		}
		if number < 15 || number > 79 {
			checkEveryPlace(t, list, "", "x")
		}
		// The two marks are spans of their own.
		got, ok := impl.QuoteSpans(list)
		if ok != (number <= 78) || ok && number > 0 && len(got) != number+2 {
			t.Errorf("%d spans: QuoteSpans: %d, %v", number, len(got), ok)
		}
		checkQuotedSpans(t, slices.Repeat([]impl.Span{{Text: "b", Italic: true}}, number))
		checkQuotedSpans(t, append(make([]impl.Span, number/2), turningSpans(number-number/2)...))
	}
	// If the first and the last span have no emphasis, the marks become part of them.
	list := turningSpans(80)
	list[0].Bold, list[0].Italic = false, false
	got, ok := impl.QuoteSpans(list)
	checkEqualSpans(t, "one plain span", got, ok, []impl.Span{}, false)
	list[79].Bold = false
	got, ok = impl.QuoteSpans(list)
	if !ok || len(got) != 80 || got[0].Text != `"a` || got[79].Text != `a"` {
		t.Errorf("QuoteSpans: %v, %v", got, ok)
	}
	checkQuotedSpans(t, list)
}

func TestOnlyTheNormalListIsLimited(t *testing.T) {
	// What is put in splits a span, but the spans agree and become one.
	list := slices.Repeat([]impl.Span{{Text: "ab", Bold: true}}, 80)
	got, ok := impl.ReplaceSpans(list, 81, 81, "X")
	want := strings.Repeat("ab", 40) + "aXb" + strings.Repeat("ab", 39)
	checkEqualSpans(t, "ReplaceSpans", got, ok, []impl.Span{{Text: want, Bold: true}}, true)
	got, ok = impl.QuoteSpans(list)
	checkEqualSpans(t, "QuoteSpans", got, ok, []impl.Span{{Text: `"`}, {Text: strings.Repeat("ab", 80), Bold: true}, {Text: `"`}}, true)
	full := turningSpans(80)
	for i := range full {
		full[i].Text = "abc"
	}
	checkSplit(t, full, 121)
	first, rest, ok := impl.SplitSpans(full, 121)
	if !ok || len(first) != 41 || len(rest) != 40 {
		t.Errorf("SplitSpans: %v, %v, %v", first, rest, ok)
	}
	checkReplacedSpans(t, full, 121, 122, "X")
	got, ok = impl.ReplaceSpans(full, 121, 121, "X")
	if !ok || len(got) != 80 || got[40].Text != "aXbc" {
		t.Errorf("ReplaceSpans: %v, %v", got, ok)
	}
}

func TestBytesOfChangedSpans(t *testing.T) {
	text := strings.Repeat("a", 4000)
	for _, list := range [][]impl.Span{{{Text: text}}, {{Text: text[:1999]}, {Text: text[1999:], Bold: true}}, {{Text: text[:1], Italic: true}, {}, {Text: text[1:], Italic: true}}} {
		checkEmphasized(t, list)
		for _, at := range []int{-1, 0, 1, 1999, 2000, 3999, 4000, 4001} {
			checkSplit(t, list, at)
			checkReplacedSpans(t, list, at, at, "")
			checkReplacedSpans(t, list, at, at, "x")
			checkReplacedSpans(t, list, at, 4000, text[:200])
			checkReplacedSpans(t, list, 0, at, text[:200])
		}
		checkReplacedSpans(t, list, 100, 300, text[:200])
		if got, ok := impl.ReplaceSpans(list, 100, 300, text[:200]); !ok || len(textOfLetters(lettersOfSpans(got))) != 4000 {
			t.Errorf("ReplaceSpans: %v", ok)
		}
		for _, to := range []int{100, 298, 299} {
			got, ok := impl.ReplaceSpans(list, 100, to, text[:200])
			checkEqualSpans(t, "4001 bytes and more", got, ok, []impl.Span{}, false)
		}
		got, ok := impl.QuoteSpans(list)
		checkEqualSpans(t, "no quoted text", got, ok, []impl.Span{}, false)
	}
	checkNoChangedSpans(t, "4001 bytes", []impl.Span{{Text: text}, {Text: "a"}})
	checkNoChangedSpans(t, "5000 bytes", []impl.Span{{Text: strings.Repeat("a", 5000), Bold: true}})
	// The limit of quoted texts is that of the whole list.
	for _, length := range []int{198, 199, 200, 201} {
		list := []impl.Span{{Text: text[:100], Bold: true}, {Text: text[100:length]}}
		checkQuotedSpans(t, list)
		if _, ok := impl.QuoteSpans(list); ok != (length == 198) {
			t.Errorf("QuoteSpans of %d bytes: %v", length, ok)
		}
	}
}

func TestListsOfOtherBytesAreNotChanged(t *testing.T) {
	for c := range 256 {
		one := string([]byte{byte(c)})
		for _, list := range [][]impl.Span{{{Text: one}}, {{Text: "a"}, {Text: "b" + one, Bold: true}}, {{Text: one + "b", Italic: true}, {Text: "a"}}} {
			if isSpans(list) {
				checkEveryPlace(t, list, "", "x")
			} else {
				checkNoChangedSpans(t, fmt.Sprintf("byte %d", c), list)
			}
		}
	}
}

func TestChangedSpansKeepTheirArguments(t *testing.T) {
	for _, list := range [][]impl.Span{
		nil, {{Text: "a"}}, {{Text: "a"}, {Text: "b"}}, {{Text: `"a`}, {Text: ""}, {Text: `b"`, Bold: true}}, {{Text: ""}, {Text: "a", Italic: true}, {Text: "b", Italic: true}, {Text: "c"}}, {{Text: "abc", Italic: true, Bold: true}},
	} {
		roomy := roomySpans(list)
		before := slices.Clone(roomy[:cap(roomy)])
		checkEveryPlace(t, roomy, "", "x", `"`)
		n := len(lettersOfSpans(list))
		emphasized, _ := impl.EmphasizeSpans(roomy)
		quoted, _ := impl.QuoteSpans(roomy)
		replaced, _ := impl.ReplaceSpans(roomy, n/2, n, "x")
		first, rest, _ := impl.SplitSpans(roomy, n/2)
		last := slices.Clone(rest)
		for _, result := range [][]impl.Span{emphasized, quoted, replaced, first} {
			for i := range result[:cap(result)] {
				result[:cap(result)][i] = impl.Span{Text: "spoilt"}
			}
		}
		if !slices.Equal(roomy[:cap(roomy)], before) || !slices.Equal(rest, last) {
			t.Errorf("%v has become %v", before, roomy[:cap(roomy)])
		}
		checkEveryPlace(t, roomy, "x")
	}
}

func TestListsOfMarksAreNew(t *testing.T) {
	s := `"a 'b' c" "d" ' "e`
	pairs, _ := impl.PairMarks(s)
	left, _ := impl.UnpairedMarks(s)
	want := slices.Clone(left)
	for i := range pairs {
		before := slices.Clone(pairs[(i+1)%len(pairs)])
		for j := range pairs[i][:cap(pairs[i])] {
			pairs[i][:cap(pairs[i])][j] = -7
		}
		if len(pairs) > 1 && !slices.Equal(pairs[(i+1)%len(pairs)], before) {
			t.Errorf("PairMarks: %v", pairs)
		}
	}
	if !slices.Equal(left, want) {
		t.Errorf("UnpairedMarks: %v", left)
	}
	left[0] = -7
	checkQuoted(t, s)
}
