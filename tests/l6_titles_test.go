package tests

import (
	"math"
	"math/rand"
	"regexp"
	"slices"
	"strings"
	"testing"

	"loop.example/g00896/impl"
)

var (
	titlePattern     = regexp.MustCompile(`\A(?:[ -z|~]|\{[ -z|~]+\})+\z`)
	titleWordPattern = regexp.MustCompile(`(?:[!-z|~]|\{[^}]*\})+`)
	protectedPattern = regexp.MustCompile(`\{[^}]*\}`)
	letterPattern    = regexp.MustCompile(`[A-Za-z]`)
	unsortedPattern  = regexp.MustCompile(`[^a-z0-9 ]`)
	articlePattern   = regexp.MustCompile(`\A(?:a|an|the) `)
)

var minorWords = []string{
	"a", "an", "and", "as", "at", "but", "by", "for", "from", "in", "of", "on", "or", "the", "to", "with",
}

// isTitle follows the definition of a title by a pattern, whatever the program does.
func isTitle(s string) bool {
	return len(s) <= 100 && titlePattern.MatchString(s) && s == strings.Trim(s, " ") && !strings.Contains(s, "  ")
}

// wordsIn splits a valid title by a pattern, whatever the program does.
func wordsIn(s string) []string { return titleWordPattern.FindAllString(s, -1) }

func braced(s string) bool { return strings.ContainsAny(s, "{}") }

func withFirstUpper(word string) string {
	found := letterPattern.FindStringIndex(word)
	if found == nil {
		return word
	}
	return word[:found[0]] + strings.ToUpper(word[found[0]:found[1]]) + word[found[1]:]
}

// withLower lowers what stands between the protected parts.
func withLower(s string) string {
	lowered := ""
	for _, found := range protectedPattern.FindAllStringIndex(s, -1) {
		end := len(lowered)
		lowered += strings.ToLower(s[end:found[0]]) + s[found[0]:found[1]]
	}
	return lowered + strings.ToLower(s[len(lowered):])
}

// titleCaseOf follows the definition for a valid title, whatever the program does.
func titleCaseOf(s string) string {
	words := wordsIn(s)
	behindColon := true
	for i, word := range words {
		lower := strings.ToLower(word)
		switch minor := slices.Contains(minorWords, lower); {
		case braced(word):
		case minor && !behindColon && i+1 < len(words):
			words[i] = lower
		default:
			words[i] = withFirstUpper(word)
		}
		behindColon = word[len(word)-1] == ':'
	}
	return strings.Join(words, " ")
}

// sentenceCaseOf follows the definition for a valid title, whatever the program does.
func sentenceCaseOf(s string) string {
	words := wordsIn(s)
	behindColon := true
	for i, word := range words {
		words[i] = withLower(word)
		if behindColon && !braced(word) {
			words[i] = withFirstUpper(words[i])
		}
		behindColon = word[len(word)-1] == ':'
	}
	return strings.Join(words, " ")
}

func plainTitleOf(s string) string { return strings.NewReplacer("{", "", "}", "").Replace(s) }

// subtitleOf splits a valid title at the first place outside of braces, whatever the program does.
func subtitleOf(s string) (string, string, bool) {
	for i := range len(s) - 1 {
		if s[i:i+2] != ": " || strings.Count(s[:i], "{") != strings.Count(s[:i], "}") {
			continue
		}
		first, second := s[:i], s[i+2:]
		if first == "" || second == "" || strings.Trim(first, " ") != first || strings.Trim(second, " ") != second {
			return "", "", false
		}
		return first, second, true
	}
	return s, "", true
}

func sortTitleOf(s string) string {
	kept := unsortedPattern.ReplaceAllString(strings.ToLower(plainTitleOf(s)), "")
	for strings.Contains(kept, "  ") {
		kept = strings.ReplaceAll(kept, "  ", " ")
	}
	return articlePattern.ReplaceAllString(strings.Trim(kept, " "), "")
}

func shortTitleOf(s string, n int) (string, bool) {
	first, _, ok := subtitleOf(s)
	if !ok {
		return "", false
	}
	words := wordsIn(first)
	return strings.Join(words[:min(n, len(words))], " "), true
}

func protectedTitleOf(s, word string) (string, bool) {
	words := wordsIn(s)
	for i := range words {
		if words[i] == word {
			words[i] = "{" + word + "}"
		}
	}
	title := strings.Join(words, " ")
	if len(title) > 100 {
		return "", false
	}
	return title, true
}

// checkNoTitle checks that every function refuses s.
func checkNoTitle(t *testing.T, s string) {
	t.Helper()
	if impl.IsValidTitle(s) {
		t.Errorf("IsValidTitle(%q)", s)
	}
	if words, ok := impl.TitleWords(s); ok || len(words) != 0 {
		t.Errorf("TitleWords(%q) = %q, %v", s, words, ok)
	}
	for what, change := range map[string]func(string) (string, bool){
		"TitleCase": impl.TitleCase, "SentenceCase": impl.SentenceCase, "PlainTitle": impl.PlainTitle, "SortTitle": impl.SortTitle,
	} {
		if got, ok := change(s); ok || got != "" {
			t.Errorf("%s(%q) = %q, %v", what, s, got, ok)
		}
	}
	if first, second, ok := impl.SplitSubtitle(s); ok || first != "" || second != "" {
		t.Errorf("SplitSubtitle(%q) = %q, %q, %v", s, first, second, ok)
	}
	for _, n := range []int{0, 1, 20} {
		if got, ok := impl.ShortTitle(s, n); ok || got != "" {
			t.Errorf("ShortTitle(%q, %d) = %q, %v", s, n, got, ok)
		}
	}
	for _, word := range []string{"", "a", s} {
		if got, ok := impl.ProtectTitle(s, word); ok || got != "" {
			t.Errorf("ProtectTitle(%q, %q) = %q, %v", s, word, got, ok)
		}
	}
}

// checkCase checks promise 6 for one of the two changes of case.
func checkCase(t *testing.T, what string, change func(string) (string, bool), s string) {
	t.Helper()
	once, ok := change(s)
	if !ok || len(once) != len(s) || !strings.EqualFold(once, s) {
		t.Fatalf("%s(%q) = %q, %v", what, s, once, ok)
	}
	for _, place := range protectedPattern.FindAllStringIndex(s, -1) {
		if once[place[0]:place[1]] != s[place[0]:place[1]] {
			t.Fatalf("%s(%q) = %q", what, s, once)
		}
	}
	if twice, ok := change(once); !ok || twice != once {
		t.Fatalf("%s(%q) = %q, %v", what, once, twice, ok)
	}
}

// checkTitle checks promise 6 and every function for a title, with some numbers and words.
func checkTitle(t *testing.T, s string) {
	t.Helper()
	if !impl.IsValidTitle(s) {
		t.Fatalf("IsValidTitle(%q) = false", s)
	}
	checkCase(t, "TitleCase", impl.TitleCase, s)
	checkCase(t, "SentenceCase", impl.SentenceCase, s)
	title, ok := impl.TitleCase(s)
	if want := titleCaseOf(s); !ok || title != want {
		t.Fatalf("TitleCase(%q) = %q, %v, not %q", s, title, ok, want)
	}
	for _, from := range []string{s, title} {
		if got, ok := impl.SentenceCase(from); !ok || got != sentenceCaseOf(s) {
			t.Fatalf("SentenceCase(%q) = %q, %v, not %q", from, got, ok, sentenceCaseOf(s))
		}
	}
	words, ok := impl.TitleWords(s)
	if !ok || !slices.Equal(words, wordsIn(s)) || strings.Join(words, " ") != s {
		t.Fatalf("TitleWords(%q) = %q, %v", s, words, ok)
	}
	if got, ok := impl.PlainTitle(s); !ok || got != plainTitleOf(s) {
		t.Fatalf("PlainTitle(%q) = %q, %v", s, got, ok)
	}
	if got, ok := impl.SortTitle(s); !ok || got != sortTitleOf(s) {
		t.Fatalf("SortTitle(%q) = %q, %v, not %q", s, got, ok, sortTitleOf(s))
	}
	checkParts(t, s, words)
}

// checkParts checks the functions that take a title apart or put braces into it.
func checkParts(t *testing.T, s string, words []string) {
	t.Helper()
	first, second, ok := impl.SplitSubtitle(s)
	if a, b, fine := subtitleOf(s); ok != fine || first != a || second != b {
		t.Fatalf("SplitSubtitle(%q) = %q, %q, %v", s, first, second, ok)
	}
	for _, n := range []int{1, 2, 3, 20} {
		want, fine := shortTitleOf(s, n)
		if got, ok := impl.ShortTitle(s, n); ok != fine || got != want {
			t.Fatalf("ShortTitle(%q, %d) = %q, %v, not %q", s, n, got, ok, want)
		}
	}
	for _, word := range append(slices.Clone(words), "a", "zz") {
		want, fine := protectedTitleOf(s, word)
		if braced(word) {
			want, fine = "", false
		}
		if got, ok := impl.ProtectTitle(s, word); ok != fine || got != want {
			t.Fatalf("ProtectTitle(%q, %q) = %q, %v, not %q", s, word, got, ok, want)
		}
	}
}

func TestLimitOfTitles(t *testing.T) {
	if impl.MaxTitle != 100 {
		t.Error("MaxTitle =", impl.MaxTitle)
	}
}

func TestSomeTitles(t *testing.T) {
	for _, s := range []string{
		"a", "A", "0", ":", "~", "!", "{a}", "{ }", "{ a}", "{a }", "{a}{b}", "x{a}y", "{a} {b}", "{a b c} d{e f}g", "a: b", "a :b", "{:}", "{a: b}: c",
		"The history of {New York}: a study", "{a }b", "a{ b}", "a {b }c", "{a, b}: {c}, d",
	} {
		if !isTitle(s) {
			t.Errorf("the pattern refuses %q", s)
		}
		checkTitle(t, s)
	}
}

func TestWhatIsNoTitle(t *testing.T) {
	for _, s := range []string{
		"", " ", "  ", " a", "a ", " a ", "a  b", "a   b", "{a  b}", "{  }", "{a  }", "a {b  c} d", " {a}", "{a} ",
		"{}", "a{}", "{}a", "a {} b", "{a}{}", "{", "}", "}{", "}a{", "{a", "a}", "a{", "{{a}", "{a}}", "{{a}}", "{a{b}}", "{a{b}c}", "{a}b}", "{a} {b", "a} {b}", "{{}}", "{a{}b}",
		"a\tb", "a\nb", "\na", "a\r", "a\x00b", "a\x7fb", "{\x7f}", "\x1f", "\x80", "a\xffb", "caf\u00e9", "\u00a0a", "\u2014",
	} {
		checkNoTitle(t, s)
	}
}

func TestEveryByteInATitle(t *testing.T) {
	for c := range 256 {
		one := string([]byte{byte(c)})
		for _, s := range []string{one, "a" + one + "b", "{a" + one + "b}", "a" + one + " b", "{a}" + one + "{b}"} {
			if isTitle(s) {
				checkTitle(t, s)
			} else {
				checkNoTitle(t, s)
			}
		}
		want := c >= 32 && c <= 126 && one != "{" && one != "}"
		if s := "a" + one + "b"; impl.IsValidTitle(s) != want {
			t.Errorf("IsValidTitle(%q) = %v", s, !want)
		}
	}
}

func TestLengthsOfTitles(t *testing.T) {
	for _, s := range []string{"a", strings.Repeat("x", 99), strings.Repeat("X", 100), "{" + strings.Repeat("a", 98) + "}", strings.Repeat("the ", 24) + "{NY}"} {
		checkTitle(t, s)
	}
	for _, s := range []string{
		strings.Repeat("x", 101), strings.Repeat("x", 4001), "{" + strings.Repeat("a", 99) + "}", strings.Repeat("the ", 25) + "x", strings.Repeat("a ", 50) + "b",
	} {
		checkNoTitle(t, s)
	}
}

func TestTitleWords(t *testing.T) {
	for _, c := range []struct {
		title string
		words []string
	}{
		{"The {New York} Times", []string{"The", "{New York}", "Times"}},
		{"one", []string{"one"}},
		{"{one two}", []string{"{one two}"}},
		{"a{b c}d e", []string{"a{b c}d", "e"}},
		{"{a b}{c d} e{f g}", []string{"{a b}{c d}", "e{f g}"}},
		{"{ a } b", []string{"{ a }", "b"}},
		{"{ } : x", []string{"{ }", ":", "x"}},
		{"a: b", []string{"a:", "b"}},
		{"x{ y}{z }w v", []string{"x{ y}{z }w", "v"}},
	} {
		if got, ok := impl.TitleWords(c.title); !ok || !slices.Equal(got, c.words) {
			t.Errorf("TitleWords(%q) = %q, %v", c.title, got, ok)
		}
	}
}

func TestBothCases(t *testing.T) {
	for _, c := range []struct{ from, title, sentence string }{
		{"the history of rome: a study in {NASA} and", "The History of Rome: A Study in {NASA} And", "The history of rome: A study in {NASA} and"},
		{"a", "A", "A"},
		{"THE", "THE", "The"},
		{"to be or not to be", "To Be or Not to Be", "To be or not to be"},
		{"OF MICE AND MEN", "OF MICE and MEN", "Of mice and men"},
		{"what it is for", "What It Is For", "What it is for"},
		// The first and the last word, one behind the other.
		{"the the the", "The the The", "The the the"},
		{"an an", "An An", "An an"},
		// Words behind colons.
		{"rome: the city", "Rome: The City", "Rome: The city"},
		{"rome : the city", "Rome : The City", "Rome : The city"},
		{"x:: of y", "X:: Of Y", "X:: Of y"},
		{"a: of: the: b", "A: Of: The: B", "A: Of: The: B"},
		{"of: y", "Of: Y", "Of: Y"},
		{"x of: y", "X Of: Y", "X of: Y"},
		{"x:of y", "X:of Y", "X:of y"},
		{"x:{a} of y", "x:{a} of Y", "x:{a} of y"},
		{"x :of y", "X :Of Y", "X :of y"},
		// A protected `:` is no end of a word, one behind the braces is.
		{"{x:} of y", "{x:} of Y", "{x:} of y"},
		{"{x: of} of y", "{x: of} of Y", "{x: of} of y"},
		{"{x}: of y", "{x}: Of Y", "{x}: Of y"},
		{"x: {of} y", "X: {of} Y", "X: {of} y"},
		// Words with a brace.
		{"{ROME} and {NY}", "{ROME} and {NY}", "{ROME} and {NY}"},
		{"{of} X", "{of} X", "{of} x"},
		{"xY{Ab C}Zw of it", "xY{Ab C}Zw of It", "xy{Ab C}zw of it"},
		{"A{B}C{D}E f", "A{B}C{D}E F", "a{B}c{D}e f"},
		{"z: A{b}C", "Z: A{b}C", "Z: a{b}c"},
		{"x O{f} y", "X O{f} Y", "X o{f} y"},
		{"x {a}nd y", "X {a}nd Y", "X {a}nd y"},
		// Minor words with a mark are none.
		{"x and, y", "X And, Y", "X and, y"},
		{"x (and) y", "X (And) Y", "X (and) y"},
		{"x 'of y", "X 'Of Y", "X 'of y"},
		{"x in-of y", "X In-of Y", "X in-of y"},
		{"x ANd y", "X and Y", "X and y"},
		{"x AND. y", "X AND. Y", "X and. y"},
		// The first letter need not be the first byte, and some words have none.
		{"\"the 2nd (war)\"", "\"The 2Nd (War)\"", "\"The 2nd (war)\""},
		{"1984 - 1985", "1984 - 1985", "1984 - 1985"},
		{"1984 of x", "1984 of X", "1984 of x"},
		{"1984: 85 of X", "1984: 85 of X", "1984: 85 of x"},
		{"!", "!", "!"},
		{"mcDonald's iPhone", "McDonald's IPhone", "Mcdonald's iphone"},
	} {
		if got, ok := impl.TitleCase(c.from); !ok || got != c.title {
			t.Errorf("TitleCase(%q) = %q, %v", c.from, got, ok)
		}
		for _, from := range []string{c.from, c.title, c.sentence} {
			if got, ok := impl.SentenceCase(from); !ok || got != c.sentence {
				t.Errorf("SentenceCase(%q) = %q, %v", from, got, ok)
			}
		}
		checkTitle(t, c.from)
	}
}

func TestMinorWordsInAllPlaces(t *testing.T) {
	for _, word := range minorWords {
		upper, first := strings.ToUpper(word), strings.ToUpper(word[:1])+word[1:]
		for _, c := range [][2]string{
			{"x " + word + " y", "X " + word + " Y"},
			{"x " + upper + " y", "X " + word + " Y"},
			{"x " + first + " y", "X " + word + " Y"},
			{word, first}, {upper, upper}, {first, first},
			{word + " y", first + " Y"}, {upper + " y", upper + " Y"},
			{"x " + word, "X " + first}, {"x " + upper, "X " + upper},
			{"x: " + word + " y", "X: " + first + " Y"}, {"x: " + upper + " y", "X: " + upper + " Y"},
			{"x " + word + ": y", "X " + first + ": Y"}, {"x " + word + "! y", "X " + first + "! Y"},
			{"x ." + word + " y", "X ." + first + " Y"}, {"x " + word + "x y", "X " + first + "x Y"},
			{"x " + word + " " + word + " y", "X " + word + " " + word + " Y"},
			{"x {" + word + "} y", "X {" + word + "} Y"}, {"x {" + upper + "} y", "X {" + upper + "} Y"},
		} {
			if got, ok := impl.TitleCase(c[0]); !ok || got != c[1] {
				t.Errorf("TitleCase(%q) = %q, %v, not %q", c[0], got, ok, c[1])
			}
		}
	}
}

func TestShortWordsThatAreNotMinor(t *testing.T) {
	for _, word := range append(stringsOver("abdefhinorstuwy", 3), "into", "over", "than", "upon", "when", "form", "wiht", "withe") {
		if word == "" || slices.Contains(minorWords, word) {
			continue
		}
		want := "X " + strings.ToUpper(word[:1]) + word[1:] + " Y"
		if got, ok := impl.TitleCase("x " + word + " y"); !ok || got != want {
			t.Errorf("TitleCase of %q = %q, %v", word, got, ok)
		}
	}
}

func TestPlainTitle(t *testing.T) {
	for _, c := range [][2]string{
		{"The {New York} Times", "The New York Times"}, {"{a}", "a"}, {"a", "a"}, {"x{ }y", "x y"}, {"{ a}", " a"}, {"{a }", "a "},
		{"a {b }{ c} d", "a b  c d"}, {"{A}{B}: {C}", "AB: C"}, {"{ } { }", "   "},
	} {
		if got, ok := impl.PlainTitle(c[0]); !ok || got != c[1] {
			t.Errorf("PlainTitle(%q) = %q, %v", c[0], got, ok)
		}
	}
}

func TestSplitSubtitle(t *testing.T) {
	for _, c := range []struct {
		title, first, second string
		ok                   bool
	}{
		{"Rome: a study", "Rome", "a study", true},
		{"Rome", "Rome", "", true},
		{"{a: b} c", "{a: b} c", "", true},
		{"{a: b}: c", "{a: b}", "c", true},
		{"{a:} b", "{a:} b", "", true},
		{"a{:} b: c", "a{:} b", "c", true},
		{"{a}:{ b}", "{a}:{ b}", "", true},
		{"a: b: c", "a", "b: c", true},
		{"a: {b: c}", "a", "{b: c}", true},
		{"a:b: c", "a:b", "c", true},
		{"a:b", "a:b", "", true},
		{"a:", "a:", "", true},
		{":", ":", "", true},
		{"::", "::", "", true},
		{"a:: b", "a:", "b", true},
		{":: b", ":", "b", true},
		{"a: :", "a", ":", true},
		{"a: : b", "a", ": b", true},
		{"{a }: b", "{a }", "b", true},
		{"a: { b}", "a", "{ b}", true},
		{": a", "", "", false},
		{": :", "", "", false},
		{": a: b", "", "", false},
		{"a : b", "", "", false},
		{"a :b : c", "", "", false},
		{"{a} : b", "", "", false},
		{"a :", "a :", "", true},
	} {
		first, second, ok := impl.SplitSubtitle(c.title)
		if ok != c.ok || first != c.first || second != c.second {
			t.Errorf("SplitSubtitle(%q) = %q, %q, %v", c.title, first, second, ok)
		}
		if got, fine := impl.ShortTitle(c.title, 20); fine != c.ok || got != c.first {
			t.Errorf("ShortTitle(%q, 20) = %q, %v", c.title, got, fine)
		}
	}
}

func TestSortTitle(t *testing.T) {
	for _, c := range [][2]string{
		{"The \"New\" {DNA}-Book", "new dnabook"}, {"a", "a"}, {"The", "the"}, {"An", "an"}, {"A the", "the"}, {"The the", "the"}, {"the a an", "a an"},
		{"AN ODE", "ode"}, {"And so", "and so"}, {"{The} Road", "road"}, {"{The Road}", "road"}, {"T{he} x", "x"}, {"The x", "x"},
		{"- The road", "road"}, {"(a) b", "b"}, {"a-b c", "ab c"}, {"a - b", "b"}, {"x - y", "x y"}, {"The -", "the"}, {"- the -", "the"},
		{"!", ""}, {"- !", ""}, {"{ } { }", ""}, {"{ a} b", "b"}, {"{ x }{ y }", "x y"}, {"2 b", "2 b"}, {"1984: a study", "1984 a study"},
		{"Zoo's @[`z", "zoos z"}, {"The: road", "road"}, {"A:b", "ab"}, {"other", "other"}, {"x the", "x the"},
	} {
		if got, ok := impl.SortTitle(c[0]); !ok || got != c[1] {
			t.Errorf("SortTitle(%q) = %q, %v, not %q", c[0], got, ok, c[1])
		}
	}
}

func TestShortTitle(t *testing.T) {
	for _, c := range []struct {
		title string
		n     int
		short string
	}{
		{"One two three: four", 2, "One two"},
		{"One two three: four", 1, "One"},
		{"One two three: four", 3, "One two three"},
		{"One two three: four", 4, "One two three"},
		{"One two three: four", 20, "One two three"},
		{"{One two} three four", 1, "{One two}"},
		{"{One two} three four", 2, "{One two} three"},
		{"{a: b} c: d e", 1, "{a: b}"},
		{"{a: b} c: d e", 20, "{a: b} c"},
		{"x{ y }: z", 1, "x{ y }"},
		{"one", 20, "one"},
	} {
		if got, ok := impl.ShortTitle(c.title, c.n); !ok || got != c.short {
			t.Errorf("ShortTitle(%q, %d) = %q, %v", c.title, c.n, got, ok)
		}
	}
}

func TestNumbersOfWordsOfAShortTitle(t *testing.T) {
	s := strings.Repeat("b ", 24) + "c"
	for n := 1; n <= 20; n++ {
		if got, ok := impl.ShortTitle(s, n); !ok || got != s[:2*n-1] {
			t.Errorf("ShortTitle(%q, %d) = %q, %v", s, n, got, ok)
		}
	}
	for _, n := range []int{0, -1, -20, 21, 22, 24, 25, 100, math.MinInt, math.MaxInt, 1 << 32, 1<<32 + 1} {
		for _, title := range []string{s, "one", "a: b", ": b"} {
			if got, ok := impl.ShortTitle(title, n); ok || got != "" {
				t.Errorf("ShortTitle(%q, %d) = %q, %v", title, n, got, ok)
			}
		}
	}
}

func TestProtectTitle(t *testing.T) {
	for _, c := range [][3]string{
		{"a b a", "a", "{a} b {a}"}, {"a b a", "b", "a {b} a"}, {"a b a", "c", "a b a"}, {"a b a", "A", "a b a"}, {"A b a", "a", "A b {a}"},
		{"a", "a", "{a}"}, {"a a a", "a", "{a} {a} {a}"}, {"{a} a", "a", "{a} {a}"}, {"{a a} a", "a", "{a a} {a}"}, {"{a}", "a", "{a}"},
		{"x{a} a", "a", "x{a} {a}"}, {"x{a}", "xa", "x{a}"}, {"aa ab a", "a", "aa ab {a}"}, {"a, b", "a", "a, b"}, {"a, b", "a,", "{a,} b"},
		{"a: b", "a:", "{a:} b"}, {"a - b", "-", "a {-} b"}, {"a b", "\x00", "a b"}, {"a b", "\xff", "a b"}, {"a b", strings.Repeat("a", 200), "a b"},
		{"The NASA file", "NASA", "The {NASA} file"},
	} {
		if got, ok := impl.ProtectTitle(c[0], c[1]); !ok || got != c[2] {
			t.Errorf("ProtectTitle(%q, %q) = %q, %v", c[0], c[1], got, ok)
		}
	}
	for _, word := range []string{"", " ", "a ", " a", "a b", "{", "}", "{a}", "a{", "a}", "{}", "x{a}y"} {
		for _, s := range []string{"a b a", "{a} b", "x{a}y b"} {
			if got, ok := impl.ProtectTitle(s, word); ok || got != "" {
				t.Errorf("ProtectTitle(%q, %q) = %q, %v", s, word, got, ok)
			}
		}
	}
}

func TestProtectTitleAtTheLimit(t *testing.T) {
	long := strings.Repeat("x", 93)
	for _, c := range []struct {
		title, word, protected string
		ok                     bool
	}{
		{strings.Repeat("x", 98), strings.Repeat("x", 98), "{" + strings.Repeat("x", 98) + "}", true},
		{strings.Repeat("x", 99), strings.Repeat("x", 99), "", false},
		{strings.Repeat("x", 100), strings.Repeat("x", 100), "", false},
		{strings.Repeat("x", 100), "x", strings.Repeat("x", 100), true},
		{"a " + long[:92] + " a", "a", "{a} " + long[:92] + " {a}", true},
		{"a " + long + " a", "a", "", false},
		{"a " + long + " a", "b", "a " + long + " a", true},
		{"a " + long + " b", "a", "{a} " + long + " b", true},
	} {
		if got, ok := impl.ProtectTitle(c.title, c.word); ok != c.ok || got != c.protected {
			t.Errorf("ProtectTitle(%q, %q) = %q, %v", c.title, c.word, got, ok)
		}
		if c.ok && !impl.IsValidTitle(c.protected) {
			t.Errorf("IsValidTitle(%q) = false", c.protected)
		}
	}
}

func TestProtectedWordsKeepTheirCase(t *testing.T) {
	for _, s := range []string{"the NASA file", "of Of OF", "x: of iPhone"} {
		for _, word := range wordsIn(s) {
			if braced(word) || strings.HasSuffix(word, ":") {
				continue
			}
			protected, ok := impl.ProtectTitle(s, word)
			title, fine := impl.TitleCase(protected)
			sentence, good := impl.SentenceCase(protected)
			if !ok || !fine || !good || !strings.Contains(title, "{"+word+"}") || !strings.Contains(sentence, "{"+word+"}") {
				t.Errorf("%q in %q, %q and %q", word, protected, title, sentence)
			}
		}
	}
}

func TestAllShortTitles(t *testing.T) {
	titles := 0
	for _, s := range stringsOver("aT {}:", 6) {
		if impl.IsValidTitle(s) != isTitle(s) {
			t.Fatalf("IsValidTitle(%q) = %v", s, !isTitle(s))
		}
		if isTitle(s) {
			checkTitle(t, s)
			titles++
		}
	}
	if titles < 1000 {
		t.Error("only", titles, "titles")
	}
}

// randomTitle puts some of the pieces together; the result need not be a title.
func randomTitle(r *rand.Rand) string {
	pieces := []string{
		"the", "OF", "And", "rome", "NASA", "iPhone", "with", "2nd", "a", "-", "1984", "{NASA}", "{New York}", "{of}", "x{Y z}W",
		"{A}{b}", "{c: d}", "and,", "(in)", "Rome:", "of:", "{E}:", ":", "{x:}", "{ p}", "{q }", "\"The", "!?", "{{", "}", "  ",
	}
	var words []string
	for range 1 + r.Intn(16) {
		limit := len(pieces)
		if r.Intn(8) > 0 {
			limit -= 3
		}
		words = append(words, pieces[r.Intn(limit)])
	}
	return strings.Join(words, " ")
}

func TestManyTitles(t *testing.T) {
	r := rand.New(rand.NewSource(6))
	titles, others := 0, 0
	for range 5000 {
		s := randomTitle(r)
		if isTitle(s) {
			checkTitle(t, s)
			titles++
		} else {
			checkNoTitle(t, s)
			others++
		}
	}
	if titles < 1500 || others < 300 {
		t.Error(titles, "titles and", others, "others")
	}
}

func TestTitlesNextToTitles(t *testing.T) {
	for _, s := range []string{"The {New York} Times: of {x}Y", strings.Repeat("{Ab} of ", 12) + "an: z"} {
		for _, near := range nearTexts(s) {
			if isTitle(near) {
				checkTitle(t, near)
			} else {
				checkNoTitle(t, near)
			}
		}
	}
}

func TestWordsOfTitlesAreNew(t *testing.T) {
	first, _ := impl.TitleWords("a b c")
	first[0] = "x"
	if second, ok := impl.TitleWords("a b c"); !ok || !slices.Equal(second, []string{"a", "b", "c"}) {
		t.Errorf("TitleWords = %q, %v", second, ok)
	}
}
