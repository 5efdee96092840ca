package tests

import (
	"cmp"
	"fmt"
	"math/big"
	"math/rand"
	"regexp"
	"slices"
	"strings"
	"testing"

	"loop.example/g00896/impl"
)

var (
	otherBytesPattern     = regexp.MustCompile(`[^A-Za-z0-9]+`)
	leadingArticlePattern = regexp.MustCompile(`\A(?:[Aa][Nn]?|[Tt][Hh][Ee]) `)
	runPattern            = regexp.MustCompile(`[0-9]+|[^0-9]+`)
)

// foldedOf follows the definition by a pattern, whatever the program does.
func foldedOf(s string) string {
	kept := otherBytesPattern.ReplaceAllStringFunc(s, func(run string) string {
		if strings.Contains(run, " ") {
			return " "
		}
		return ""
	})
	return strings.ToLower(strings.Trim(kept, " "))
}

func withoutArticle(s string) string { return leadingArticlePattern.ReplaceAllString(s, "") }

// collatedOrder compares texts by the pattern, whatever the program does.
func collatedOrder(a, b string) int {
	return cmp.Or(strings.Compare(foldedOf(a), foldedOf(b)), strings.Compare(a, b))
}

// naturalOrder compares strings run by run with numbers of any size, whatever the program does.
func naturalOrder(a, b string) int {
	ofA, ofB := runPattern.FindAllString(a, -1), runPattern.FindAllString(b, -1)
	for i := range min(len(ofA), len(ofB)) {
		x, isX := new(big.Int).SetString(ofA[i], 10)
		y, isY := new(big.Int).SetString(ofB[i], 10)
		order := 0
		switch {
		case isX && isY:
			order = x.Cmp(y)
		case isX:
			order = -1
		case isY:
			order = 1
		default:
			order = strings.Compare(ofA[i], ofB[i])
		}
		if order != 0 {
			return order
		}
	}
	return cmp.Or(cmp.Compare(len(ofA), len(ofB)), strings.Compare(a, b))
}

// entryOrder compares valid entries by its own reading of the chapter.
func entryOrder(t *testing.T, a, b impl.Entry) int {
	ofA, ofB := a.Authors, b.Authors
	if len(ofA) == 0 {
		ofA = a.Editors
	}
	if len(ofB) == 0 {
		ofB = b.Editors
	}
	for i := range min(len(ofA), len(ofB)) {
		if order := orderOf(t, ofA[i], ofB[i]); order != 0 {
			return order
		}
	}
	return cmp.Or(
		cmp.Compare(len(ofA), len(ofB)),
		cmp.Compare(rankOf(a.Date), rankOf(b.Date)),
		collatedOrder(withoutArticle(a.Title), withoutArticle(b.Title)),
		cmp.Compare(a.Volume, b.Volume),
		strings.Compare(a.Key, b.Key),
	)
}

// sortedKeys returns the keys of a valid library in the order of their entries, whatever the
// program does.
func sortedKeys(t *testing.T, l impl.Library) []string {
	entries := slices.Clone(l.Entries)
	slices.SortFunc(entries, func(a, b impl.Entry) int { return entryOrder(t, a, b) })
	return keysOf(impl.Library{Entries: entries})
}

// checkOrder checks that two values are compared in opposite ways from both sides.
func checkOrder[T any](t *testing.T, what string, compare func(a, b T) (int, bool), a, b T, want int) {
	t.Helper()
	x, ok := compare(a, b)
	y, fine := compare(b, a)
	if !ok || !fine || x != want || y != -want {
		t.Fatalf("%s: %.300q and %.300q: %d, %v and %d, %v, not %d", what, fmt.Sprint(a), fmt.Sprint(b), x, ok, y, fine, want)
	}
}

// checkNoOrder checks that two values cannot be compared from either side.
func checkNoOrder[T any](t *testing.T, what string, compare func(a, b T) (int, bool), a, b T) {
	t.Helper()
	for _, pair := range [][2]T{{a, b}, {b, a}} {
		if x, ok := compare(pair[0], pair[1]); ok || x != 0 {
			t.Errorf("%s: %.300q and %.300q: %d, %v", what, fmt.Sprint(pair[0]), fmt.Sprint(pair[1]), x, ok)
		}
	}
}

// checkFolded compares a folded form with the pattern, and folds it once more.
func checkFolded(t *testing.T, s string) {
	t.Helper()
	want := foldedOf(s)
	for _, text := range []string{s, want} {
		if folded, ok := impl.FoldText(text); !ok || folded != want {
			t.Fatalf("FoldText(%.300q) = %.300q, %v, not %.300q", text, folded, ok, want)
		}
	}
}

func TestFoldText(t *testing.T) {
	for _, c := range []struct{ s, folded string }{
		{" Old roads: a guide", "old roads a guide"}, {"O'Neill-Hall", "oneillhall"},
		{"", ""}, {" ", ""}, {"   ", ""}, {"-", ""}, {" - ", ""}, {"a", "a"}, {"Z", "z"}, {"7", "7"}, {"AZaz09", "azaz09"}, {"007", "007"},
		// Between two letters or digits, with and without a space.
		{"a b", "a b"}, {"a  b", "a b"}, {"a-b", "ab"}, {"a--b", "ab"}, {"a -b", "a b"}, {"a- b", "a b"}, {"a - b", "a b"}, {"a-- --b", "a b"},
		{"a: 1", "a 1"}, {"1, 2", "1 2"}, {"1,2", "12"}, {"3.14 is pi", "314 is pi"}, {"a - - b", "a b"}, {"A-B C-D", "ab cd"}, {"a-b c", "ab c"}, {"a b-c", "a bc"},
		// At the beginning and at the end.
		{" a", "a"}, {"-a", "a"}, {"- a", "a"}, {" -a", "a"}, {"- - a", "a"}, {"a ", "a"}, {"a-", "a"}, {"a -", "a"}, {"a- ", "a"}, {"a - -", "a"},
		{" a b ", "a b"}, {"(a) (b)", "a b"}, {"\"The\" north.", "the north"},
		// Only byte 32 is a space, and only these letters and digits are kept.
		{"a\tb", "ab"}, {"a\nb", "ab"}, {"a\x00b", "ab"}, {"a\x00 b", "a b"}, {"a\u00a0b", "ab"}, {"a\u2003b", "ab"}, {"a\u2003 b", "a b"}, {"\u00c4bc", "bc"},
		{"caf\u00e9 noir", "caf noir"}, {"\u212aelvin", "elvin"}, {"\u0130s", "s"}, {"\u0663a", "a"}, {"\uff21b", "b"}, {"\xff", ""}, {"a\xffb", "ab"}, {"a\xff \xffb", "a b"},
	} {
		if folded, ok := impl.FoldText(c.s); !ok || folded != c.folded {
			t.Errorf("FoldText(%q) = %q, %v, not %q", c.s, folded, ok, c.folded)
		}
		checkFolded(t, c.s)
	}
}

func TestFoldTextOfAllShortStrings(t *testing.T) {
	for _, s := range stringsOver("aZ0 -", 7) {
		checkFolded(t, s)
	}
}

func TestFoldTextOfEveryByte(t *testing.T) {
	for c := range 256 {
		b := string([]byte{byte(c)})
		for _, s := range []string{b, b + b, "x" + b, b + "x", "x" + b + "y", "x " + b + "y", "x" + b + " y", "x " + b + " y", " " + b + " "} {
			checkFolded(t, s)
		}
		kept := c >= '0' && c <= '9' || c >= 'A' && c <= 'Z' || c >= 'a' && c <= 'z'
		if folded, ok := impl.FoldText(b); !ok || (len(folded) == 1) != kept {
			t.Errorf("FoldText(%q) = %q, %v", b, folded, ok)
		}
	}
}

func TestDropArticle(t *testing.T) {
	for _, c := range []struct{ s, rest string }{
		{"The north", "north"}, {"A north", "north"}, {"An old road", "old road"}, {"Theory", "Theory"}, {"", ""}, {" ", " "}, {"north", "north"},
		// An article alone, with its space and without it.
		{"The ", ""}, {"A ", ""}, {"An ", ""}, {"The", "The"}, {"A", "A"}, {"An", "An"}, {"a", "a"}, {"the", "the"},
		// Something else than a space behind it.
		{"A-", "A-"}, {"A-north", "A-north"}, {"A, B", "A, B"}, {"A: x", "A: x"}, {"A\tx", "A\tx"}, {"A\u00a0x", "A\u00a0x"}, {"A\x00 x", "A\x00 x"}, {"A1 x", "A1 x"},
		{"An-x", "An-x"}, {"Ann x", "Ann x"}, {"And x", "And x"}, {"The. x", "The. x"}, {"Them x", "Them x"}, {"Thee x", "Thee x"}, {"Th x", "Th x"}, {"T x", "T x"}, {"Aa x", "Aa x"},
		// Two articles, and one that is not at the beginning.
		{"The A north", "A north"}, {"A the north", "the north"}, {"The the", "the"}, {"A A A", "A A"}, {"The The ", "The "}, {"An a ", "a "},
		{"On the north", "On the north"}, {" The north", " The north"}, {"\"The north", "\"The north"}, {"{The} north", "{The} north"},
		// Only one space belongs to it.
		{"The  north", " north"}, {"A   ", "  "}, {"The - north", "- north"}, {"The \xff", "\xff"}, {"a \n", "\n"},
		// Other letters that look like these.
		{"\u0391 x", "\u0391 x"}, {"\u00c0 x", "\u00c0 x"}, {"\u1d00 x", "\u1d00 x"}, {"\u24d0 x", "\u24d0 x"}, {"T\u04bbe x", "T\u04bbe x"}, {"\xff x", "\xff x"}, {"A\xff x", "A\xff x"},
	} {
		if rest, ok := impl.DropArticle(c.s); !ok || rest != c.rest {
			t.Errorf("DropArticle(%q) = %q, %v, not %q", c.s, rest, ok, c.rest)
		}
	}
}

// casesOf returns a word in every combination of upper-case and lower-case letters.
func casesOf(word string) []string {
	all := []string{""}
	for i := range len(word) {
		var longer []string
		for _, s := range all {
			longer = append(longer, s+strings.ToLower(word[i:i+1]), s+strings.ToUpper(word[i:i+1]))
		}
		all = longer
	}
	return all
}

func TestArticlesInEveryCase(t *testing.T) {
	for _, word := range slices.Concat(casesOf("a"), casesOf("an"), casesOf("the")) {
		for _, rest := range []string{"", "x", "The x", " x", "A", "north and south"} {
			if s, ok := impl.DropArticle(word + " " + rest); !ok || s != rest {
				t.Errorf("DropArticle(%q) = %q, %v", word+" "+rest, s, ok)
			}
		}
		for _, rest := range []string{"", "x", "-x", "s x", ", x", "\tx"} {
			if s, ok := impl.DropArticle(word + rest); !ok || s != word+rest {
				t.Errorf("DropArticle(%q) = %q, %v", word+rest, s, ok)
			}
		}
	}
}

func TestDropArticleOfAllShortStrings(t *testing.T) {
	for _, s := range stringsOver("aNtHe ", 6) {
		if rest, ok := impl.DropArticle(s); !ok || rest != withoutArticle(s) {
			t.Fatalf("DropArticle(%q) = %q, %v", s, rest, ok)
		}
	}
}

func TestNoOtherLetterIsThatOfAnArticle(t *testing.T) {
	for r := rune(0x80); r <= 0x1ffff; r++ {
		other := string(r)
		for _, s := range []string{other + " x", "a" + other + " x", other + "n x", other + "he x", "t" + other + "e x", "th" + other + " x"} {
			if rest, ok := impl.DropArticle(s); !ok || rest != s {
				t.Fatalf("DropArticle(%q) = %q, %v", s, rest, ok)
			}
		}
	}
}

func TestCollateTexts(t *testing.T) {
	for _, c := range []struct{ less, more string }{
		{"", "a"}, {"a", "b"}, {"B", "c"}, {"b", "C"}, {"a", "ab"}, {"A", "ab"}, {"9", "a"}, {"9", "A"}, {"10", "9"}, {"a b", "aa"}, {"a z", "ab"}, {"a b", "a0"},
		{"old roads", "Old roads: a guide"}, {"O'Neill", "Oneill-Hall"}, {"a-b c", "abcd"}, {"\"zebra\"", "zebras"}, {"(z)", "za"}, {"~a", "b"}, {"\xffa", "b"},
		// The same folded form: the strings themselves.
		{"The North", "the north"}, {"A", "a"}, {"aB", "ab"}, {"a  b", "a b"}, {"a-b", "ab"}, {" a", "a"}, {"a", "a "}, {"a - b", "a b"}, {"a b", "a, b"}, {"", " "}, {"", "-"}, {" ", "!"},
		{"O'Neill", "ONeill"}, {"ONeill", "Oneill"}, {"a", "a\xff"}, {"a", "\xffa"}, {"\x00", "\xff"}, {"x\x00", "x\x01"},
	} {
		checkOrder(t, "CollateTexts", impl.CollateTexts, c.less, c.more, -1)
	}
}

// checkShortStrings compares short strings with themselves and with each other; half of them on one
// side leave out only pairs of the other half.
func checkShortStrings(t *testing.T, what, alphabet string, compare func(a, b string) (int, bool), order func(a, b string) int) {
	t.Helper()
	all := stringsOver(alphabet, 4)
	for i := 0; i < len(all); i += 2 {
		for _, b := range all {
			checkOrder(t, what, compare, all[i], b, order(all[i], b))
		}
	}
	for _, s := range all {
		checkOrder(t, what, compare, s, s, 0)
	}
}

func TestCollateAllShortStrings(t *testing.T) {
	checkShortStrings(t, "CollateTexts", "bB0 -", impl.CollateTexts, collatedOrder)
}

func TestNaturalCompare(t *testing.T) {
	digits := strings.Repeat("9", 39)
	for _, c := range []struct{ less, more string }{
		{"vol 9", "vol 10"}, {"vol 09", "vol 9"}, {"vol 9", "vol 010"}, {"9", "10"}, {"2", "10"}, {"99", "100"}, {"1999", "2001"}, {"0", "1"},
		// The same value with more and with fewer zeros, and zero itself.
		{"09", "9"}, {"009", "09"}, {"00", "000"}, {"0", "00"}, {"00a", "0a"}, {"a00", "a1"}, {"00", "1"}, {"000", "01"}, {"a0b", "a1"}, {"08", "9"}, {"8", "09"}, {"a01b1", "a1b1"},
		// The zeros count only if all runs are equal otherwise.
		{"9", "09a"}, {"9a", "09b"}, {"09a", "9b"}, {"vol 09", "vol 9 b"}, {"vol 9", "vol 09 b"}, {"1-01", "01-2"}, {"01-1", "1-02"}, {"0", "00a"},
		// Too great for an int, or nearly so.
		{"9223372036854775807", "9223372036854775808"}, {"9223372036854775808", "18446744073709551616"}, {"1", "18446744073709551617"}, {"18446744073709551615", "18446744073709551616"},
		{digits, "1" + strings.Repeat("0", 39)}, {digits + "8", digits + "9"}, {strings.Repeat("0", 39) + "8", "9"}, {"8", strings.Repeat("0", 39) + "9"},
		{strings.Repeat("0", 40), "1"}, {"0" + digits, digits}, {"a" + digits, "ab"}, {"99999999999999999999", "100000000000000000000a"},
		// Digits against other bytes, and other bytes as they are.
		{"1", "a"}, {"9", " "}, {"9", "\x00"}, {"0", "!"}, {"999", "-"}, {"a1", "aa"}, {"a1", "a "}, {"a9b", "a9b1"}, {"5a", "5a0"}, {"a", "b"}, {"B", "a"}, {"a ", "a-"}, {"A1", "a0"}, {"a-1", "a-2"}, {"-1", "-2"},
		{"a", "ab"}, {"a1", "ab1"}, {"ab1", "b0"}, {"a\xc3", "a\xff"}, {"9", "\u0661"}, {"1.9", "1.10"}, {"1.2.3", "1.10"}, {"1 2", "1 10"},
		// One list of runs is the beginning of the other one.
		{"", "a"}, {"", "0"}, {"", " "}, {"a", "a1"}, {"a", "a0"}, {"1", "1a"}, {"a1", "a1b"}, {"vol 9", "vol 9 b"}, {"01", "1a"}, {"1", "01a"}, {"a01", "a1b"},
	} {
		checkOrder(t, "NaturalCompare", impl.NaturalCompare, c.less, c.more, -1)
		if naturalOrder(c.less, c.more) != -1 {
			t.Errorf("the pattern disagrees about %q and %q", c.less, c.more)
		}
	}
}

func TestNaturalCompareOfAllShortStrings(t *testing.T) {
	checkShortStrings(t, "NaturalCompare", "019a-", impl.NaturalCompare, naturalOrder)
}

// randomRuns returns a string of at most MaxText bytes in which long runs are frequent.
func randomRuns(r *rand.Rand) string {
	s := ""
	for range r.Intn(5) {
		s += strings.Repeat([]string{"0", "1", "9", "a", " ", "\xff"}[r.Intn(6)], 1+r.Intn(1+r.Intn(30)))
	}
	return s[:min(len(s), 40)]
}

func TestNaturalCompareOfLongRuns(t *testing.T) {
	r := rand.New(rand.NewSource(8))
	for range 50000 {
		a, b := randomRuns(r), randomRuns(r)
		checkOrder(t, "NaturalCompare", impl.NaturalCompare, a, b, naturalOrder(a, b))
		// The same values, as far as a zero more or less does not change one.
		c := strings.Replace(a, "0", "00", 1)
		if len(c) <= 40 {
			checkOrder(t, "NaturalCompare", impl.NaturalCompare, a, c, naturalOrder(a, c))
		}
	}
}

func TestStringsAtTheirLimit(t *testing.T) {
	for _, c := range []struct {
		unit         string
		folded, rest int
	}{{"a", 4000, 4000}, {"a ", 3999, 3998}, {" ", 0, 4000}, {"-", 0, 4000}, {"The ", 3999, 3996}, {"\xff", 0, 4000}, {"0", 4000, 4000}} {
		s := strings.Repeat(c.unit, 4000/len(c.unit))
		checkFolded(t, s)
		if folded, ok := impl.FoldText(s); !ok || len(folded) != c.folded {
			t.Errorf("FoldText of 4000 bytes %q: %d bytes, %v", c.unit, len(folded), ok)
		}
		if rest, ok := impl.DropArticle(s); !ok || len(rest) != c.rest || !strings.HasSuffix(s, rest) {
			t.Errorf("DropArticle of 4000 bytes %q: %d bytes, %v", c.unit, len(rest), ok)
		}
		checkOrder(t, "CollateTexts", impl.CollateTexts, s, s, 0)
		checkOrder(t, "CollateTexts", impl.CollateTexts, s[:3999], s, -1)
		for _, long := range []string{s + "a", s + " ", "A " + s, s + s, s + strings.Repeat(s, 20)} {
			if folded, ok := impl.FoldText(long); ok || folded != "" {
				t.Errorf("FoldText of %d bytes: %d bytes, %v", len(long), len(folded), ok)
			}
			if rest, ok := impl.DropArticle(long); ok || rest != "" {
				t.Errorf("DropArticle of %d bytes: %d bytes, %v", len(long), len(rest), ok)
			}
			for _, other := range []string{"", "zz", s, long} {
				checkNoOrder(t, "CollateTexts", impl.CollateTexts, long, other)
			}
		}
	}
}

func TestNaturalCompareAtItsLimit(t *testing.T) {
	for _, unit := range []string{"a", "0", "9", " ", "a1", "\xff"} {
		s := strings.Repeat(unit, 40/len(unit))
		checkOrder(t, "NaturalCompare", impl.NaturalCompare, s, s, 0)
		checkOrder(t, "NaturalCompare", impl.NaturalCompare, s, s[:39], naturalOrder(s, s[:39]))
		checkOrder(t, "NaturalCompare", impl.NaturalCompare, s, "", 1)
		for _, long := range []string{s + "a", s + "0", "0" + s, s + " ", strings.Repeat(s, 100), strings.Repeat(s, 200)} {
			for _, other := range []string{"", "5", "zz", s, long} {
				checkNoOrder(t, "NaturalCompare", impl.NaturalCompare, long, other)
			}
		}
	}
}

// entryFor returns an entry with the parts by which entries are compared.
func entryFor(authors, editors string, date impl.Date, title string, volume int, key string) impl.Entry {
	of, _ := namesIn(authors)
	by, _ := namesIn(editors)
	return impl.Entry{Key: key, Kind: impl.KindBook, Authors: of, Editors: by, Date: date, Title: title, Volume: volume}
}

func TestCompareEntriesStepByStep(t *testing.T) {
	lee := "Lee, Anna"
	for _, c := range []struct {
		what       string
		less, more impl.Entry
	}{
		{"authors", entryFor("Hall, Zoe", "", year(2001), "z", 9, "z"), entryFor(lee, "", year(1999), "a", 1, "a")},
		{"authors in the order of names", entryFor("Lee, Bo", "", year(2001), "z", 9, "z"), entryFor("de Lee, Anna", "", year(1999), "a", 1, "a")},
		{"the case of an author", entryFor("LEE, Anna", "", year(2001), "z", 9, "z"), entryFor(lee, "", year(1999), "a", 1, "a")},
		{"the second author", entryFor("Lee, Anna; Ash, C", "", year(2001), "z", 9, "z"), entryFor("Lee, Anna; Berg, B", "", year(1999), "a", 1, "a")},
		{"the first author before the second one", entryFor("Ash, C; Zorn, Z", "", year(2001), "z", 9, "z"), entryFor("Lee, Anna; Ash, C", "", year(1999), "a", 1, "a")},
		{"the first author before the number of authors", entryFor("Ash, C; Lee, Anna", "", year(1999), "", 0, "z"), entryFor("Lee, Anna", "", year(1999), "", 0, "a")},
		{"one author before the same one and another", entryFor(lee, "", year(2001), "z", 9, "z"), entryFor("Lee, Anna; Ash, C", "", year(1999), "a", 1, "a")},
		{"three authors before four", entryFor("Lee; Lee; Lee", "", year(2001), "z", 9, "z"), entryFor("Lee; Lee; Lee; Lee", "", year(1999), "a", 1, "a")},
		{"no names before any", entryFor("", "", year(2001), "z", 9, "z"), entryFor("Ash, C", "", year(1999), "a", 1, "a")},
		{"no names before editors", entryFor("", "", year(2001), "z", 9, "z"), entryFor("", "Ash, C", year(1999), "a", 1, "a")},
		{"editors if there are no authors", entryFor("", "Hall, Zoe", year(2001), "z", 9, "z"), entryFor(lee, "", year(1999), "a", 1, "a")},
		{"authors before editors of another entry", entryFor("Hall, Zoe", "Zorn, Z", year(2001), "z", 9, "z"), entryFor("", "Lee, Anna", year(1999), "a", 1, "a")},
		{"editors of both", entryFor("", "Hall, Zoe", year(2001), "z", 9, "z"), entryFor("", "Lee, Anna", year(1999), "a", 1, "a")},
		{"an editor before the same author and another", entryFor("", lee, year(2001), "z", 9, "z"), entryFor("Lee, Anna; Ash, C", "", year(1999), "a", 1, "a")},
		{"editors do not count beside authors", entryFor(lee, "Zorn, Z", year(1999), "", 0, "a"), entryFor(lee, "Ash, C", year(1999), "", 0, "b")},
		{"editors do not count beside authors, for the Date", entryFor(lee, "Zorn, Z", year(1999), "", 0, "b"), entryFor(lee, "", year(2001), "", 0, "a")},
		{"authors and editors who are the same people", entryFor(lee, "", year(1999), "z", 0, "z"), entryFor("", lee, year(2001), "a", 0, "a")},
		{"Date", entryFor(lee, "", year(1999), "z", 9, "z"), entryFor(lee, "", year(2001), "a", 1, "a")},
		{"unknown Date", entryFor(lee, "", impl.Date{}, "z", 9, "z"), entryFor(lee, "", year(1), "a", 1, "a")},
		{"Date alone", entryFor(lee, "", month(1999, 5), "x", 3, "k"), entryFor(lee, "", day(1999, 5, 1), "x", 3, "k")},
		{"Circa alone", entryFor(lee, "", year(1999), "x", 3, "k"), entryFor(lee, "", circa(1999), "x", 3, "k")},
		{"Title", entryFor(lee, "", year(1999), "On rivers", 9, "z"), entryFor(lee, "", year(1999), "Roads", 1, "a")},
		{"Title without its article", entryFor(lee, "", year(1999), "The north", 9, "z"), entryFor(lee, "", year(1999), "On rivers", 1, "a")},
		{"Titles with an article", entryFor(lee, "", year(1999), "The north", 9, "z"), entryFor(lee, "", year(1999), "A river", 1, "a")},
		{"one article alone is dropped", entryFor(lee, "", year(1999), "The A", 9, "z"), entryFor(lee, "", year(1999), "A B", 1, "a")},
		{"Title is collated", entryFor(lee, "", year(1999), "o'neill", 9, "z"), entryFor(lee, "", year(1999), "O-Neills", 1, "a")},
		{"the same folded Title", entryFor(lee, "", year(1999), "The North", 9, "z"), entryFor(lee, "", year(1999), "The north", 1, "a")},
		{"the same folded Title, an article before the other", entryFor(lee, "", year(1999), "the North", 9, "z"), entryFor(lee, "", year(1999), "A north", 1, "a")},
		{"no Title", entryFor(lee, "", year(1999), "", 9, "z"), entryFor(lee, "", year(1999), "0", 1, "a")},
		{"Title alone", entryFor(lee, "", year(1999), "x", 3, "k"), entryFor(lee, "", year(1999), "y", 3, "k")},
		{"Volume", entryFor(lee, "", year(1999), "x", 9, "z"), entryFor(lee, "", year(1999), "x", 10, "a")},
		{"no Volume", entryFor(lee, "", year(1999), "x", 0, "z"), entryFor(lee, "", year(1999), "x", 1, "a")},
		{"Volume of Titles that differ in the article", entryFor(lee, "", year(1999), "The north", 1, "z"), entryFor(lee, "", year(1999), "A north", 2, "a")},
		{"Volume alone", entryFor(lee, "", year(1999), "x", 0, "k"), entryFor(lee, "", year(1999), "x", impl.MaxVolume, "k")},
		{"Key", entryFor(lee, "", year(1999), "x", 3, "a10"), entryFor(lee, "", year(1999), "x", 3, "a9")},
		{"a Key that the other one continues", entryFor("", "", impl.Date{}, "", 0, "a"), entryFor("", "", impl.Date{}, "", 0, "a0")},
		{"Key of Titles that differ in the article", entryFor(lee, "", year(1999), "The north", 1, "a"), entryFor(lee, "", year(1999), "A north", 1, "b")},
	} {
		checkOrder(t, c.what, impl.CompareEntries, c.less, c.more, -1)
		if entryOrder(t, c.less, c.more) != -1 {
			t.Errorf("%s: the other reading disagrees", c.what)
		}
	}
}

func TestEntriesThatAreEqual(t *testing.T) {
	e := fullEntry("lee", impl.KindBook)
	for _, change := range []func(e *impl.Entry){
		func(e *impl.Entry) {},
		func(e *impl.Entry) { e.Kind = impl.KindReport },
		func(e *impl.Entry) { e.Container = "Other" },
		func(e *impl.Entry) { e.Publisher = "" },
		func(e *impl.Entry) { e.Pages = "7" },
		func(e *impl.Entry) { e.Cross = "" },
		func(e *impl.Entry) { e.Editors = nil },
		func(e *impl.Entry) { e.Editors = e.Editors[:1] },
		func(e *impl.Entry) { e.Authors, e.Editors = nil, e.Authors },
		func(e *impl.Entry) { e.Title = "THE " + e.Title },
		func(e *impl.Entry) { e.Title = "a " + e.Title },
	} {
		other := e
		change(&other)
		checkOrder(t, "equal entries", impl.CompareEntries, e, other, 0)
		other.Key = "lee0"
		checkOrder(t, "entries that differ in the Key", impl.CompareEntries, e, other, -1)
	}
	none := impl.Entry{Key: "a", Kind: impl.KindBook, Authors: []impl.Name{}}
	checkOrder(t, "no names", impl.CompareEntries, none, impl.Entry{Key: "a", Kind: impl.KindBook, Editors: []impl.Name{}}, 0)
}

// closeEntry returns an entry that agrees with most others of its kind in several parts.
func closeEntry(r *rand.Rand, key string) impl.Entry {
	people := []string{"", "", "Lee, Anna", "Lee, Anna", "LEE, Anna", "Lee, Anna; Ash, C", "Lee, Anna; Ash, C; Lee, Anna", "Ash, C", "de Lee, Anna"}
	titles := []string{"", "north", "North", "The north", "A north", "the  north", "The the north", "nor-th", "nor th", "A", "An", "The", "Theory", "On rivers"}
	dates := []impl.Date{{}, year(1999), year(1999), circa(1999), month(1999, 5), day(1999, 5, 3), year(2001), year(1850), circa(impl.MaxYear)}
	return entryFor(people[r.Intn(len(people))], people[r.Intn(len(people))], dates[r.Intn(len(dates))], titles[r.Intn(len(titles))], r.Intn(3), key)
}

func TestCompareEntriesFromBothSides(t *testing.T) {
	r := rand.New(rand.NewSource(88))
	names, dates := manyNames(), someDates()
	var all []impl.Entry
	for i := range 600 {
		all = append(all, closeEntry(r, someKeys[i%len(someKeys)]))
	}
	for i := range 100 {
		all = append(all, randomEntry(r, someKeys[i%len(someKeys)], names, dates))
	}
	for i, a := range all {
		checkOrder(t, "CompareEntries", impl.CompareEntries, a, a, 0)
		for _, b := range all[i:] {
			checkOrder(t, "CompareEntries", impl.CompareEntries, a, b, entryOrder(t, a, b))
		}
	}
}

func TestInvalidEntriesCannotBeCompared(t *testing.T) {
	good := fullEntry("other1", impl.KindBook)
	for _, e := range append(invalidEntries(), impl.Entry{}) {
		checkNoOrder(t, "CompareEntries", impl.CompareEntries, e, good)
		checkNoOrder(t, "CompareEntries", impl.CompareEntries, e, e)
	}
}

// groupedKeys returns the Years of a valid library and the keys of each, whatever the program
// does.
func groupedKeys(t *testing.T, l impl.Library) ([]int, [][]string) {
	var years []int
	for _, e := range l.Entries {
		years = append(years, e.Date.Year)
	}
	slices.Sort(years)
	years = slices.Compact(years)
	slices.Reverse(years)
	var groups [][]string
	for _, y := range years {
		part := impl.Library{}
		for _, e := range l.Entries {
			if e.Date.Year == y {
				part.Entries = append(part.Entries, e)
			}
		}
		groups = append(groups, sortedKeys(t, part))
	}
	return years, groups
}

// checkSorted checks what the functions make of a valid library as a whole.
func checkSorted(t *testing.T, l impl.Library) {
	t.Helper()
	want := sortedKeys(t, l)
	if keys, ok := impl.SortLibrary(l); !ok || !slices.Equal(keys, want) {
		t.Fatalf("SortLibrary(%v) = %q, %v, not %q", l, keys, ok, want)
	}
	wantYears, wantGroups := groupedKeys(t, l)
	years, groups, ok := impl.GroupByYear(l)
	if !ok || !slices.Equal(years, wantYears) || !slices.EqualFunc(groups, wantGroups, slices.Equal[[]string]) {
		t.Fatalf("GroupByYear(%v) = %v, %q, %v, not %v, %q", l, years, groups, ok, wantYears, wantGroups)
	}
}

// checkKeys checks what the functions make of different keys of a valid library, in any order.
func checkKeys(t *testing.T, l impl.Library, keys []string) {
	t.Helper()
	sorted := sortedKeys(t, l)
	chosen := slices.DeleteFunc(slices.Clone(sorted), func(key string) bool { return !slices.Contains(keys, key) })
	before := slices.Clone(keys)
	if got, ok := impl.SortKeys(l, keys); !ok || !slices.Equal(got, chosen) {
		t.Fatalf("SortKeys(%v, %q) = %q, %v, not %q", l, keys, got, ok, chosen)
	}
	for _, key := range sorted {
		more := slices.DeleteFunc(slices.Clone(sorted), func(s string) bool { return s != key && !slices.Contains(keys, s) })
		want, fits := slices.Index(more, key), !slices.Contains(keys, key)
		if !fits {
			want = 0
		}
		if place, ok := impl.InsertPlace(l, keys, key); ok != fits || place != want {
			t.Fatalf("InsertPlace(%v, %q, %q) = %d, %v, not %d, %v", l, keys, key, place, ok, want, fits)
		}
	}
	if !slices.Equal(keys, before) {
		t.Fatalf("%q became %q", before, keys)
	}
}

// yearsLibrary returns the library of entries e, d, c, b and a in ascending order, two of 1999, one
// of 2001 and two without a date.
func yearsLibrary() impl.Library {
	return impl.Library{Entries: []impl.Entry{
		entryFor("Zorn, Z", "", month(1999, 5), "", 0, "a"),
		entryFor("Lee, Anna", "", year(2001), "", 0, "b"),
		entryFor("", "Lee, Anna", circa(1999), "", 0, "c"),
		entryFor("Ash, C", "", impl.Date{}, "", 0, "d"),
		entryFor("", "", impl.Date{}, "", 0, "e"),
	}}
}

func TestSortLibraryAndGroupByYear(t *testing.T) {
	l := yearsLibrary()
	if keys, ok := impl.SortLibrary(l); !ok || strings.Join(keys, "") != "edcba" {
		t.Errorf("SortLibrary = %q, %v", keys, ok)
	}
	years, groups, ok := impl.GroupByYear(l)
	if !ok || !slices.Equal(years, []int{2001, 1999, 0}) || len(groups) != 3 {
		t.Fatalf("GroupByYear = %v, %q, %v", years, groups, ok)
	}
	for i, want := range []string{"b", "ca", "ed"} {
		if strings.Join(groups[i], "") != want {
			t.Errorf("%d: %q, not %q", years[i], groups[i], want)
		}
	}
	checkSorted(t, l)
}

// permutations returns list in all orders.
func permutations(list []string) [][]string {
	if len(list) == 0 {
		return [][]string{{}}
	}
	var all [][]string
	for i := range list {
		for _, rest := range permutations(slices.Delete(slices.Clone(list), i, i+1)) {
			all = append(all, append([]string{list[i]}, rest...))
		}
	}
	return all
}

func TestKeysInAllOrders(t *testing.T) {
	l := yearsLibrary()
	for _, part := range subsets(keysOf(l)) {
		for _, keys := range permutations(part) {
			checkKeys(t, l, keys)
		}
	}
}

func TestInsertPlace(t *testing.T) {
	l := yearsLibrary()
	for _, c := range []struct {
		keys, key string
		place     int
	}{
		{"", "a", 0}, {"", "e", 0}, {"bcd", "e", 0}, {"dbc", "e", 0}, {"bdc", "a", 3}, {"abe", "c", 1}, {"eba", "d", 1}, {"eda", "b", 2}, {"ad", "c", 1}, {"abcd", "e", 0}, {"edcb", "a", 4},
	} {
		if place, ok := impl.InsertPlace(l, strings.Split(c.keys, "")[:len(c.keys)], c.key); !ok || place != c.place {
			t.Errorf("InsertPlace(%q, %q) = %d, %v, not %d", c.keys, c.key, place, ok, c.place)
		}
	}
}

func TestManyLibrariesAreSorted(t *testing.T) {
	r := rand.New(rand.NewSource(18))
	names, dates := manyNames(), someDates()
	for i := range 300 {
		l := impl.Library{}
		for _, key := range someKeys[:8] {
			switch {
			case r.Intn(5) == 0:
			case i%5 == 0:
				l.Entries = append(l.Entries, randomEntry(r, key, names, dates))
			default:
				l.Entries = append(l.Entries, closeEntry(r, key))
			}
		}
		checkSorted(t, l)
		keys := keysOf(l)
		for range 10 {
			r.Shuffle(len(keys), func(i, j int) { keys[i], keys[j] = keys[j], keys[i] })
			checkKeys(t, l, keys[:r.Intn(len(keys)+1)])
		}
	}
}

func TestSortingNothing(t *testing.T) {
	for _, l := range []impl.Library{{}, {Entries: []impl.Entry{}}} {
		checkSorted(t, l)
		checkKeys(t, l, nil)
		checkKeys(t, l, []string{})
		years, groups, ok := impl.GroupByYear(l)
		if !ok || len(years) != 0 || len(groups) != 0 {
			t.Errorf("GroupByYear = %v, %q, %v", years, groups, ok)
		}
		checkNoKeys(t, l, []string{"a"}, "b")
		checkNoPlace(t, l, nil, "a")
	}
	if keys, ok := impl.SortKeys(yearsLibrary(), nil); !ok || len(keys) != 0 {
		t.Errorf("SortKeys of no keys = %q, %v", keys, ok)
	}
}

// checkNoKeys checks that keys cannot be sorted, with and without one more.
func checkNoKeys(t *testing.T, l impl.Library, keys []string, key string) {
	t.Helper()
	if sorted, ok := impl.SortKeys(l, keys); ok || len(sorted) != 0 {
		t.Errorf("SortKeys(%.300q, %.300q) = %q, %v", fmt.Sprint(l), keys, sorted, ok)
	}
	checkNoPlace(t, l, keys, key)
}

func checkNoPlace(t *testing.T, l impl.Library, keys []string, key string) {
	t.Helper()
	if place, ok := impl.InsertPlace(l, keys, key); ok || place != 0 {
		t.Errorf("InsertPlace(%.300q, %.300q, %.40q) = %d, %v", fmt.Sprint(l), keys, key, place, ok)
	}
}

func TestKeysThatCannotBeSorted(t *testing.T) {
	l := yearsLibrary()
	for _, keys := range [][]string{
		{"a", "a"}, {"a", "b", "a"}, {"b", "a", "a"}, {"e", "e", "d"}, {"c", "b", "a", "c"}, {"a", "b", "c", "d", "e", "e"}, {"f"}, {"a", "f"}, {"f", "a"}, {"a", "b", "ab"}, {"f", "f"}, {"0"},
		slices.Repeat([]string{"a", "b", "c"}, 3000), slices.Repeat([]string{"f"}, 5000),
	} {
		for _, key := range []string{"a", "c", "d", "e", "f", ""} {
			checkNoKeys(t, l, keys, key)
		}
	}
	for _, key := range append(invalidKeys(), "", "f", "aa", "a0", "0") {
		checkNoKeys(t, l, []string{key}, "a")
		checkNoKeys(t, l, []string{"b", key, "c"}, "a")
		checkNoPlace(t, l, nil, key)
		checkNoPlace(t, l, []string{"e", "b"}, key)
	}
	for _, keys := range subsets(keysOf(l)) {
		for _, key := range keys {
			checkNoPlace(t, l, keys, key)
		}
	}
}

func TestLibrariesThatCannotBeSorted(t *testing.T) {
	all := invalidLibraries()
	for _, e := range invalidEntries() {
		all = append(all, impl.Library{Entries: []impl.Entry{e}})
	}
	for _, l := range all {
		if keys, ok := impl.SortLibrary(l); ok || len(keys) != 0 {
			t.Errorf("SortLibrary(%.300q) = %q, %v", fmt.Sprint(l), keys, ok)
		}
		if years, groups, ok := impl.GroupByYear(l); ok || len(years) != 0 || len(groups) != 0 {
			t.Errorf("GroupByYear(%.300q) = %v, %q, %v", fmt.Sprint(l), years, groups, ok)
		}
		for _, key := range []string{"a", "b", "lee", "new", l.Entries[0].Key} {
			checkNoKeys(t, l, nil, key)
			checkNoKeys(t, l, []string{key}, key)
			checkNoKeys(t, l, []string{l.Entries[0].Key}, key)
		}
	}
}

func TestSortingKeepsItsArguments(t *testing.T) {
	l := sharingLibrary()
	before := whole(l)
	memory := []string{"f", "b", "d", "d", "not a key"}
	keys := memory[:2]
	if place, ok := impl.InsertPlace(l, keys, "d"); !ok || place != 1 {
		t.Errorf("InsertPlace = %d, %v", place, ok)
	}
	impl.CompareEntries(l.Entries[0], l.Entries[1])
	for range 2 {
		sorted, ok := impl.SortKeys(l, keys)
		all, fine := impl.SortLibrary(l)
		if !ok || !fine || !slices.Equal(sorted, []string{"b", "f"}) || !slices.Equal(all, []string{"b", "d", "f"}) {
			t.Fatalf("SortKeys = %q, %v, SortLibrary = %q, %v", sorted, ok, all, fine)
		}
		for _, list := range [][]string{sorted, all} {
			list = list[:cap(list)]
			for i := range list {
				list[i] = "spoilt"
			}
		}
	}
	if whole(l) != before || !slices.Equal(memory, []string{"f", "b", "d", "d", "not a key"}) {
		t.Errorf("%q became %s and %q", before, whole(l), memory)
	}
}

func TestGroupsShareNoMemory(t *testing.T) {
	l := yearsLibrary()
	before := whole(l)
	years, groups, ok := impl.GroupByYear(l)
	if !ok {
		t.Fatal("no groups")
	}
	for i := range groups {
		group := groups[i][:cap(groups[i])]
		for j := range group {
			if strings.HasPrefix(group[j], "spoilt") {
				t.Errorf("group %d shares memory with another one", i)
			}
			group[j] = "spoilt"
		}
	}
	years[0] = -1
	if whole(l) != before {
		t.Errorf("%s became %s", before, whole(l))
	}
	checkSorted(t, l)
}
