package tests

import (
	"math/rand"
	"regexp"
	"slices"
	"strings"
	"testing"

	"loop.example/g00896/impl"
)

const everyMark = ".,;:!?"

// markTable is the table of chapter 11: behind the first mark, what is there for each second one.
const markTable = `
	. . both both both ! ?
	, . , ; : ! ?
	; . ; ; : ! ?
	: : : ; : ! ?
	! ! ! both both ! both
	? ? ? both both both ?`

var (
	mergedPairs = pairsInTable()
	// replaceablePattern finds two bytes of which CleanText leaves one.
	replaceablePattern = regexp.MustCompile(` [ .,;:!?]|` + replaceablePairs())
	markRunPattern     = regexp.MustCompile(`[.,;:!?]+`)
	outerMarksPattern  = regexp.MustCompile(`\A[ .,;:!?]+|[ .,;:!?]+\z`)
	quotedEndPattern   = regexp.MustCompile(`[.!?]"\z`)
)

// pairsInTable returns what replaces every two marks that stand together.
func pairsInTable() map[string]string {
	pairs := map[string]string{}
	for _, row := range strings.Split(strings.TrimSpace(markTable), "\n") {
		cells := strings.Fields(row)
		for i, cell := range cells[1:] {
			pair := cells[0] + everyMark[i:i+1]
			pairs[pair] = strings.ReplaceAll(cell, "both", pair)
		}
	}
	return pairs
}

// replaceablePairs returns a pattern for two marks of which one mark remains.
func replaceablePairs() string {
	var pairs []string
	for pair, merged := range pairsInTable() {
		if merged != pair {
			pairs = append(pairs, regexp.QuoteMeta(pair))
		}
	}
	slices.Sort(pairs)
	return strings.Join(pairs, "|")
}

// isShortText reports whether s is a text of chapter 11.
func isShortText(s string) bool {
	return len(s) <= 60 && !strings.ContainsFunc(s, func(c rune) bool { return c < 32 || c > 126 })
}

// joinedOf joins two strings by the table, whatever the program does.
func joinedOf(a, b string) string {
	if a == "" || b == "" {
		return a + b
	}
	pair := a[len(a)-1:] + b[:1]
	if pair == "  " {
		return a + b[1:]
	}
	if merged, ok := mergedPairs[pair]; ok {
		return strings.TrimSuffix(a, pair[:1]) + merged + strings.TrimPrefix(b, pair[1:])
	}
	return a + b
}

// joinedPartsOf joins parts, whatever the program does.
func joinedPartsOf(parts []string, delimiter string) string {
	filled := slices.DeleteFunc(slices.Clone(parts), func(part string) bool { return part == "" })
	if len(filled) == 0 {
		return ""
	}
	joined := filled[0]
	for _, part := range filled[1:] {
		joined = joinedOf(joinedOf(joined, delimiter), part)
	}
	return joined
}

// cleanedOf treats the first place again and again, whatever the program does.
func cleanedOf(s string) string {
	for {
		found := replaceablePattern.FindStringIndex(s)
		if found == nil {
			return strings.Trim(s, " ")
		}
		pair := s[found[0]:found[1]]
		one, ok := mergedPairs[pair]
		if !ok {
			one = pair[1:]
		}
		s = s[:found[0]] + one + s[found[1]:]
	}
}

// movedOf exchanges bytes in place, whatever the program does.
func movedOf(s string) string {
	all := []byte(s)
	for i := range len(all) - 1 {
		if all[i] != '"' || all[i+1] != '.' && all[i+1] != ',' {
			continue
		}
		if i == 0 || !markRunPattern.Match(all[i-1:i]) {
			all[i], all[i+1] = all[i+1], '"'
		}
	}
	return string(all)
}

// endedOf puts a mark behind a text, whatever the program does.
func endedOf(s, mark string) string {
	for strings.HasSuffix(s, " ") {
		s = s[:len(s)-1]
	}
	if mark == "." && quotedEndPattern.MatchString(s) {
		return s
	}
	return joinedOf(s, mark)
}

// checkPunctuated fails if a function has not returned the text that is wanted.
func checkPunctuated(t *testing.T, what, s, got string, ok bool, want string) {
	t.Helper()
	if !ok || got != want {
		t.Fatalf("%s(%q) = %q, %v, not %q", what, s, got, ok, want)
	}
}

// checkClean checks promise 11 for a text.
func checkClean(t *testing.T, s string) {
	t.Helper()
	clean, ok := impl.CleanText(s)
	checkPunctuated(t, "CleanText", s, clean, ok, cleanedOf(s))
	again, ok := impl.CleanText(clean)
	checkPunctuated(t, "CleanText", clean, again, ok, clean)
	if yes, ok := impl.IsClean(clean); !ok || !yes {
		t.Fatalf("IsClean(%q) = %v, %v", clean, yes, ok)
	}
	if yes, ok := impl.IsClean(s); !ok || yes != (s == cleanedOf(s)) {
		t.Fatalf("IsClean(%q) = %v, %v", s, yes, ok)
	}
	if replaceablePattern.MatchString(clean) || strings.HasPrefix(clean, " ") || strings.HasSuffix(clean, " ") {
		t.Fatalf("CleanText(%q) = %q", s, clean)
	}
	for i := range len(clean) - 1 {
		if merged, ok := impl.MergeMarks(clean[i], clean[i+1]); ok && len(merged) == 1 {
			t.Fatalf("CleanText(%q) = %q", s, clean)
		}
	}
}

// checkPunctuation checks every function of one text.
func checkPunctuation(t *testing.T, s string) {
	t.Helper()
	checkClean(t, s)
	moved, ok := impl.MoveIntoQuotes(s)
	checkPunctuated(t, "MoveIntoQuotes", s, moved, ok, movedOf(s))
	for i := range len(everyMark) {
		ended, ok := impl.EndWith(s, everyMark[i])
		checkPunctuated(t, "EndWith "+everyMark[i:i+1], s, ended, ok, endedOf(s, everyMark[i:i+1]))
	}
	stripped, ok := impl.StripMarks(s)
	checkPunctuated(t, "StripMarks", s, stripped, ok, outerMarksPattern.ReplaceAllString(s, ""))
	runs := markRunPattern.FindAllString(s, -1)
	marks := len(strings.Join(runs, ""))
	if n, m, ok := impl.CountMarks(s); !ok || n != marks || m != marks-len(runs) {
		t.Fatalf("CountMarks(%q) = %d, %d, %v", s, n, m, ok)
	}
	checkJoined(t, s, "")
	checkJoined(t, "", s)
	checkJoinedParts(t, []string{s}, ", ")
}

func checkJoined(t *testing.T, a, b string) {
	t.Helper()
	if got, ok := impl.JoinTwo(a, b); !ok || got != joinedOf(a, b) {
		t.Fatalf("JoinTwo(%q, %q) = %q, %v, not %q", a, b, got, ok, joinedOf(a, b))
	}
}

func checkJoinedParts(t *testing.T, parts []string, delimiter string) {
	t.Helper()
	if got, ok := impl.JoinParts(parts, delimiter); !ok || got != joinedPartsOf(parts, delimiter) {
		t.Fatalf("JoinParts(%q, %q) = %q, %v, not %q", parts, delimiter, got, ok, joinedPartsOf(parts, delimiter))
	}
}

// checkNoJoinedParts checks that JoinParts fails.
func checkNoJoinedParts(t *testing.T, parts []string, delimiter string) {
	t.Helper()
	if got, ok := impl.JoinParts(parts, delimiter); ok || got != "" {
		t.Errorf("JoinParts(%q, %q) = %q, %v", parts, delimiter, got, ok)
	}
}

// checkNoPunctuation checks that every function refuses s.
func checkNoPunctuation(t *testing.T, s string) {
	t.Helper()
	for what, change := range map[string]func(string) (string, bool){
		"CleanText": impl.CleanText, "MoveIntoQuotes": impl.MoveIntoQuotes, "StripMarks": impl.StripMarks,
	} {
		if got, ok := change(s); ok || got != "" {
			t.Errorf("%s(%q) = %q, %v", what, s, got, ok)
		}
	}
	if yes, ok := impl.IsClean(s); ok || yes {
		t.Errorf("IsClean(%q) = %v, %v", s, yes, ok)
	}
	if n, m, ok := impl.CountMarks(s); ok || n != 0 || m != 0 {
		t.Errorf("CountMarks(%q) = %d, %d, %v", s, n, m, ok)
	}
	for _, mark := range []byte(everyMark + "a\x00") {
		if got, ok := impl.EndWith(s, mark); ok || got != "" {
			t.Errorf("EndWith(%q, %q) = %q, %v", s, mark, got, ok)
		}
	}
	for _, other := range []string{"", "a", " ", ".", s} {
		for _, both := range [][2]string{{s, other}, {other, s}} {
			if got, ok := impl.JoinTwo(both[0], both[1]); ok || got != "" {
				t.Errorf("JoinTwo(%q, %q) = %q, %v", both[0], both[1], got, ok)
			}
		}
		checkNoJoinedParts(t, []string{s}, other)
		checkNoJoinedParts(t, []string{other, s}, "")
		checkNoJoinedParts(t, []string{s, other, "a"}, ".")
		// A delimiter that stands nowhere is refused, too.
		checkNoJoinedParts(t, []string{other}, s)
		checkNoJoinedParts(t, []string{other, "a", "b"}, s)
	}
	checkNoJoinedParts(t, nil, s)
	checkNoJoinedParts(t, []string{"", ""}, s)
}

func TestLimitsOfPunctuation(t *testing.T) {
	if impl.MaxPieces != 12 || impl.MaxPart != 60 {
		t.Error("MaxPieces, MaxPart =", impl.MaxPieces, impl.MaxPart)
	}
}

func TestMergeMarks(t *testing.T) {
	if len(mergedPairs) != 36 {
		t.Fatal("pairs in the table:", mergedPairs)
	}
	for pair, want := range mergedPairs {
		if got, ok := impl.MergeMarks(pair[0], pair[1]); !ok || got != want {
			t.Errorf("MergeMarks of %q = %q, %v, not %q", pair, got, ok, want)
		}
	}
	for _, c := range [][2]string{
		{",.", "."}, {".,", ".,"}, {"..", "."}, {".!", "!"}, {"!.", "!"}, {":.", ":"}, {";:", ":"}, {":;", ";"}, {"!?", "!?"}, {"?!", "?!"}, {"?:", "?:"}, {":?", "?"}, {"!;", "!;"},
	} {
		if got, ok := impl.MergeMarks(c[0][0], c[0][1]); !ok || got != c[1] {
			t.Errorf("MergeMarks of %q = %q, %v, not %q", c[0], got, ok, c[1])
		}
	}
}

func TestMergeMarksOfOtherBytes(t *testing.T) {
	for a := range 256 {
		for b := range 256 {
			pair := string([]byte{byte(a), byte(b)})
			got, ok := impl.MergeMarks(byte(a), byte(b))
			if want, fine := mergedPairs[pair]; ok != fine || got != want {
				t.Errorf("MergeMarks of %q = %q, %v", pair, got, ok)
			}
		}
	}
}

func TestJoinTwo(t *testing.T) {
	for _, c := range [][3]string{
		{"", "", ""}, {"a", "", "a"}, {"", "a", "a"}, {"a", "b", "ab"}, {" ", "", " "}, {"", ".", "."},
		// Marks at the seam.
		{"a.", ".b", "a.b"}, {"a,", ".b", "a.b"}, {"a.", ",b", "a.,b"}, {"a!", "?b", "a!?b"}, {"a:", ".b", "a:b"}, {".", ".", "."}, {".", ",", ".,"}, {"!", ":", "!:"},
		{"a.", "b", "a.b"}, {"a", ".b", "a.b"},
		// Spaces at the seam.
		{"a ", " b", "a b"}, {"a ", "b", "a b"}, {"a", " b", "a b"}, {" ", " ", " "}, {"a  ", "  b", "a   b"}, {"  ", "  ", "   "},
		// A space and a mark remain, whichever is first.
		{"a ", ".b", "a .b"}, {"a.", " b", "a. b"}, {" ", ".", " ."}, {".", " ", ". "}, {"a. ", " .b", "a. .b"}, {"a. ", ". b", "a. . b"}, {"a .", ". b", "a . b"},
		// Only the two at the seam are replaced, and what arises is not compared again.
		{"a..", "..b", "a...b"}, {"a.,", ".b", "a..b"}, {"a,", ",,b", "a,,b"}, {"a,,", ",b", "a,,b"}, {"a.,", "!b", "a.!b"}, {"a .", ".", "a ."}, {"a?", ".!b", "a?!b"}, {" a", "b ", " ab "},
		{`a."`, `."b`, `a."."b`}, {"a-", "-b", "a--b"}, {"a'", "'b", "a''b"},
	} {
		if got, ok := impl.JoinTwo(c[0], c[1]); !ok || got != c[2] {
			t.Errorf("JoinTwo(%q, %q) = %q, %v, not %q", c[0], c[1], got, ok, c[2])
		}
		checkJoined(t, c[0], c[1])
	}
}

func TestEveryTwoBytesAtTheSeam(t *testing.T) {
	for a := 32; a < 127; a++ {
		for b := 32; b < 127; b++ {
			first, second := string(rune(a)), string(rune(b))
			checkJoined(t, first, second)
			checkJoined(t, "x"+first, second+"y")
			checkJoined(t, "."+first, second+".")
		}
	}
}

func TestJoinTwoOfAllShortTexts(t *testing.T) {
	all := stringsOver(` .,:!"a`, 3)
	for _, a := range all {
		for _, b := range all {
			checkJoined(t, a, b)
		}
	}
}

func TestJoinParts(t *testing.T) {
	for _, c := range []struct {
		parts           []string
		delimiter, want string
	}{
		{[]string{"Smith, J.", "Title."}, ". ", "Smith, J. Title."},
		{[]string{"Smith, J.", "", "Title.", "1999"}, ". ", "Smith, J. Title. 1999"},
		{nil, ", ", ""}, {[]string{""}, ", ", ""}, {[]string{"", "", ""}, ", ", ""}, {[]string{"a"}, ", ", "a"},
		// Empty parts have no delimiters, wherever they stand.
		{[]string{"", "a", "b"}, ", ", "a, b"}, {[]string{"a", "", "b"}, ", ", "a, b"}, {[]string{"a", "b", ""}, ", ", "a, b"}, {[]string{"", "", "a", "", "", "b", "", ""}, ", ", "a, b"}, {[]string{"", "a", ""}, ", ", "a"},
		{[]string{"a", "b", "c"}, "", "abc"}, {[]string{"a.", ".b", "", ",c"}, "", "a.b,c"}, {[]string{"a ", " b", " c"}, "", "a b c"},
		{[]string{"a.", "b,", "c!", "d"}, ", ", "a., b, c! d"}, {[]string{"a?", "b"}, ".", "a?b"}, {[]string{"a", ".b"}, ",", "a.b"}, {[]string{"a", " b"}, ", ", "a, b"}, {[]string{"a ", "b"}, " - ", "a - b"},
		// A part that is only a mark or only a space is not empty.
		{[]string{".", ".", "."}, ", ", "., ., ."}, {[]string{".", "a"}, ".", ".a"}, {[]string{"a", ".", "b"}, "", "a.b"}, {[]string{"a", ".", "b"}, ".", "a.b"}, {[]string{" ", " ", "a"}, " ", " a"}, {[]string{" ", "a"}, ", ", " , a"}, {[]string{"a", " "}, ", ", "a, "},
		// The mark that arises at one seam meets the next part.
		{[]string{"a,", "!b"}, ".", "a!b"}, {[]string{"a!", ",b"}, ".", "a!b"}, {[]string{"a.", ".b"}, ",", "a..b"}, {[]string{"a!", ":b"}, "?", "a!?:b"}, {[]string{"a:", ";b"}, ".", "a;b"}, {[]string{"a ", " b"}, " ", "a b"}, {[]string{"a. ", ".b"}, " .", "a. .b"},
	} {
		if got, ok := impl.JoinParts(c.parts, c.delimiter); !ok || got != c.want {
			t.Errorf("JoinParts(%q, %q) = %q, %v, not %q", c.parts, c.delimiter, got, ok, c.want)
		}
		checkJoinedParts(t, c.parts, c.delimiter)
	}
}

func TestAllShortListsOfParts(t *testing.T) {
	pieces := []string{"", "a", ".", " ", ",", "!", ".b", "c.", " d", "e ", ", ", " ."}
	delimiters := []string{"", " ", ".", ",", ", ", ". ", "?", "and", " ."}
	lists := [][]string{nil}
	for i := 0; i < len(lists); i++ {
		for _, delimiter := range delimiters {
			checkJoinedParts(t, lists[i], delimiter)
		}
		if len(lists[i]) < 4 {
			for _, piece := range pieces {
				lists = append(lists, append(slices.Clone(lists[i]), piece))
			}
		}
	}
}

// randomPunctuation returns a text of up to most bytes in which marks, spaces and quotation marks are frequent.
func randomPunctuation(r *rand.Rand, most int) string {
	var all []byte
	for range r.Intn(most + 1) {
		c := everyMark[r.Intn(len(everyMark))]
		switch r.Intn(6) {
		case 0:
			c = byte(32 + r.Intn(95))
		case 1:
			c = ' '
		case 2:
			c = '"'
		}
		all = append(all, c)
	}
	return string(all)
}

func TestManyListsOfParts(t *testing.T) {
	r := rand.New(rand.NewSource(111))
	for range 20000 {
		parts := []string{}
		for range r.Intn(13) {
			parts = append(parts, randomPunctuation(r, 1+r.Intn(60)))
		}
		for i := range parts {
			if r.Intn(4) == 0 {
				parts[i] = ""
			}
		}
		checkJoinedParts(t, parts, randomPunctuation(r, 1+r.Intn(60)))
	}
}

func TestNumbersOfPieces(t *testing.T) {
	for n := range 40 {
		for _, part := range []string{"", "a", ".", " ", strings.Repeat("a", 60)} {
			for _, delimiter := range []string{"", ", ", strings.Repeat("-", 60)} {
				if parts := slices.Repeat([]string{part}, n); n <= 12 {
					checkJoinedParts(t, parts, delimiter)
				} else {
					checkNoJoinedParts(t, parts, delimiter)
				}
			}
		}
	}
	if got, ok := impl.JoinParts(slices.Repeat([]string{strings.Repeat("a", 60)}, 12), strings.Repeat("-", 60)); !ok || len(got) != 23*60 {
		t.Errorf("the longest joined parts: %q, %v", got, ok)
	}
	checkNoJoinedParts(t, append(make([]string, 12), "a"), ", ")
}

func TestCleanText(t *testing.T) {
	for _, c := range [][2]string{
		{"", ""}, {" ", ""}, {"  ", ""}, {strings.Repeat(" ", 60), ""}, {"a", "a"}, {" a ", "a"}, {"   a   b   ", "a b"}, {"a b", "a b"},
		{"a ,  b..c?! ", "a, b.c?!"},
		// Spaces before marks, at the beginning, too; spaces behind marks remain.
		{"a .", "a."}, {"a  .", "a."}, {" .", "."}, {"  . a", ". a"}, {". ", "."}, {"a . b", "a. b"}, {" ? ! ", "?!"}, {"a ( . b", "a (. b"},
		// Two marks of which one remains.
		{"a..", "a."}, {"a,.", "a."}, {"a.!", "a!"}, {"a!.", "a!"}, {"a:.", "a:"}, {"a....b", "a.b"}, {",,,,", ","}, {".!.!", "!"},
		// Two marks that both remain, next to a third one and next to spaces.
		{"a.,", "a.,"}, {"a.;b", "a.;b"}, {"a!?", "a!?"}, {"a?!b", "a?!b"}, {"a.,.", "a."}, {"a.,,", "a.,"}, {"a.,!", "a!"}, {"a..,", "a.,"}, {"a.,;", "a.;"}, {"a?!?", "a?!?"}, {"a!!?", "a!?"}, {"a!?.", "a!?"}, {"a!?,", "a!?"}, {"a!?:.", "a!?:"}, {"a!;.", "a!"},
		{"a. ,", "a.,"}, {"a ., b", "a., b"}, {"a ! ? b", "a!? b"}, {"a . , . b", "a. b"}, {"a.  ,  b", "a., b"},
		// The first place comes first: from the right, `:;.` would become `:.` and then `:`.
		{":;.", "."}, {"a : ; . b", "a. b"}, {"a:;..", "a."}, {".,.", "."}, {":.,", ":"}, {";:.", ":"}, {":,;", ";"}, {".:;", ".;"}, {".;:", ".:"}, {"!.?", "!?"}, {".!?", "!?"}, {"?.!", "?!"}, {"?,:", "?:"},
		// A replacement, after which there is a new pair or a space before a mark.
		{"a . .", "a."}, {"a. .b", "a.b"}, {"a! .b", "a!b"}, {"a , . ! b", "a! b"}, {"a.,.,b", "a.,b"}, {"!:.,b", "!:b"}, {". , ! ?", "!?"}, {". ; .", "."},
		// Other bytes are no marks.
		{`a""b`, `a""b`}, {`a ."`, `a."`}, {"a -- b", "a -- b"}, {"a.-.", "a.-."}, {"a '' b", "a '' b"}, {`." . "`, `.". "`},
	} {
		if got, ok := impl.CleanText(c[0]); !ok || got != c[1] {
			t.Errorf("CleanText(%q) = %q, %v, not %q", c[0], got, ok, c[1])
		}
		checkPunctuation(t, c[0])
	}
}

func TestCleanTextOfAllMarks(t *testing.T) {
	for _, s := range stringsOver(everyMark+" a", 5) {
		checkClean(t, s)
		checkClean(t, "b"+s+"c")
	}
}

func TestAllShortPunctuation(t *testing.T) {
	for _, s := range stringsOver(` .,!"a`, 6) {
		checkPunctuation(t, s)
	}
	for _, s := range stringsOver(everyMark+` "'`, 4) {
		checkPunctuation(t, s)
	}
}

func TestManyTextsOfMarks(t *testing.T) {
	r := rand.New(rand.NewSource(112))
	for range 20000 {
		s := randomPunctuation(r, 60)
		checkPunctuation(t, s)
		checkJoined(t, s, randomPunctuation(r, 60))
	}
}

func TestIsClean(t *testing.T) {
	for _, c := range []struct {
		s    string
		want bool
	}{
		{"", true}, {"a", true}, {".", true}, {"a b", true}, {".,", true}, {"!?", true}, {"a, b.c?!", true}, {"a. b", true}, {`"a."`, true}, {"?!?!", true}, {strings.Repeat("a", 60), true},
		{" ", false}, {" a", false}, {"a ", false}, {"a  b", false}, {"a .", false}, {" .", false}, {". ", false}, {"..", false}, {",.", false}, {".!", false}, {"!.", false}, {":;", false}, {".,.", false}, {"a ! b", false},
	} {
		if yes, ok := impl.IsClean(c.s); !ok || yes != c.want {
			t.Errorf("IsClean(%q) = %v, %v", c.s, yes, ok)
		}
	}
	for pair, merged := range mergedPairs {
		for _, s := range []string{pair, "a" + pair + "b", "a" + pair, pair + " b"} {
			if yes, ok := impl.IsClean(s); !ok || yes != (merged == pair) {
				t.Errorf("IsClean(%q) = %v, %v", s, yes, ok)
			}
		}
	}
}

func TestMoveIntoQuotes(t *testing.T) {
	for _, c := range [][2]string{
		{`"a", b`, `"a," b`}, {`"a". b`, `"a." b`}, {"", ""}, {`a`, `a`}, {`"`, `"`}, {`.`, `.`}, {`a, b.`, `a, b.`},
		// At the beginning and at the end.
		{`".`, `."`}, {`",`, `,"`}, {`".a`, `."a`}, {`a",`, `a,"`}, {`a"`, `a"`}, {`,"`, `,"`},
		// Other marks, and bytes in between.
		{`"a"; b`, `"a"; b`}, {`"a":`, `"a":`}, {`"a"!`, `"a"!`}, {`"a"?`, `"a"?`}, {`"a" .`, `"a" .`}, {`"a').`, `"a').`}, {`'a',`, `'a',`},
		// A mark before the quotation mark.
		{`"a.".`, `"a.".`}, {`"a.",`, `"a.",`}, {`"a!".`, `"a!".`}, {`"a?",`, `"a?",`}, {`"a,".`, `"a,".`}, {`"a;".`, `"a;".`}, {`"a:",`, `"a:",`}, {`."."`, `."."`}, {`"a .".`, `"a .".`}, {`"a. ".`, `"a. ."`}, {`"a.)".`, `"a.)."`},
		// What has been moved is a mark before the quotation mark.
		{`"a".,`, `"a.",`}, {`"a"..`, `"a.".`}, {`"a",,,`, `"a,",,`}, {`"a".",b`, `"a.","b`},
		// Several quotation marks: each mark is exchanged once.
		{`"".`, `"."`}, {`""",a`, `"","a`}, {`"'a'".`, `"'a'."`}, {`".".`, `."."`}, {`"","`, `",""`}, {`a"b"."c",`, `a"b.""c,"`}, {`""..`, `".".`}, {`"","",`, `","","`},
	} {
		if got, ok := impl.MoveIntoQuotes(c[0]); !ok || got != c[1] {
			t.Errorf("MoveIntoQuotes(%q) = %q, %v, not %q", c[0], got, ok, c[1])
		}
		checkPunctuation(t, c[0])
	}
}

func TestEndWith(t *testing.T) {
	for _, c := range []struct {
		s    string
		mark byte
		want string
	}{
		{"", '.', "."}, {"", ',', ","}, {" ", '.', "."}, {strings.Repeat(" ", 60), '?', "?"}, {"a", '.', "a."}, {"a", '!', "a!"},
		{"a  ", '.', "a."}, {" a ", '.', " a."}, {"a ", ':', "a:"}, {"a b ", ';', "a b;"},
		// A mark at the end already, in front of spaces, too.
		{"Really?", '.', "Really?"}, {"a.", '.', "a."}, {"a. ", '.', "a."}, {"a,", '.', "a."}, {"a, ", '.', "a."}, {"a.", ',', "a.,"}, {"a!", '?', "a!?"}, {"a:", '.', "a:"}, {"a.", '!', "a!"}, {"a .", '.', "a ."}, {"a..", '.', "a.."}, {"a.,", '.', "a.."},
		// A quotation mark behind the end of a sentence.
		{`He said "no."`, '.', `He said "no."`}, {`He said "no." `, '.', `He said "no."`}, {`"no!"   `, '.', `"no!"`}, {`"no?"`, '.', `"no?"`}, {`."`, '.', `."`}, {`!" `, '.', `!"`},
		{`"no,"`, '.', `"no,".`}, {`"no;"`, '.', `"no;".`}, {`"no:"`, '.', `"no:".`}, {`"no"`, '.', `"no".`}, {`"`, '.', `".`}, {`" `, '.', `".`}, {`""`, '.', `"".`}, {`."a"`, '.', `."a".`}, {`a. "`, '.', `a. ".`}, {`a.""`, '.', `a."".`}, {"a.'", '.', "a.'."}, {`a."b`, '.', `a."b.`},
		// The exception is only for a period.
		{`"no."`, ',', `"no.",`}, {`"no."`, '!', `"no."!`}, {`"no!" `, '?', `"no!"?`}, {`"no?"`, ';', `"no?";`}, {`"no."`, ':', `"no.":`},
	} {
		if got, ok := impl.EndWith(c.s, c.mark); !ok || got != c.want {
			t.Errorf("EndWith(%q, %q) = %q, %v, not %q", c.s, c.mark, got, ok, c.want)
		}
		checkPunctuation(t, c.s)
	}
}

func TestEndWithOtherBytes(t *testing.T) {
	for c := range 256 {
		for _, s := range []string{"", "a", "a.", `"no." `, " "} {
			want, mark := "", string([]byte{byte(c)})
			fine := c > 0 && strings.Contains(everyMark, mark)
			if fine {
				want = endedOf(s, mark)
			}
			if got, ok := impl.EndWith(s, byte(c)); ok != fine || got != want {
				t.Errorf("EndWith(%q, %q) = %q, %v", s, byte(c), got, ok)
			}
		}
	}
}

func TestStripMarks(t *testing.T) {
	for _, c := range [][2]string{
		{"", ""}, {" ", ""}, {".", ""}, {" .,;:!? ", ""}, {strings.Repeat(". ", 30), ""}, {"a", "a"}, {" ,a. b; ", "a. b"}, {"a.", "a"}, {".a", "a"}, {"a ", "a"}, {" a", "a"}, {". a", "a"}, {"a .", "a"},
		{"?!a!?", "a"}, {":a;", "a"}, {" . , a  .  b . , ", "a  .  b"}, {`."a."`, `"a."`}, {`"a".`, `"a"`}, {"(a.)", "(a.)"}, {".-.", "-"}, {" 'a' ", "'a'"}, {"..a..b..", "a..b"},
	} {
		if got, ok := impl.StripMarks(c[0]); !ok || got != c[1] {
			t.Errorf("StripMarks(%q) = %q, %v, not %q", c[0], got, ok, c[1])
		}
		checkPunctuation(t, c[0])
	}
}

func TestCountMarks(t *testing.T) {
	for _, c := range []struct {
		s            string
		marks, pairs int
	}{
		{"", 0, 0}, {"a", 0, 0}, {" ", 0, 0}, {"a.,b!", 3, 1}, {".", 1, 0}, {"..", 2, 1}, {"...", 3, 2}, {". .", 2, 0}, {".a.", 2, 0}, {".,;:!?", 6, 5}, {"a.,b;:c!?d", 6, 3}, {`".",`, 2, 0}, {"..  ..", 4, 2}, {"a-b'c", 0, 0}, {strings.Repeat(".", 60), 60, 59}, {strings.Repeat(". ", 30), 30, 0},
	} {
		if n, m, ok := impl.CountMarks(c.s); !ok || n != c.marks || m != c.pairs {
			t.Errorf("CountMarks(%q) = %d, %d, %v", c.s, n, m, ok)
		}
		checkPunctuation(t, c.s)
	}
}

func TestEveryByteInAShortText(t *testing.T) {
	for c := range 256 {
		one := string([]byte{byte(c)})
		for _, s := range []string{one, "a" + one, one + "a", "a" + one + "b", "a " + one + " .", strings.Repeat("a", 59) + one, `".` + one + `".`} {
			if c >= 32 && c <= 126 {
				checkPunctuation(t, s)
			} else {
				checkNoPunctuation(t, s)
			}
		}
	}
	for _, s := range []string{"caf\u00e9", "\u2014", "a\u00a0b", "a\xffb", "\u201ca\u201d.", "a\nb", "\t"} {
		checkNoPunctuation(t, s)
	}
}

func TestLengthsOfShortTexts(t *testing.T) {
	for _, piece := range []string{"a", ".", " ", ". ", `"`, `".`, " .", ".,", "!?", ",.", "a b"} {
		long := strings.Repeat(piece, 100)
		for _, length := range []int{1, 30, 58, 59, 60} {
			checkPunctuation(t, long[:length])
			checkJoined(t, long[:length], long[:60])
		}
		for _, length := range []int{61, 62, 100} {
			checkNoPunctuation(t, long[:length])
		}
		checkNoPunctuation(t, strings.Repeat(piece, 5000))
	}
	// What would be short enough without its spaces or marks is too long as it is.
	checkNoPunctuation(t, "a"+strings.Repeat(" ", 60))
	checkNoPunctuation(t, strings.Repeat(".", 60)+"a")
}

func TestResultsLongerThanATextOfPunctuation(t *testing.T) {
	full := strings.Repeat("a", 60)
	if got, ok := impl.JoinTwo(full, full); !ok || got != full+full {
		t.Errorf("JoinTwo: %q, %v", got, ok)
	}
	if got, ok := impl.JoinTwo(full[1:]+".", ".."+full[2:]); !ok || got != full[1:]+".."+full[2:] {
		t.Errorf("JoinTwo: %q, %v", got, ok)
	}
	if got, ok := impl.EndWith(full, '.'); !ok || got != full+"." {
		t.Errorf("EndWith: %q, %v", got, ok)
	}
	if got, ok := impl.EndWith(full[1:]+".", ','); !ok || got != full[1:]+".," {
		t.Errorf("EndWith: %q, %v", got, ok)
	}
	if got, ok := impl.JoinParts([]string{full, full, full[1:] + ".", "b"}, ". "); !ok || got != full+". "+full+". "+full[1:]+". b" {
		t.Errorf("JoinParts: %q, %v", got, ok)
	}
}

func TestPartsKeepTheirMemory(t *testing.T) {
	list := []string{"a.", "", ".b", " ", ",c", "\x00", strings.Repeat("x", 61)}
	for n := range 6 {
		parts := list[:n]
		before := slices.Clone(list)
		checkJoinedParts(t, parts, ", ")
		if !slices.Equal(list, before) {
			t.Fatalf("%q has become %q", before, list)
		}
	}
	many := append(slices.Repeat([]string{"a"}, 12), "\x00", "b")
	checkJoinedParts(t, many[:12], ". ")
}
