package tests

import (
	"fmt"
	"math"
	"math/rand"
	"regexp"
	"slices"
	"strconv"
	"strings"
	"testing"

	"loop.example/g00896/impl"
)

const textInMarkup = `((?:[\x20-\x29\x2b-\x5b\x5d\x5e\x60-\x7e]|\\[*_\\])+)`

var (
	spanPattern   = regexp.MustCompile(`\A(?:\*_` + textInMarkup + `_\*|\*` + textInMarkup + `\*|_` + textInMarkup + `_|` + textInMarkup + `)`)
	escapePattern = regexp.MustCompile(`\\([*_\\])`)
)

// allLimits are the limits of names.
var allLimits = []int{1, 2, 3, 4}

// letter is one byte of what is rendered.
type letter struct {
	c            byte
	italic, bold bool
}

func lettersOfText(s string) []letter {
	var all []letter
	for _, c := range []byte(s) {
		all = append(all, letter{c: c})
	}
	return all
}

func lettersOfSpans(list []impl.Span) []letter {
	var all []letter
	for _, span := range list {
		for _, c := range []byte(span.Text) {
			all = append(all, letter{c, span.Italic, span.Bold})
		}
	}
	return all
}

func textOfLetters(all []letter) string {
	var text []byte
	for _, l := range all {
		text = append(text, l.c)
	}
	return string(text)
}

// spansOfLetters returns the normal list of spans of letters, whatever the program does.
func spansOfLetters(all []letter) []impl.Span {
	list := []impl.Span{}
	for len(all) > 0 {
		like, end := all[0], 0
		for end < len(all) && all[end].italic == like.italic && all[end].bold == like.bold {
			end++
		}
		list = append(list, impl.Span{Text: textOfLetters(all[:end]), Italic: like.italic, Bold: like.bold})
		all = all[end:]
	}
	return list
}

// markupOf writes the markup of letters, whatever the program does.
func markupOf(all []letter) string {
	var markup []byte
	for _, span := range spansOfLetters(all) {
		before, after := "", ""
		if span.Bold {
			before, after = "*", "*"
		}
		if span.Italic {
			before, after = before+"_", "_"+after
		}
		markup = append(markup, before...)
		for _, c := range []byte(span.Text) {
			if c == '*' || c == '_' || c == '\\' {
				markup = append(markup, '\\')
			}
			markup = append(markup, c)
		}
		markup = append(markup, after...)
	}
	return string(markup)
}

// isSpans reports whether a list of spans is valid.
func isSpans(list []impl.Span) bool {
	length := 0
	for _, span := range list {
		length += len(span.Text)
		if strings.ContainsFunc(span.Text, func(c rune) bool { return c < 32 || c > 126 }) {
			return false
		}
	}
	return len(list) <= 80 && length <= 4000
}

// spansIn reads markup by the pattern, whatever the program does.
func spansIn(s string) ([]impl.Span, bool) {
	list := []impl.Span{}
	for s != "" {
		found := spanPattern.FindStringSubmatch(s)
		if found == nil {
			return []impl.Span{}, false
		}
		for i, text := range found[1:] {
			if text != "" {
				list = append(list, impl.Span{Text: escapePattern.ReplaceAllString(text, "$1"), Italic: i == 0 || i == 2, Bold: i < 2})
			}
		}
		s = s[len(found[0]):]
	}
	for i := 1; i < len(list); i++ {
		if list[i].Italic == list[i-1].Italic && list[i].Bold == list[i-1].Bold {
			return []impl.Span{}, false
		}
	}
	if !isSpans(list) {
		return []impl.Span{}, false
	}
	return list, true
}

// renderedField writes a style field of an entry by the chapters 2 and 3.
func renderedField(e impl.Entry, names int, field string) string {
	switch field {
	case "authors":
		text, _ := impl.JoinNames(e.Authors, names)
		return text
	case "editors":
		text, _ := impl.JoinNames(e.Editors, names)
		return text
	case "date":
		if e.Date == (impl.Date{}) {
			return ""
		}
		text, _ := impl.LongDate(e.Date)
		return text
	case "year":
		switch {
		case e.Date == impl.Date{}:
			return ""
		case e.Date.Circa:
			return fmt.Sprintf("ca. %d", e.Date.Year)
		}
		return strconv.Itoa(e.Date.Year)
	case "volume":
		if e.Volume == 0 {
			return ""
		}
		return strconv.Itoa(e.Volume)
	}
	return map[string]string{"title": e.Title, "container": e.Container, "publisher": e.Publisher, "pages": e.Pages, "key": e.Key}[field]
}

// usedOf returns the part of an OpIf or OpKind that is used.
func usedOf(n impl.Node, e impl.Entry, names int) impl.Node {
	if n.Op == impl.OpIf && renderedField(e, names, n.Word) != "" || n.Op == impl.OpKind && kindsByWord[n.Word] == e.Kind {
		return n.Parts[0]
	}
	return n.Parts[1]
}

// isConstantNode reports whether a node is constant for an entry.
func isConstantNode(n impl.Node, e impl.Entry, names int) bool {
	switch n.Op {
	case impl.OpField:
		return false
	case impl.OpText:
		return true
	case impl.OpIf, impl.OpKind:
		return isConstantNode(usedOf(n, e, names), e, names)
	}
	for _, part := range n.Parts {
		if !isConstantNode(part, e, names) {
			return false
		}
	}
	return true
}

// lettersOf renders a node letter by letter, whatever the program does.
func lettersOf(n impl.Node, e impl.Entry, names int) []letter {
	switch n.Op {
	case impl.OpField:
		return lettersOfText(renderedField(e, names, n.Word))
	case impl.OpText:
		return lettersOfText(n.Text)
	case impl.OpIf, impl.OpKind:
		return lettersOf(usedOf(n, e, names), e, names)
	}
	var all [][]letter
	variable, filled := 0, 0
	for _, part := range n.Parts {
		letters := lettersOf(part, e, names)
		if len(letters) > 0 {
			all = append(all, letters)
		}
		if !isConstantNode(part, e, names) {
			variable++
			if len(letters) > 0 {
				filled++
			}
		}
	}
	if len(all) == 0 || n.Op == impl.OpGroup && variable > 0 && filled == 0 {
		return nil
	}
	switch n.Op {
	case impl.OpFirst:
		return all[0]
	case impl.OpAffix:
		return slices.Concat(lettersOfText(n.Text), all[0], lettersOfText(n.After))
	case impl.OpGroup:
		joined := all[0]
		for _, letters := range all[1:] {
			joined = slices.Concat(joined, lettersOfText(n.Text), letters)
		}
		return joined
	}
	emphasized := slices.Clone(all[0])
	for i := range emphasized {
		if n.Op == impl.OpItalic {
			emphasized[i].italic = true
		} else {
			emphasized[i].bold = true
		}
	}
	return emphasized
}

// renderingOf renders an entry in a style; it fails if that has too many bytes.
func renderingOf(s impl.Style, e impl.Entry) ([]impl.Span, bool) {
	letters := lettersOf(s.Root, e, s.Names)
	if len(letters) > 4000 {
		return []impl.Span{}, false
	}
	return spansOfLetters(letters), true
}

// checkEqualSpans fails if spans are not those that are wanted.
func checkEqualSpans(t *testing.T, what string, list []impl.Span, ok bool, want []impl.Span, fine bool) {
	t.Helper()
	if ok != fine || !slices.Equal(list, want) {
		t.Fatalf("%.300s: %v, %v, not %v, %v", what, list, ok, want, fine)
	}
}

// checkSpans checks every function for a list of spans that is valid.
func checkSpans(t *testing.T, list []impl.Span) {
	t.Helper()
	letters, before := lettersOfSpans(list), slices.Clone(list)
	want, markup := spansOfLetters(letters), markupOf(letters)
	normal, ok := impl.NormalizeSpans(list)
	checkEqualSpans(t, fmt.Sprintf("NormalizeSpans(%v)", list), normal, ok, want, true)
	if text, ok := impl.PlainText(list); !ok || text != textOfLetters(letters) {
		t.Fatalf("PlainText(%v) = %q, %v", list, text, ok)
	}
	if text, ok := impl.FormatSpans(list); !ok || text != markup {
		t.Fatalf("FormatSpans(%v) = %q, %v, not %q", list, text, ok, markup)
	}
	parsed, ok := impl.ParseSpans(markup)
	checkEqualSpans(t, fmt.Sprintf("ParseSpans(%q)", markup), parsed, ok, want, true)
	again, ok := impl.NormalizeSpans(normal)
	checkEqualSpans(t, fmt.Sprintf("NormalizeSpans(%v)", normal), again, ok, want, true)
	if !slices.Equal(list, before) {
		t.Fatalf("%v has become %v", before, list)
	}
}

// checkNoSpans checks that every function fails for a list of spans.
func checkNoSpans(t *testing.T, what string, list []impl.Span) {
	t.Helper()
	if normal, ok := impl.NormalizeSpans(list); ok || len(normal) != 0 {
		t.Errorf("%s: NormalizeSpans: %v, %v", what, normal, ok)
	}
	if text, ok := impl.PlainText(list); ok || text != "" {
		t.Errorf("%s: PlainText: %.100q, %v", what, text, ok)
	}
	if text, ok := impl.FormatSpans(list); ok || text != "" {
		t.Errorf("%s: FormatSpans: %.100q, %v", what, text, ok)
	}
}

// checkMarkup compares ParseSpans with the pattern.
func checkMarkup(t *testing.T, s string) {
	t.Helper()
	want, fine := spansIn(s)
	list, ok := impl.ParseSpans(s)
	checkEqualSpans(t, fmt.Sprintf("ParseSpans(%q)", s), list, ok, want, fine)
	if !fine {
		return
	}
	if text, ok := impl.FormatSpans(list); !ok || text != s {
		t.Fatalf("FormatSpans of ParseSpans(%q) = %q, %v", s, text, ok)
	}
}

// checkRendered renders a valid entry in a valid style, and in what becomes of the style.
func checkRendered(t *testing.T, s impl.Style, e impl.Entry) {
	t.Helper()
	want, fine := renderingOf(s, e)
	list, ok := impl.RenderEntry(s, e)
	checkEqualSpans(t, "RenderEntry in "+textOfStyle(s), list, ok, want, fine)
	if fine {
		checkSpans(t, list)
	}
	simple, ok := impl.SimplifyStyle(s)
	if !ok {
		t.Fatalf("SimplifyStyle of %s: %v", textOfStyle(s), ok)
	}
	list, ok = impl.RenderEntry(simple, e)
	checkEqualSpans(t, "RenderEntry in the simplified "+textOfStyle(s), list, ok, want, fine)
	chosen, ok := impl.ChooseKind(s, e.Kind)
	if !ok {
		t.Fatalf("ChooseKind of %s: %v", textOfStyle(s), ok)
	}
	list, ok = impl.RenderEntry(chosen, e)
	checkEqualSpans(t, "RenderEntry in the chosen part of "+textOfStyle(s), list, ok, want, fine)
}

// checkLibraryRendered renders a valid library in a valid style.
func checkLibraryRendered(t *testing.T, s impl.Style, l impl.Library) {
	t.Helper()
	byText, fine := map[string][]string{}, true
	for _, e := range l.Entries {
		list, ok := renderingOf(s, e)
		text := textOfLetters(lettersOfSpans(list))
		byText[text] = append(byText[text], e.Key)
		fine = fine && ok
	}
	pairs, blank := [][2]string{}, byText[""]
	for _, keys := range byText {
		for i := range keys {
			for _, other := range keys[i+1:] {
				pairs = append(pairs, [2]string{keys[i], other})
			}
		}
	}
	slices.SortFunc(pairs, func(a, b [2]string) int { return slices.Compare(a[:], b[:]) })
	if !fine {
		pairs, blank = nil, nil
	}
	if alike, ok := impl.AlikeEntries(s, l); ok != fine || !slices.Equal(alike, pairs) {
		t.Fatalf("AlikeEntries in %s: %v, %v, not %v", textOfStyle(s), alike, ok, pairs)
	}
	if keys, ok := impl.BlankEntries(s, l); ok != fine || !slices.Equal(keys, blank) {
		t.Fatalf("BlankEntries in %s: %v, %v, not %v", textOfStyle(s), keys, ok, blank)
	}
}

// checkKeysRendered renders entries of a valid library in a valid style.
func checkKeysRendered(t *testing.T, s impl.Style, l impl.Library, keys []string) {
	t.Helper()
	want, fine := [][]impl.Span{}, len(keys) <= 20
	for _, key := range keys {
		place := slices.Index(keysOf(l), key)
		if !fine || place < 0 {
			fine = false
			break
		}
		list, ok := renderingOf(s, l.Entries[place])
		want, fine = append(want, list), ok
	}
	if !fine {
		want = nil
	}
	all, ok := impl.RenderKeys(s, l, keys)
	if ok != fine || !slices.EqualFunc(all, want, slices.Equal) {
		t.Fatalf("RenderKeys of %q in %s: %v, %v, not %v", keys, textOfStyle(s), all, ok, want)
	}
	seen := map[*impl.Span]bool{}
	for _, list := range all {
		for i := range list[:cap(list)] {
			if place := &list[:cap(list)][i]; seen[place] {
				t.Fatalf("RenderKeys of %q in %s: lists share memory", keys, textOfStyle(s))
			} else {
				seen[place] = true
			}
		}
	}
}

// checkNoRendering checks that every function fails for a style, an entry and a library.
func checkNoRendering(t *testing.T, what string, s impl.Style, e impl.Entry, l impl.Library) {
	t.Helper()
	if list, ok := impl.RenderEntry(s, e); ok || len(list) != 0 {
		t.Errorf("%s: RenderEntry: %v, %v", what, list, ok)
	}
	for _, keys := range [][]string{nil, {"a"}, {"lee", "lee"}} {
		if all, ok := impl.RenderKeys(s, l, keys); ok || len(all) != 0 {
			t.Errorf("%s: RenderKeys of %q: %v, %v", what, keys, all, ok)
		}
	}
	if pairs, ok := impl.AlikeEntries(s, l); ok || len(pairs) != 0 {
		t.Errorf("%s: AlikeEntries: %q, %v", what, pairs, ok)
	}
	if keys, ok := impl.BlankEntries(s, l); ok || len(keys) != 0 {
		t.Errorf("%s: BlankEntries: %q, %v", what, keys, ok)
	}
}

func TestLimitsOfRendering(t *testing.T) {
	if impl.MaxSpans != 80 || impl.MaxString != 4000 {
		t.Error("limits", impl.MaxSpans, impl.MaxString)
	}
}

func TestRenderFieldOfNames(t *testing.T) {
	four := []impl.Name{name("Anna", "", "Lee", ""), name("Anna Maria", "van der", "Berg", "Jr"), name("", "de", "Witt", ""), name("Jean-paul B", "", "O'Neil", "")}
	for number, wants := range [][4]string{
		{"", "", "", ""},
		{"A. Lee", "A. Lee", "A. Lee", "A. Lee"},
		{"A. Lee et al.", "A. Lee and A. M. van der Berg", "A. Lee and A. M. van der Berg", "A. Lee and A. M. van der Berg"},
		{"A. Lee et al.", "A. Lee et al.", "A. Lee, A. M. van der Berg and de Witt", "A. Lee, A. M. van der Berg and de Witt"},
		{"A. Lee et al.", "A. Lee et al.", "A. Lee et al.", "A. Lee, A. M. van der Berg, de Witt and J.-P. B. O'Neil"},
	} {
		for i, limit := range allLimits {
			authors, editors := entryWith("lee", impl.KindBook, "editors"), entryWith("lee", impl.KindBook, "authors")
			authors.Authors, editors.Editors = four[:number], four[:number]
			if text, ok := impl.RenderField(authors, limit, "authors"); !ok || text != wants[i] {
				t.Errorf("authors: %q, %v, not %q", text, ok, wants[i])
			}
			if text, ok := impl.RenderField(editors, limit, "editors"); !ok || text != wants[i] {
				t.Errorf("editors: %q, %v, not %q", text, ok, wants[i])
			}
		}
	}
}

func TestRenderFieldOfDatesAndVolumes(t *testing.T) {
	for _, c := range []struct {
		date       impl.Date
		long, year string
	}{
		{impl.Date{}, "", ""}, {year(1999), "1999", "1999"}, {year(7), "7", "7"}, {year(2999), "2999", "2999"}, {circa(1850), "ca. 1850", "ca. 1850"}, {circa(1), "ca. 1", "ca. 1"},
		{month(1999, 5), "May 1999", "1999"}, {day(1999, 5, 3), "3 May 1999", "1999"}, {day(2000, 2, 29), "29 February 2000", "2000"}, {month(45, 12), "December 45", "45"},
	} {
		for _, limit := range allLimits {
			e := entryWith("lee", impl.KindReport)
			e.Date = c.date
			if text, ok := impl.RenderField(e, limit, "date"); !ok || text != c.long {
				t.Errorf("date: %q, %v, not %q", text, ok, c.long)
			}
			if text, ok := impl.RenderField(e, limit, "year"); !ok || text != c.year {
				t.Errorf("year: %q, %v, not %q", text, ok, c.year)
			}
		}
	}
	for volume, want := range map[int]string{0: "", 1: "1", 7: "7", 10: "10", 9999: "9999"} {
		e := entryWith("lee", impl.KindArticle)
		e.Volume = volume
		if text, ok := impl.RenderField(e, 2, "volume"); !ok || text != want {
			t.Errorf("volume: %q, %v, not %q", text, ok, want)
		}
	}
}

func TestRenderEveryField(t *testing.T) {
	wants := map[string]string{
		"authors": "A. M. van der Berg and B. Lee", "editors": "B. Lee et al.", "title": "On rivers: a = b", "container": "Annals, 2nd series",
		"publisher": "Hall", "date": "3 May 1999", "year": "1999", "volume": "7", "pages": "1-9", "key": "lee",
	}
	for _, kind := range allKinds {
		for _, field := range allStyleFields {
			if text, ok := impl.RenderField(fullEntry("lee", kind), 2, field); !ok || text != wants[field] {
				t.Errorf("%s: %q, %v", field, text, ok)
			}
			if text, ok := impl.RenderField(entryWith("lee", kind), 2, field); !ok || text != "" && field != "key" {
				t.Errorf("an empty %s: %q, %v", field, text, ok)
			}
			for _, fields := range subsets(allFields) {
				e := entryWith("lee", kind, fields...)
				if text, ok := impl.RenderField(e, 2, field); !ok || text != renderedField(e, 2, field) {
					t.Errorf("%s: %q, %v", field, text, ok)
				}
			}
		}
	}
}

func TestManyFieldsRendered(t *testing.T) {
	r := rand.New(rand.NewSource(10))
	names, dates := manyNames(), someDates()
	for range 5000 {
		e := randomEntry(r, someKeys[r.Intn(9)], names, dates)
		for _, field := range allStyleFields {
			for _, limit := range allLimits {
				want := renderedField(e, limit, field)
				if text, ok := impl.RenderField(e, limit, field); !ok || text != want {
					t.Fatalf("%s of %v: %q, %v, not %q", field, e, text, ok, want)
				}
			}
		}
	}
}

func TestRenderFieldRefuses(t *testing.T) {
	e := fullEntry("lee", impl.KindBook)
	for _, field := range []string{
		"", " ", "cross", "kind", "names", "author", "titles", "Title", "TITLE", " title", "title ", "title\n", "key\x00", "Key", "entry", "book", "\xff", strings.Join(allStyleFields, " "), strings.Repeat("title", 10000),
	} {
		for _, limit := range []int{1, 4, 0} {
			if text, ok := impl.RenderField(e, limit, field); ok || text != "" {
				t.Errorf("field %.40q: %q, %v", field, text, ok)
			}
		}
	}
	for _, limit := range []int{0, -1, 5, 6, 1 << 32, 1<<32 + 1, math.MinInt, math.MaxInt} {
		for _, field := range allStyleFields {
			for _, one := range []impl.Entry{e, entryWith("lee", impl.KindBook)} {
				if text, ok := impl.RenderField(one, limit, field); ok || text != "" {
					t.Errorf("limit %d, %s: %q, %v", limit, field, text, ok)
				}
			}
		}
	}
	for _, e := range append(invalidEntries(), impl.Entry{}) {
		for _, field := range allStyleFields {
			if text, ok := impl.RenderField(e, 2, field); ok || text != "" {
				t.Errorf("%.300q: %s: %q, %v", fmt.Sprint(e), field, text, ok)
			}
		}
	}
}

// renderingCases are nodes, the fields that a book has, which has the Key lee, and the markup of what
// is rendered in a style with the node.
var renderingCases = []struct{ node, fields, markup string }{
	// Every operation, and blank parts.
	{"title", "title", "On rivers: a = b"}, {"title", "", ""}, {"key", "", "lee"}, {`"x"`, "", "x"}, {`" "`, "", " "}, {"authors", "authors", "A. M. van der Berg and B. Lee"}, {"editors", "editors", "B. Lee et al."},
	{"volume", "", ""}, {"volume", "volume", "7"}, {"date", "", ""}, {"date", "date", "3 May 1999"}, {"year", "", ""}, {"year", "date", "1999"},
	{`(group ", " title year)`, "title date", "On rivers: a = b, 1999"}, {`(if title pages "x")`, "title pages", "1-9"}, {`(if title pages "x")`, "pages", "x"}, {`(if title pages "x")`, "title", ""},
	{`(kind book pages "x")`, "pages", "1-9"}, {`(kind report pages "x")`, "pages", "x"}, {"(first title pages)", "pages", "1-9"}, {"(first title pages)", "title pages", "On rivers: a = b"},
	{`(affix "(" ")" year)`, "date", "(1999)"}, {"(italic pages)", "pages", "_1-9_"}, {"(bold pages)", "pages", "*1-9*"}, {"(italic pages)", "", ""}, {"(bold pages)", "", ""},
	{`(group ", " authors (italic title) (affix "(" ")" year))`, "authors title date", "A. M. van der Berg and B. Lee, _On rivers: a = b_, (1999)"},
	// Groups with blank parts at the beginning, in the middle and at the end, and with an empty Text.
	{`(group "-" title pages volume key)`, "pages volume", "1-9-7-lee"}, {`(group "-" title pages volume key)`, "title volume", "On rivers: a = b-7-lee"}, {`(group "-" pages volume title)`, "pages volume", "1-9-7"},
	{`(group "-" title pages volume)`, "pages", "1-9"}, {`(group "-" title pages volume)`, "volume", "7"}, {`(group "-" title pages volume)`, "", ""}, {`(group "-" title)`, "", ""}, {`(group "-" pages)`, "pages", "1-9"},
	{`(group "" title pages volume)`, "pages volume", "1-97"}, {`(group "" pages title volume)`, "pages volume", "1-97"}, {`(group "" title volume)`, "", ""}, {`(group "*" pages title volume key)`, "pages volume", `1-9\*7\*lee`},
	{`(group ", " (group "-" title pages) volume)`, "volume", "7"}, {`(group ", " volume (group "-" title pages))`, "volume", "7"}, {`(group ", " (group "-" title pages) volume)`, "pages volume", "1-9, 7"},
	{`(group ", " (italic title) (affix "(" ")" pages) (first title pages) volume)`, "volume", "7"}, {`(group ", " (if title title pages) volume)`, "volume", "7"},
	// Groups whose parts are all constant.
	{`(group ", " "x")`, "", "x"}, {`(group ", " "x" "y" "z")`, "", "x, y, z"}, {`(group "" "x" "y")`, "", "xy"}, {`(group ", " (group "-" "x" "y") (italic "z"))`, "", "x-y, _z_"},
	{`(group ", " (first "x" "y") (affix "(" ")" "z") (bold "w"))`, "", "x, (z), *w*"}, {`(italic (group ", " "x" (bold "y")))`, "", "_x, _*_y_*"}, {`(group ", " "x" (group ", " (group ", " "y")))`, "", "x, y"},
	// Groups with constant parts beside others.
	{`(group " " "vol." volume)`, "volume", "vol. 7"}, {`(group " " "vol." volume)`, "", ""}, {`(group " " volume "p." pages)`, "volume", "7 p."}, {`(group " " volume "p." pages)`, "pages", "p. 1-9"}, {`(group " " volume "p." pages)`, "", ""},
	{`(group " " title "x")`, "", ""}, {`(group " " "x" title "y" volume "z")`, "", ""}, {`(group " " "x" title "y" volume "z")`, "volume", "x y 7 z"}, {`(group " " "x" "y" key)`, "", "x y lee"},
	{`(group ", " "x" (group " " "vol." volume))`, "", ""}, {`(group ", " "x" (group " " "vol." volume))`, "volume", "x, vol. 7"}, {`(group ", " (group " " "vol." volume) title "x")`, "title", "On rivers: a = b, x"},
	{`(group ", " (group "-" "x" "y") title)`, "", ""}, {`(group ", " (italic "x") title)`, "", ""}, {`(group ", " (bold "x") title)`, "", ""}, {`(group ", " (affix "(" ")" "x") title)`, "", ""}, {`(group ", " (first "x" "y") title)`, "", ""},
	{`(group ", " (italic title) "x")`, "", ""}, {`(group ", " (bold title) "x")`, "", ""}, {`(group ", " (affix "(" ")" title) "x")`, "", ""}, {`(group ", " (first title pages) "x")`, "", ""},
	// An OpFirst that has a part which is not constant is not constant, whatever part is used.
	{`(group ", " (first "x" title) "y")`, "", "x, y"}, {`(group ", " (first "x" title) "y")`, "title", "x, y"}, {`(group ", " (first title "x") "y")`, "", "x, y"}, {`(group ", " (first "x" title) volume)`, "", "x"},
	{`(group ", " (first "x" "z") "y")`, "", "x, y"}, {`(group ", " (first "x" "z") volume)`, "", ""}, {`(group ", " (first (first "x" title)) volume)`, "", "x"}, {`(group ", " (italic (first title "x")) volume)`, "", "_x_"},
	// An OpIf or OpKind of which one part is constant and the other is not.
	{`(group ", " (if title title "x") "y")`, "", "x, y"}, {`(group ", " (if title title "x") "y")`, "title", "On rivers: a = b, y"}, {`(group ", " (if title title "x") volume)`, "", ""}, {`(group ", " (if title title "x") volume)`, "title", "On rivers: a = b"},
	{`(group ", " (if title "x" title) "y")`, "title", "x, y"}, {`(group ", " (if title "x" title) "y")`, "", ""}, {`(group ", " (if title "x" title) volume)`, "title", ""}, {`(group ", " (if title "x" volume) pages)`, "title pages", "x, 1-9"},
	{`(group ", " (kind book "x" title) "y")`, "", "x, y"}, {`(group ", " (kind book "x" title) "y")`, "title", "x, y"}, {`(group ", " (kind book "x" title) volume)`, "title", ""}, {`(group ", " (kind book title "x") "y")`, "", ""},
	{`(group ", " (kind report "x" title) "y")`, "", ""}, {`(group ", " (kind report "x" title) "y")`, "title", "On rivers: a = b, y"}, {`(group ", " (kind report title "x") "y")`, "", "x, y"}, {`(group ", " (kind report title "x") volume)`, "title", ""},
	{`(group ", " (italic (if title title "x")) "y")`, "", "_x_, y"}, {`(group ", " (group "-" (if title "x" title) (kind book "z" title)) volume)`, "title", ""}, {`(group ", " (if title (if pages "x" pages) title) volume)`, "title pages", ""},
	{`(group ", " (if title (if pages pages "x") title) volume)`, "title", ""}, {`(group ", " (first (if title "x" volume) (kind book "z" volume)) volume)`, "title", ""}, {`(group ", " (if volume volume (first "x" volume)) "y")`, "", "x, y"},
	// The field of an OpIf.
	{`(if volume "x" "y")`, "", "y"}, {`(if volume "x" "y")`, "volume", "x"}, {`(if date "x" "y")`, "", "y"}, {`(if date "x" "y")`, "date", "x"}, {`(if year "x" "y")`, "", "y"}, {`(if year "x" "y")`, "date", "x"}, {`(if key "x" "y")`, "", "x"},
	{`(if authors "x" "y")`, "editors", "y"}, {`(if editors "x" "y")`, "editors", "x"}, {`(if container "x" "y")`, "publisher", "y"}, {`(if publisher "x" "y")`, "publisher", "x"}, {`(if pages "x" "y")`, "", "y"},
	// Affixes around blank parts, and around constant ones.
	{`(affix "(" ")" year)`, "", ""}, {`(affix "" "" year)`, "", ""}, {`(affix "" "" year)`, "date", "1999"}, {`(affix "(" "" year)`, "date", "(1999"}, {`(affix "" ")" year)`, "date", "1999)"}, {`(affix "(" ")" "x")`, "", "(x)"},
	{`(affix "(" ")" (group ", " volume pages))`, "", ""}, {`(affix "(" ")" (group ", " "x" pages))`, "", ""}, {`(affix "(" ")" (first volume pages))`, "", ""}, {`(affix "[" "]" (affix "(" ")" year))`, "", ""}, {`(affix "[" "]" (affix "(" ")" year))`, "date", "[(1999)]"},
	{`(affix "[" "]" (italic year))`, "", ""}, {`(affix "[" "]" (if year title volume))`, "date", ""}, {`(group ", " (affix "(" ")" volume) (affix "(" ")" year))`, "date", "(1999)"},
	// An OpFirst without a part that is not blank, and with parts that are blank in other ways.
	{"(first title)", "", ""}, {"(first title pages volume)", "", ""}, {`(first title "x")`, "", "x"}, {"(first (first title pages) (first volume key))", "", "lee"}, {`(first (group " " "x" title) (affix "(" ")" volume) (italic year) pages)`, "pages", "1-9"},
	{"(first title pages volume)", "volume pages", "1-9"}, {"(first key title)", "title", "lee"}, {`(first (if title title volume) (bold pages))`, "pages", "*1-9*"},
	// Emphasis: within itself, within the other one, and next to each other.
	{"(italic (italic pages))", "pages", "_1-9_"}, {"(bold (bold pages))", "pages", "*1-9*"}, {"(italic (bold pages))", "pages", "*_1-9_*"}, {"(bold (italic pages))", "pages", "*_1-9_*"}, {"(italic (bold (italic pages)))", "pages", "*_1-9_*"},
	{`(bold (group ", " (italic pages) year))`, "pages date", "*_1-9_**, 1999*"}, {`(italic (group ", " year (bold pages)))`, "pages date", "_1999, _*_1-9_*"}, {`(italic (group ", " year (italic pages)))`, "pages date", "_1999, 1-9_"},
	{`(group ", " (italic pages) (italic year))`, "pages date", "_1-9_, _1999_"}, {`(group "" (italic pages) (italic year))`, "pages date", "_1-91999_"}, {`(group "" (italic pages) title (italic year))`, "pages date", "_1-91999_"},
	{`(group "" (italic pages) (bold year))`, "pages date", "_1-9_*1999*"}, {`(group "" (italic pages) (bold (italic year)))`, "pages date", "_1-9_*_1999_*"}, {`(affix "(" ")" (italic year))`, "date", "(_1999_)"}, {`(italic (affix "(" ")" year))`, "date", "_(1999)_"},
	{`(group "" (bold "x") (bold "y"))`, "", "*xy*"}, {`(group "" "x" (italic "y") "z")`, "", "x_y_z"},
	// Marks in pieces.
	{`"*_\"`, "", `\*\_\\`}, {`(italic "_")`, "", `_\__`}, {`(bold "*")`, "", `*\**`}, {`(affix "*" "_" (bold "\"))`, "", `\**\\*\_`},
}

func TestRenderEntry(t *testing.T) {
	for _, c := range renderingCases {
		s := styleOf(t, "2 "+c.node)
		e := entryWith("lee", impl.KindBook, strings.Fields(c.fields)...)
		list, ok := impl.RenderEntry(s, e)
		if markup := markupOf(lettersOfSpans(list)); !ok || markup != c.markup {
			t.Errorf("RenderEntry in %s with %q: %q, %v, not %q", c.node, c.fields, markup, ok, c.markup)
		}
		for _, kind := range allKinds {
			for _, fields := range subsets([]string{"title", "date", "volume", "pages", "authors"}) {
				checkRendered(t, s, entryWith("lee", kind, fields...))
			}
		}
	}
}

func TestRenderedDates(t *testing.T) {
	s := styleOf(t, `2 (group " " "in" year (affix "(" ")" date) (if date "x" "y"))`)
	for _, c := range []struct {
		date   impl.Date
		markup string
	}{
		{impl.Date{}, ""}, {year(7), "in 7 (7) x"}, {year(1999), "in 1999 (1999) x"}, {circa(1850), "in ca. 1850 (ca. 1850) x"}, {month(1999, 5), "in 1999 (May 1999) x"}, {day(1999, 5, 3), "in 1999 (3 May 1999) x"},
	} {
		e := entryWith("lee", impl.KindBook)
		e.Date = c.date
		if list, ok := impl.RenderEntry(s, e); !ok || markupOf(lettersOfSpans(list)) != c.markup {
			t.Errorf("%v: %v, %v", c.date, list, ok)
		}
		checkRendered(t, s, e)
	}
}

func TestNamesOfAStyle(t *testing.T) {
	for i, want := range []string{"B. Lee et al./A. M. van der Berg et al.", "B. Lee et al./A. M. van der Berg and B. Lee", "B. Lee, de Witt and Adams/A. M. van der Berg and B. Lee", "B. Lee, de Witt and Adams/A. M. van der Berg and B. Lee"} {
		s := impl.Style{Names: allLimits[i], Root: groupNode("/", fieldNode("editors"), fieldNode("authors"))}
		e := fullEntry("lee", impl.KindBook)
		list, ok := impl.RenderEntry(s, e)
		checkEqualSpans(t, "editors", list, ok, []impl.Span{{Text: want}}, true)
		checkRendered(t, s, e)
	}
}

func TestKindsRendered(t *testing.T) {
	s := styleOf(t, `1 (kind book "b" (kind article "a" (kind chapter "c" (kind report "r" "none"))))`)
	for i, want := range []string{"b", "a", "c", "r"} {
		list, ok := impl.RenderEntry(s, entryWith("lee", allKinds[i]))
		checkEqualSpans(t, "kinds", list, ok, []impl.Span{{Text: want}}, true)
	}
}

func TestBlankPartsLeaveNoDelimiters(t *testing.T) {
	s := styleOf(t, `4 (group "|" (affix "<" ">" authors) (italic (affix "<" ">" editors)) (bold (group "|" title container publisher)) (group "|" (first date year) (if volume (affix "<" ">" volume) volume)) pages)`)
	for _, fields := range subsets(allFields) {
		var parts []string
		for _, field := range allFields {
			if slices.Contains(fields, field) {
				text := renderedField(fullEntry("lee", impl.KindBook), 4, field)
				if field == "authors" || field == "editors" || field == "volume" {
					text = "<" + text + ">"
				}
				parts = append(parts, text)
			}
		}
		list, ok := impl.RenderEntry(s, entryWith("lee", impl.KindBook, fields...))
		text, fine := impl.PlainText(list)
		if !ok || !fine || text != strings.Join(parts, "|") {
			t.Fatalf("%v: %q, %v, not %q", fields, text, ok, parts)
		}
	}
}

// withField returns a node in which the field key is replaced by another one.
func withField(n impl.Node, field string) impl.Node {
	if n.Word == "key" {
		n.Word = field
	}
	n.Parts = slices.Clone(n.Parts)
	for i, part := range n.Parts {
		n.Parts[i] = withField(part, field)
	}
	return n
}

// smallEntries returns entries of two kinds with and without a title and a volume.
func smallEntries() []impl.Entry {
	var all []impl.Entry
	for _, kind := range []int{impl.KindBook, impl.KindReport} {
		for _, title := range []string{"", `*`} {
			for _, volume := range []int{0, 7} {
				all = append(all, impl.Entry{Key: "lee", Kind: kind, Title: title, Volume: volume})
			}
		}
	}
	return all
}

func TestAllSmallStylesRendered(t *testing.T) {
	for size, nodes := range nodesOfSizes(5) {
		for i, root := range nodes {
			s := styleWith(withField(root, "volume"))
			for j, e := range smallEntries() {
				// Of the many styles with five nodes, every one is rendered for some of the entries.
				if size < 5 || (i+j)%4 == 0 {
					checkRendered(t, s, e)
				}
			}
		}
	}
}

// groupsOfParts returns groups of up to three parts, each of them one of the given ones.
func groupsOfParts(parts []impl.Node) []impl.Node {
	var all []impl.Node
	for _, a := range parts {
		all = append(all, groupNode("-", a))
		for _, b := range parts {
			all = append(all, groupNode("-", a, b))
			for _, c := range parts {
				all = append(all, groupNode("-", a, b, c))
			}
		}
	}
	return all
}

func TestAllSmallGroups(t *testing.T) {
	title, volume, x, y := fieldNode("title"), fieldNode("volume"), textNode("x"), textNode("y")
	parts := []impl.Node{
		title, volume, x, firstNode(title, x), firstNode(x, y), ifNode("title", x, volume), ifNode("volume", title, y), kindNode("book", x, title), affixNode("(", ")", title),
		affixNode("(", "", x), italicNode(volume), boldNode(x), groupNode("", x, y), groupNode("", title, y), firstNode(title, volume), italicNode(firstNode(x, title)),
	}
	for _, root := range groupsOfParts(parts) {
		for _, e := range smallEntries() {
			checkRendered(t, styleWith(root), e)
			checkRendered(t, styleWith(groupNode("|", y, root)), e)
		}
	}
}

func TestManyEntriesRendered(t *testing.T) {
	r := rand.New(rand.NewSource(101))
	names, dates := manyNames(), someDates()
	spans := 0
	for range 20000 {
		s, e := randomStyle(r), randomEntry(r, someKeys[r.Intn(9)], names, dates)
		checkRendered(t, s, e)
		list, _ := impl.RenderEntry(s, e)
		spans = max(spans, len(list))
	}
	if spans < 5 {
		t.Error("spans", spans)
	}
}

func TestRenderKeys(t *testing.T) {
	l := libraryOf("a", "b", "c")
	l.Entries[1].Volume = 0
	s := styleOf(t, `2 (group " " "vol." (bold volume))`)
	seven, none := []impl.Span{{Text: "vol. "}, {Text: "7", Bold: true}}, []impl.Span{}
	for _, c := range []struct {
		keys string
		want [][]impl.Span
	}{
		{"", nil}, {"a", [][]impl.Span{seven}}, {"b", [][]impl.Span{none}}, {"a b", [][]impl.Span{seven, none}}, {"b a", [][]impl.Span{none, seven}}, {"a a", [][]impl.Span{seven, seven}}, {"c b c", [][]impl.Span{seven, none, seven}},
	} {
		all, ok := impl.RenderKeys(s, l, strings.Fields(c.keys))
		if !ok || !slices.EqualFunc(all, c.want, slices.Equal) {
			t.Errorf("RenderKeys of %q: %v, %v", c.keys, all, ok)
		}
		checkKeysRendered(t, s, l, strings.Fields(c.keys))
	}
	for number := range 25 {
		checkKeysRendered(t, s, l, slices.Repeat([]string{"a"}, number))
		checkKeysRendered(t, s, l, slices.Repeat([]string{"a", "c"}, 12)[:number])
	}
	for _, key := range append(invalidKeys(), "", "d", "aa", "A", "other") {
		for _, keys := range [][]string{{key}, {"a", key}, {key, "a"}, {"a", key, "b"}, {key, key}} {
			if all, ok := impl.RenderKeys(s, l, keys); ok || len(all) != 0 {
				t.Errorf("RenderKeys of %.40q: %v, %v", keys, all, ok)
			}
		}
	}
	checkKeysRendered(t, s, impl.Library{}, nil)
	checkKeysRendered(t, s, impl.Library{}, []string{"a"})
	if all, ok := impl.RenderKeys(s, l, make([]string, 1000000)); ok || len(all) != 0 {
		t.Errorf("RenderKeys of very many keys: %v, %v", all, ok)
	}
}

func TestAlikeAndBlankEntries(t *testing.T) {
	l := impl.Library{}
	for i, volume := range []int{7, 0, 8, 7, 0, 7, 0} {
		e := entryWith(someKeys[i], allKinds[i%4], "title")
		e.Volume = volume
		l.Entries = append(l.Entries, e)
	}
	for _, c := range []struct{ text, alike, blank string }{
		{"1 volume", "a-aa a-b a0-ab a0-b9 aa-b ab-b9", "a0 ab b9"}, {"1 key", "", ""}, {`1 (group ", " key title)`, "", ""}, {"1 year", "a-a0 a-a1b a-aa a-ab a-b a-b9 a0-a1b a0-aa a0-ab a0-b a0-b9 a1b-aa a1b-ab a1b-b a1b-b9 aa-ab aa-b aa-b9 ab-b ab-b9 b-b9", "a a0 a1b aa ab b b9"},
		{`1 (group " " "vol." volume)`, "a-aa a-b a0-ab a0-b9 aa-b ab-b9", "a0 ab b9"}, {`1 (if volume (kind book (bold "x") (italic "x")) key)`, "a-a1b a-aa a-b a1b-aa a1b-b aa-b", ""},
		{"1 (kind article title volume)", "a-aa a0-b ab-b9", "ab b9"},
	} {
		s := styleOf(t, c.text)
		checkLibraryRendered(t, s, l)
		var pairs []string
		alike, ok := impl.AlikeEntries(s, l)
		for _, pair := range alike {
			pairs = append(pairs, pair[0]+"-"+pair[1])
		}
		if !ok || strings.Join(pairs, " ") != c.alike {
			t.Errorf("AlikeEntries in %s: %v, %v", c.text, alike, ok)
		}
		if keys, ok := impl.BlankEntries(s, l); !ok || strings.Join(keys, " ") != c.blank {
			t.Errorf("BlankEntries in %s: %v, %v", c.text, keys, ok)
		}
	}
	for _, text := range []string{"1 title", `1 "x"`, "4 (first year key)"} {
		checkLibraryRendered(t, styleOf(t, text), impl.Library{})
		checkLibraryRendered(t, styleOf(t, text), libraryOf("a"))
		checkLibraryRendered(t, styleOf(t, text), libraryOf(someKeys[:8]...))
	}
}

func TestManyLibrariesRendered(t *testing.T) {
	r := rand.New(rand.NewSource(102))
	names, dates := manyNames(), someDates()
	alike, blank := 0, 0
	for i := range 5000 {
		l := impl.Library{}
		for _, key := range someKeys[:8] {
			switch {
			case r.Intn(4) == 0:
			case i%2 == 0:
				l.Entries = append(l.Entries, closeEntry(r, key))
			default:
				l.Entries = append(l.Entries, randomEntry(r, key, names, dates))
			}
		}
		s := randomStyle(r)
		checkLibraryRendered(t, s, l)
		keys := []string{}
		for range r.Intn(1 + r.Intn(22)) {
			keys = append(keys, someKeys[r.Intn(9)])
		}
		checkKeysRendered(t, s, l, keys)
		if known := keysOf(l); len(known) > 0 {
			checkKeysRendered(t, s, l, slices.Repeat(known, 2))
		}
		pairs, _ := impl.AlikeEntries(s, l)
		none, _ := impl.BlankEntries(s, l)
		alike, blank = alike+len(pairs), blank+len(none)
	}
	if alike < 1000 || blank < 1000 {
		t.Error("alike and blank entries", alike, blank)
	}
}

func TestInvalidStylesAreNotRendered(t *testing.T) {
	good, l := fullEntry("lee", impl.KindBook), libraryOf("a", "lee")
	for _, s := range []impl.Style{
		{}, {Names: 0, Root: fieldNode("title")}, {Names: 5, Root: fieldNode("title")}, {Names: -1, Root: fieldNode("title")}, styleWith(fieldNode("cross")), styleWith(fieldNode("")), styleWith(textNode("")), styleWith(textNode("thirteen byte")),
		styleWith(textNode(`"`)), styleWith(textNode("\n")), styleWith(groupNode(", ")), styleWith(groupNode(", ", titleParts(7)...)), styleWith(ifNode("title", titleParts(1)...)), styleWith(ifNode("title", titleParts(3)...)),
		styleWith(kindNode("title", titleParts(2)...)), styleWith(firstNode()), styleWith(impl.Node{Op: impl.OpAffix}), styleWith(impl.Node{Op: impl.OpItalic}), styleWith(impl.Node{Op: 10, Parts: titleParts(1)}),
		styleWith(ifNode("title", fieldNode("title"), fieldNode("none"))), styleWith(kindNode("book", fieldNode("title"), textNode(""))), styleWith(firstNode(fieldNode("title"), impl.Node{})),
		styleWith(italicNode(italicNode(italicNode(italicNode(italicNode(fieldNode("title"))))))), styleWith(groupNode("", slices.Repeat([]impl.Node{groupNode("", titleParts(5)...)}, 5)...)),
	} {
		checkNoRendering(t, textOfStyle(s), s, good, l)
		checkNoRendering(t, textOfStyle(s), s, good, impl.Library{})
	}
	for _, op := range allOps {
		n := validNode(op)
		n.Parts = titleParts(max(1, partNumbers[op][0]))
		for i := range n.Parts {
			n.Parts[i] = n
		}
		checkNoRendering(t, fmt.Sprint("operation ", op, " in itself"), styleWith(n), good, l)
	}
	r := rand.New(rand.NewSource(103))
	invalid := 0
	for range 5000 {
		s := randomStyle(r)
		s.Root = damagedNode(r, s.Root)
		if isStyle(s) {
			checkRendered(t, s, good)
		} else {
			invalid++
			checkNoRendering(t, fmt.Sprint(s), s, good, l)
		}
	}
	if invalid < 1000 {
		t.Error("invalid styles", invalid)
	}
}

func TestInvalidEntriesAreNotRendered(t *testing.T) {
	for _, s := range []impl.Style{styleOf(t, "1 title"), styleOf(t, `2 "x"`)} {
		for _, e := range append(invalidEntries(), impl.Entry{}) {
			checkNoRendering(t, fmt.Sprintf("%.200q", fmt.Sprint(e)), s, e, impl.Library{Entries: []impl.Entry{e}})
		}
		for _, l := range invalidLibraries() {
			checkNoRendering(t, fmt.Sprintf("%.200q", fmt.Sprint(l)), s, impl.Entry{}, l)
			for _, e := range l.Entries[:min(3, len(l.Entries))] {
				if all, ok := impl.RenderKeys(s, l, []string{e.Key}); ok || len(all) != 0 {
					t.Errorf("RenderKeys of %.40q: %v, %v", e.Key, all, ok)
				}
			}
		}
	}
}

// longEntry returns an entry whose authors, all four of them, are rendered with 160 bytes.
func longEntry(key string) impl.Entry {
	e := entryWith(key, impl.KindBook)
	e.Authors = slices.Repeat([]impl.Name{name("", "abcdefghijkl abcdefghijkl", "Abcdefghijkl", "")}, 4)
	e.Authors[2].Family = "Abcdefghijk"
	return e
}

// longRoot returns a node of 29 nodes that renders longEntry with 4000 bytes, with something around
// the first field.
func longRoot(around func(n impl.Node) impl.Node) impl.Node {
	six := slices.Repeat([]impl.Node{fieldNode("authors")}, 6)
	changed := append([]impl.Node{around(six[0])}, six[1:]...)
	other := groupNode("8 bytes.", six...)
	return groupNode("", groupNode("8 bytes.", changed...), other, other, other)
}

func TestMostBytesRendered(t *testing.T) {
	e := longEntry("a")
	same := func(n impl.Node) impl.Node { return n }
	more := func(n impl.Node) impl.Node { return affixNode("", "x", n) }
	for _, c := range []struct {
		around func(n impl.Node) impl.Node
		length int
		spans  int
	}{
		{same, 4000, 1}, {boldNode, 4000, 2}, {italicNode, 4000, 2}, {func(n impl.Node) impl.Node { return firstNode(n) }, 4000, 1}, {func(n impl.Node) impl.Node { return affixNode("", "", n) }, 4000, 1},
		{more, 4001, 0}, {func(n impl.Node) impl.Node { return affixNode("twelve bytes", "twelve bytes", n) }, 4024, 0}, {func(impl.Node) impl.Node { return fieldNode("title") }, 3832, 1},
	} {
		s := impl.Style{Names: 4, Root: longRoot(c.around)}
		if length := len(lettersOf(s.Root, e, 4)); !isStyle(s) || length != c.length {
			t.Fatal("length", length, c.length)
		}
		list, ok := impl.RenderEntry(s, e)
		if ok != (c.length <= 4000) || len(list) != c.spans {
			t.Errorf("%d bytes: %d spans, %v", c.length, len(list), ok)
		}
		checkRendered(t, s, e)
		short := entryWith("b", impl.KindBook, "authors")
		for _, l := range []impl.Library{{Entries: []impl.Entry{e}}, {Entries: []impl.Entry{e, short}}, {Entries: []impl.Entry{e, entryWith("b", impl.KindBook), longEntry("c")}}, {Entries: []impl.Entry{short}}} {
			checkLibraryRendered(t, s, l)
			for _, keys := range [][]string{{"a"}, {"b"}, {"a", "b"}, {"b", "a"}, {"b", "b"}, nil} {
				checkKeysRendered(t, s, l, keys)
			}
		}
	}
}

func TestOnlyWhatIsUsedCounts(t *testing.T) {
	e := entryWith("lee", impl.KindBook)
	e.Authors = slices.Repeat([]impl.Name{name("Ab-c-d-e-f-g Ab-c-d-e-f-g Ab-c-d-e-f-g", "abcdefghijkl abcdefghijkl", "Abcdefghijkl", "Abcdefghijkl")}, 4)
	if text, ok := impl.RenderField(e, 4, "authors"); !ok || text != renderedField(e, 4, "authors") || len(text) != 377 {
		t.Fatalf("RenderField: %d bytes, %v", len(text), ok)
	}
	six := groupNode("", slices.Repeat([]impl.Node{fieldNode("authors")}, 6)...)
	big, key, volume := groupNode("", six, six), fieldNode("key"), fieldNode("volume")
	for _, c := range []struct {
		root impl.Node
		fits bool
	}{
		{six, true}, {big, false}, {firstNode(key, big), true}, {firstNode(volume, big), false}, {ifNode("key", key, big), true}, {ifNode("volume", key, big), false},
		{kindNode("report", big, key), true}, {kindNode("book", big, key), false}, {groupNode("-", volume, firstNode(key, big)), true}, {boldNode(affixNode("(", ")", big)), false},
	} {
		s := impl.Style{Names: 4, Root: c.root}
		list, ok := impl.RenderEntry(s, e)
		if ok != c.fits || len(list) > 0 != c.fits {
			t.Errorf("%s: %d spans, %v", textOfStyle(s), len(list), ok)
		}
		checkRendered(t, s, e)
		checkRendered(t, impl.Style{Names: 1, Root: c.root}, e)
		checkLibraryRendered(t, s, impl.Library{Entries: []impl.Entry{e}})
	}
}

func TestAllShortListsOfSpans(t *testing.T) {
	var spans []impl.Span
	for _, text := range []string{"", "a", `*_`, `\`} {
		for set := range 4 {
			spans = append(spans, impl.Span{Text: text, Italic: set&1 > 0, Bold: set&2 > 0})
		}
	}
	checkSpans(t, nil)
	checkSpans(t, []impl.Span{})
	lists := [][]impl.Span{nil}
	for range 4 {
		var longer [][]impl.Span
		for _, list := range lists {
			for _, span := range spans {
				longer = append(longer, append(slices.Clone(list), span))
			}
		}
		for _, list := range longer {
			checkSpans(t, list)
		}
		lists = longer
	}
}

func TestSpansWithAnEmptyTextBetweenSpansThatAgree(t *testing.T) {
	for _, c := range []struct {
		list []impl.Span
		want string
	}{
		{[]impl.Span{{Text: "a"}, {Text: "", Bold: true}, {Text: "b"}}, "ab"}, {[]impl.Span{{Text: "a", Italic: true}, {Text: ""}, {Text: "b", Italic: true}}, "_ab_"}, {[]impl.Span{{Text: ""}, {Text: "", Italic: true}}, ""},
		{[]impl.Span{{Text: "a", Bold: true}, {}, {}, {Text: "b", Bold: true}, {Text: "c", Italic: true, Bold: true}}, "*ab**_c_*"}, {[]impl.Span{{}, {Text: "a"}, {}}, "a"}, {[]impl.Span{{Text: "a"}, {Text: "b", Bold: true}, {Text: "c"}}, "a*b*c"},
		{[]impl.Span{{Text: "a b", Italic: true, Bold: true}, {Text: " ", Italic: true}, {Text: `\`}}, `*_a b_*_ _\\`}, {[]impl.Span{{Text: "a_b", Italic: true}, {Text: "*"}, {Text: "*", Bold: true}}, `_a\_b_\**\**`},
	} {
		checkSpans(t, c.list)
		if markup, ok := impl.FormatSpans(c.list); !ok || markup != c.want {
			t.Errorf("FormatSpans(%v) = %q, %v", c.list, markup, ok)
		}
	}
}

func TestEveryByteOfASpan(t *testing.T) {
	for c := range 256 {
		b := string([]byte{byte(c)})
		for _, text := range []string{b, "a" + b, b + "a", b + b, strings.Repeat(b, 4000)} {
			for _, list := range [][]impl.Span{{{Text: text, Bold: true}}, {{Text: text}}, {{Text: "x"}, {Text: text, Italic: true}}, {{Text: text, Italic: true, Bold: true}, {Text: ""}}} {
				if isSpans(list) {
					checkSpans(t, list)
				} else {
					checkNoSpans(t, fmt.Sprintf("byte %d", c), list)
				}
				checkMarkup(t, markupOf(lettersOfSpans(list)))
			}
		}
	}
}

func TestNumbersOfSpans(t *testing.T) {
	kinds := []impl.Span{{Text: "a"}, {Text: "*", Bold: true}, {Text: "b", Italic: true}, {Text: "_", Italic: true, Bold: true}, {Text: ""}}
	for number := range 90 {
		for kind := range kinds {
			same := slices.Repeat(kinds[kind:kind+1], number)
			turns := slices.Repeat(kinds, number+1)[kind : kind+number]
			for _, list := range [][]impl.Span{same, turns} {
				if number <= 80 {
					checkSpans(t, list)
				} else {
					checkNoSpans(t, fmt.Sprint(number, " spans"), list)
				}
			}
		}
		// A markup does not have the empty ones.
		list := slices.Repeat(kinds[:4], number)[:number]
		checkMarkup(t, markupOf(lettersOfSpans(list)))
		if back, ok := impl.ParseSpans(markupOf(lettersOfSpans(list))); ok != (number <= 80) || ok && len(back) != number {
			t.Errorf("%d spans: %d, %v", number, len(back), ok)
		}
	}
	checkNoSpans(t, "very many spans", make([]impl.Span, 1000000))
}

func TestBytesOfSpans(t *testing.T) {
	for _, c := range []string{"a", "*", "_", `\`, " ", "~"} {
		for _, length := range []int{3999, 4000, 4001, 5000, 100000} {
			text := strings.Repeat(c, length)
			for _, list := range [][]impl.Span{
				{{Text: text}}, {{Text: text, Italic: true, Bold: true}}, {{Text: text[:2000]}, {Text: text[2000:], Bold: true}}, {{Text: text[:1]}, {}, {Text: text[1:]}}, {{}, {Text: text, Italic: true}, {}}, {{Text: text[:length-1], Bold: true}, {Text: text[:1], Italic: true}},
			} {
				if length <= 4000 {
					checkSpans(t, list)
				} else {
					checkNoSpans(t, fmt.Sprint(length, " bytes"), list)
				}
				checkMarkup(t, markupOf(lettersOfSpans(list)))
			}
		}
	}
	// The longest markup.
	list := []impl.Span{}
	for i := range 80 {
		list = append(list, impl.Span{Text: strings.Repeat("*", 50), Italic: true, Bold: i%2 == 0})
	}
	checkSpans(t, list)
	if markup, ok := impl.FormatSpans(list); !ok || len(markup) != 8000+40*4+40*2 {
		t.Errorf("FormatSpans: %d bytes, %v", len(markup), ok)
	}
	long := strings.Repeat("a", 1<<20)
	checkNoSpans(t, "very long texts", slices.Repeat([]impl.Span{{Text: long}}, 80))
}

func TestParseSpansRefusesOtherMarkup(t *testing.T) {
	for _, s := range []string{
		"*", "_", `\`, "**", "__", "*_", "_*", "*_*", "_*_", "*__*", "_**_", "***", "___", "*_a", "*a", "_a", "a*", "a_", "*a_", "_a*", "*_a*", "*_a_", "*_a*_", "_*a_*", "_*a*_", "*a*_", "_a_*", "*a", "a*b", "a_b", "a*b_c",
		// Backslashes at the end and before other bytes.
		`a\`, `\a`, `\ `, `\\\`, `_a\_`, `*a\*`, `_\_`, `*\*`, `_a_\`, `\\a\`, `a\ b`, `a\b`, `\"`, `\\\a`, `*_a\_*`, `*_a_\*`,
		// Empty spans, and neighboring spans that agree.
		"a__b", "a**b", "a*__*b", "__a", "a__", "**a**", "__a__", "_a__b_", "*a**b*", "*_a_**_b_*", "_a____b_", "_a__b__c_", "a_b__c_d", "*_a__b_*",
		// Other bytes.
		"\n", "a\nb", "_a\t_", "\x00", "\x1f", "\x7f", "*\x7f*", "\x80", "\xff", "\u00e9", "_\u00e9_", "\\\u00e9", "\\\x00",
	} {
		if list, ok := impl.ParseSpans(s); ok || len(list) != 0 {
			t.Errorf("ParseSpans(%q) = %v, %v", s, list, ok)
		}
		checkMarkup(t, s)
	}
}

func TestAllShortMarkup(t *testing.T) {
	for _, s := range stringsOver(`*_\a`, 9) {
		checkMarkup(t, s)
	}
	for _, s := range sequences([]string{"a", "*", "_", "*_", "_*", `\`, `\*`, `\_`}, 5) {
		checkMarkup(t, s)
		checkMarkup(t, "*_b_*"+s+"_c_")
	}
}

func TestMarkupNextToMarkup(t *testing.T) {
	for _, s := range []string{"a", "_a_", "*a*", "*_a_*", `a\*b`, `_a\__*b*c`, `*_a_*_b_*c*d`, `*\\*_\__`, "A. Lee, _On rivers_, (1999)", `*_\*\__*`} {
		list, ok := spansIn(s)
		if !ok {
			t.Fatal("no markup", s)
		}
		checkSpans(t, list)
		for _, near := range nearTexts(s) {
			checkMarkup(t, near)
		}
	}
}

func TestManyListsOfSpans(t *testing.T) {
	r := rand.New(rand.NewSource(104))
	for range 20000 {
		list := []impl.Span{}
		for range r.Intn(1 + r.Intn(12)) {
			text := ""
			for range r.Intn(6) {
				text += []string{"*", "_", `\`, "a", string(rune(32 + r.Intn(95)))}[r.Intn(5)]
			}
			list = append(list, impl.Span{Text: text, Italic: r.Intn(2) == 0, Bold: r.Intn(2) == 0})
		}
		checkSpans(t, list)
		markup := markupOf(lettersOfSpans(list))
		from := r.Intn(len(markup) + 1)
		to := min(len(markup), from+r.Intn(3))
		checkMarkup(t, markup[:from]+[]string{"", "*", "_", `\`, "a", "*_", "_*", "\n"}[r.Intn(8)]+markup[to:])
	}
}

func TestVeryLongMarkup(t *testing.T) {
	for _, s := range []string{"a", "*", "_", `\`, `\\`, `\*`, "_a_*b*", "_a_", "*_", "a*", `a\`} {
		for _, length := range []int{4000, 8000, 8001, 8320, 200000} {
			checkMarkup(t, strings.Repeat(s, length/len(s)))
			checkMarkup(t, "*"+strings.Repeat(s, length/len(s))+"*")
		}
	}
}

// roomySpans returns a list that is equal to the given one, behind which there are others.
func roomySpans(list []impl.Span) []impl.Span {
	return append(slices.Clone(list), impl.Span{Text: "\x00"}, impl.Span{Text: "behind"}, impl.Span{Text: strings.Repeat("x", 5000)})[:len(list)]
}

func TestSpansKeepTheirArguments(t *testing.T) {
	for _, list := range [][]impl.Span{
		nil, {{Text: "a"}}, {{Text: "a"}, {Text: "b"}}, {{Text: "a"}, {Text: ""}, {Text: "b", Bold: true}}, {{Text: ""}, {Text: "a", Italic: true}, {Text: "b", Italic: true}, {Text: "c"}}, slices.Repeat([]impl.Span{{Text: "a"}, {Text: "b", Bold: true}}, 40),
	} {
		roomy := roomySpans(list)
		before := slices.Clone(roomy[:cap(roomy)])
		checkSpans(t, roomy)
		normal, _ := impl.NormalizeSpans(roomy)
		for i := range normal[:cap(normal)] {
			normal[:cap(normal)][i] = impl.Span{Text: "spoilt"}
		}
		if !slices.Equal(roomy[:cap(roomy)], before) {
			t.Errorf("%v has become %v", before, roomy[:cap(roomy)])
		}
		checkSpans(t, roomy)
	}
}

func TestRenderingKeepsItsArguments(t *testing.T) {
	s := styleOf(t, `2 (group ", " (italic (bold authors)) (first title volume) (if date (kind book editors "x") key) (affix "(" ")" "y"))`)
	s.Root = roomyNode(s.Root)
	l := sharingLibrary()
	before, node := whole(l), wholeNode(s.Root)
	keys := append(make([]string, 0, 8), "b", "f", "b", "gone")[:3]
	for _, e := range l.Entries {
		checkRendered(t, s, e)
		first, _ := impl.RenderEntry(s, e)
		for i := range first[:cap(first)] {
			first[:cap(first)][i] = impl.Span{Text: "spoilt"}
		}
		checkRendered(t, s, e)
	}
	checkLibraryRendered(t, s, l)
	checkKeysRendered(t, s, l, keys)
	all, _ := impl.RenderKeys(s, l, keys)
	for i := range all[0][:cap(all[0])] {
		all[0][:cap(all[0])][i] = impl.Span{Text: "spoilt"}
	}
	if want, _ := renderingOf(s, l.Entries[0]); !slices.Equal(all[2], want) {
		t.Errorf("RenderKeys: %v", all)
	}
	checkKeysRendered(t, s, l, keys)
	if whole(l) != before || wholeNode(s.Root) != node || !slices.Equal(keys[:4], []string{"b", "f", "b", "gone"}) {
		t.Error("an argument has changed", l, s, keys)
	}
}

func TestListsOfRenderedKeysAreNew(t *testing.T) {
	s, l := styleOf(t, "1 volume"), libraryOf("a", "b", "c")
	l.Entries[0].Volume, l.Entries[2].Volume = 0, 0
	pairs, _ := impl.AlikeEntries(s, l)
	keys, _ := impl.BlankEntries(s, l)
	for i := range pairs {
		pairs[i][0] = "spoilt"
	}
	for i := range keys {
		keys[i] = "spoilt"
	}
	checkLibraryRendered(t, s, l)
	if pairs, ok := impl.AlikeEntries(s, l); !ok || len(pairs) != 1 || pairs[0] != [2]string{"a", "c"} {
		t.Errorf("AlikeEntries: %v, %v", pairs, ok)
	}
}
