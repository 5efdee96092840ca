package tests

import (
	"fmt"
	"math"
	"math/rand"
	"regexp"
	"slices"
	"strings"
	"testing"

	"loop.example/g00896/impl"
)

var allOps = []int{
	impl.OpField, impl.OpText, impl.OpGroup, impl.OpIf, impl.OpKind, impl.OpFirst, impl.OpAffix, impl.OpItalic, impl.OpBold,
}

var allStyleFields = []string{
	"authors", "container", "date", "editors", "key", "pages", "publisher", "title", "volume", "year",
}

const piecePattern = `"([ !#-~]{0,12})"`

var styleFieldPattern = regexp.MustCompile(`\b(?:` + strings.Join(allStyleFields, "|") + `)\b`)

// headPatterns are what the text of a node of each operation begins with; they have groups for
// Word, Text and After.
var headPatterns = [10]*regexp.Regexp{
	impl.OpField:  regexp.MustCompile(`\A(` + strings.Join(allStyleFields, "|") + `)()()`),
	impl.OpText:   regexp.MustCompile(`\A()"([ !#-~]{1,12})"()`),
	impl.OpGroup:  regexp.MustCompile(`\A\(group() ` + piecePattern + `()`),
	impl.OpIf:     regexp.MustCompile(`\A\(if (` + strings.Join(allStyleFields, "|") + `)()()`),
	impl.OpKind:   regexp.MustCompile(`\A\(kind (book|article|chapter|report)()()`),
	impl.OpFirst:  regexp.MustCompile(`\A\(first()()()`),
	impl.OpAffix:  regexp.MustCompile(`\A\(affix() ` + piecePattern + ` ` + piecePattern),
	impl.OpItalic: regexp.MustCompile(`\A\(italic()()()`),
	impl.OpBold:   regexp.MustCompile(`\A\(bold()()()`),
}

// partNumbers are the least and the greatest number of Parts for each operation.
var partNumbers = [10][2]int{
	impl.OpGroup: {1, 6}, impl.OpIf: {2, 2}, impl.OpKind: {2, 2}, impl.OpFirst: {1, 6}, impl.OpAffix: {1, 1}, impl.OpItalic: {1, 1}, impl.OpBold: {1, 1},
}

func fieldNode(word string) impl.Node { return impl.Node{Op: impl.OpField, Word: word} }

func textNode(text string) impl.Node { return impl.Node{Op: impl.OpText, Text: text} }

func groupNode(text string, parts ...impl.Node) impl.Node {
	return impl.Node{Op: impl.OpGroup, Text: text, Parts: parts}
}

func ifNode(word string, parts ...impl.Node) impl.Node {
	return impl.Node{Op: impl.OpIf, Word: word, Parts: parts}
}

func kindNode(word string, parts ...impl.Node) impl.Node {
	return impl.Node{Op: impl.OpKind, Word: word, Parts: parts}
}

func firstNode(parts ...impl.Node) impl.Node { return impl.Node{Op: impl.OpFirst, Parts: parts} }

func affixNode(text, after string, part impl.Node) impl.Node {
	return impl.Node{Op: impl.OpAffix, Text: text, After: after, Parts: []impl.Node{part}}
}

func italicNode(part impl.Node) impl.Node {
	return impl.Node{Op: impl.OpItalic, Parts: []impl.Node{part}}
}

func boldNode(part impl.Node) impl.Node {
	return impl.Node{Op: impl.OpBold, Parts: []impl.Node{part}}
}

func styleWith(root impl.Node) impl.Style { return impl.Style{Names: 2, Root: root} }

func sameNode(a, b impl.Node) bool {
	return a.Op == b.Op && a.Word == b.Word && a.Text == b.Text && a.After == b.After && slices.EqualFunc(a.Parts, b.Parts, sameNode)
}

func sameStyle(a, b impl.Style) bool { return a.Names == b.Names && sameNode(a.Root, b.Root) }

// textOfNode writes the text of a node, whatever the program does. What a valid node of its
// operation does not have is left out.
func textOfNode(n impl.Node) string {
	parts := ""
	for _, part := range n.Parts {
		parts += " " + textOfNode(part)
	}
	switch n.Op {
	case impl.OpField:
		return n.Word
	case impl.OpText:
		return `"` + n.Text + `"`
	case impl.OpGroup:
		return `(group "` + n.Text + `"` + parts + ")"
	case impl.OpIf:
		return "(if " + n.Word + parts + ")"
	case impl.OpKind:
		return "(kind " + n.Word + parts + ")"
	case impl.OpFirst:
		return "(first" + parts + ")"
	case impl.OpAffix:
		return `(affix "` + n.Text + `" "` + n.After + `"` + parts + ")"
	case impl.OpItalic:
		return "(italic" + parts + ")"
	case impl.OpBold:
		return "(bold" + parts + ")"
	}
	return "?"
}

func textOfStyle(s impl.Style) string { return fmt.Sprintf("%d %s", s.Names, textOfNode(s.Root)) }

// nodeIn reads the node that a text begins with by the patterns, and what is behind it, whatever
// the program does.
func nodeIn(s string) (impl.Node, string, bool) {
	for _, op := range allOps {
		found := headPatterns[op].FindStringSubmatch(s)
		if found == nil {
			continue
		}
		n := impl.Node{Op: op, Word: found[1], Text: found[2], After: found[3]}
		rest := s[len(found[0]):]
		if partNumbers[op][1] == 0 {
			return n, rest, true
		}
		for strings.HasPrefix(rest, " ") {
			part, behind, ok := nodeIn(rest[1:])
			if !ok {
				return impl.Node{}, "", false
			}
			n.Parts = append(n.Parts, part)
			rest = behind
		}
		behind, closed := strings.CutPrefix(rest, ")")
		return n, behind, closed && len(n.Parts) >= partNumbers[op][0] && len(n.Parts) <= partNumbers[op][1]
	}
	return impl.Node{}, "", false
}

// styleIn reads the text of a style by the patterns, whatever the program does.
func styleIn(s string) (impl.Style, bool) {
	if len(s) < 2 || len(s) > 4000 || s[0] < '1' || s[0] > '4' || s[1] != ' ' {
		return impl.Style{}, false
	}
	root, rest, ok := nodeIn(s[2:])
	if !ok || rest != "" || nodesIn(root) > 30 || depthOf(root) > 5 {
		return impl.Style{}, false
	}
	return impl.Style{Names: int(s[0] - '0'), Root: root}, true
}

// styleOf reads a text that has to be that of a style.
func styleOf(t *testing.T, s string) impl.Style {
	t.Helper()
	style, ok := styleIn(s)
	if !ok {
		t.Fatal("no style", s)
	}
	return style
}

// isStyle reports whether a style is valid: only then its text has everything that is in it.
func isStyle(s impl.Style) bool {
	again, ok := styleIn(textOfStyle(s))
	return ok && sameStyle(again, s)
}

func nodesIn(n impl.Node) int {
	count := 1
	for _, part := range n.Parts {
		count += nodesIn(part)
	}
	return count
}

func depthOf(n impl.Node) int {
	depth := 0
	for _, part := range n.Parts {
		depth = max(depth, depthOf(part))
	}
	return depth + 1
}

// outsideQuotes changes those parts of the text of a style that are not in quotation marks.
func outsideQuotes(text string, change func(string) string) string {
	parts := strings.Split(text, `"`)
	for i := 0; i < len(parts); i += 2 {
		parts[i] = change(parts[i])
	}
	return strings.Join(parts, `"`)
}

// fieldsOfText finds the style fields in the text of a style, whatever the program does.
func fieldsOfText(text string) []string {
	fields := []string{}
	outsideQuotes(text, func(s string) string {
		fields = append(fields, styleFieldPattern.FindAllString(s, -1)...)
		return s
	})
	slices.Sort(fields)
	return slices.Compact(fields)
}

// replacedText replaces a style field in the text of a style, whatever the program does.
func replacedText(text, old, field string) string {
	return outsideQuotes(text, func(s string) string {
		return styleFieldPattern.ReplaceAllStringFunc(s, func(word string) string {
			if word == old {
				return field
			}
			return word
		})
	})
}

// rewriteOnce replaces one node to which a rule of SimplifyStyle applies by its first part, an
// outer one before inner ones; it fails if there is none.
func rewriteOnce(n impl.Node) (impl.Node, bool) {
	switch {
	case n.Op == impl.OpFirst && len(n.Parts) == 1,
		n.Op == impl.OpAffix && n.Text+n.After == "",
		n.Op == impl.OpItalic && n.Parts[0].Op == impl.OpItalic,
		n.Op == impl.OpBold && n.Parts[0].Op == impl.OpBold,
		n.Op == impl.OpIf && textOfNode(n.Parts[0]) == textOfNode(n.Parts[1]),
		n.Op == impl.OpKind && textOfNode(n.Parts[0]) == textOfNode(n.Parts[1]):
		return n.Parts[0], true
	}
	for i, part := range n.Parts {
		if other, ok := rewriteOnce(part); ok {
			n.Parts = slices.Clone(n.Parts)
			n.Parts[i] = other
			return n, true
		}
	}
	return impl.Node{}, false
}

// simplifiedOf applies the rules of SimplifyStyle until none of them applies, whatever the program
// does. No rule keeps another one from being applied, so the order does not matter.
func simplifiedOf(n impl.Node) impl.Node {
	for {
		other, ok := rewriteOnce(n)
		if !ok {
			return n
		}
		n = other
	}
}

// chosenOf follows the parts that are used for a kind from the outside, whatever the program does.
func chosenOf(n impl.Node, word string) impl.Node {
	for n.Op == impl.OpKind {
		if n.Word == word {
			n = n.Parts[0]
		} else {
			n = n.Parts[1]
		}
	}
	parts := []impl.Node{}
	for _, part := range n.Parts {
		parts = append(parts, chosenOf(part, word))
	}
	n.Parts = parts
	return n
}

// nodeMemory counts, for all memory that nodes reach, also behind the ends of their Parts, how often
// it is reached.
func nodeMemory(roots ...impl.Node) map[*impl.Node]int {
	memory := map[*impl.Node]int{}
	var reach func(parts []impl.Node)
	reach = func(parts []impl.Node) {
		parts = parts[:cap(parts)]
		for i := range parts {
			memory[&parts[i]]++
			reach(parts[i].Parts)
		}
	}
	for _, root := range roots {
		reach(root.Parts)
	}
	return memory
}

// checkOwnNodes fails if a result shares memory with an argument or its parts share some.
func checkOwnNodes(t *testing.T, what string, result, argument impl.Style) {
	t.Helper()
	taken := nodeMemory(argument.Root)
	for place, count := range nodeMemory(result.Root) {
		if count > 1 || taken[place] > 0 {
			t.Fatalf("%s of %s: memory is shared", what, textOfStyle(argument))
		}
	}
}

// checkResult fails if a style that has been computed is not the one that is wanted, is not valid, or
// shares memory.
func checkResult(t *testing.T, what string, argument, result impl.Style, ok bool, want string) {
	t.Helper()
	if !ok || textOfStyle(result) != want || !isStyle(result) || !impl.IsValidStyle(result) {
		t.Fatalf("%s of %s: %v, %v, not %s", what, textOfStyle(argument), result, ok, want)
	}
	checkOwnNodes(t, what, result, argument)
}

// checkStyle checks every function for a valid style.
func checkStyle(t *testing.T, s impl.Style) {
	t.Helper()
	text := textOfStyle(s)
	written, ok := impl.FormatStyle(s)
	if !ok || written != text || !impl.IsValidStyle(s) {
		t.Fatalf("FormatStyle: %q, %v, not %q", written, ok, text)
	}
	back, ok := impl.ParseStyle(text)
	if !ok || !sameStyle(back, s) {
		t.Fatalf("ParseStyle(%q) = %v, %v", text, back, ok)
	}
	checkOwnNodes(t, "ParseStyle", back, s)
	if nodes, depth, ok := impl.CountNodes(s); !ok || nodes != nodesIn(s.Root) || depth != depthOf(s.Root) {
		t.Fatalf("CountNodes of %s: %d, %d, %v", text, nodes, depth, ok)
	}
	if fields, ok := impl.FieldsUsed(s); !ok || !slices.Equal(fields, fieldsOfText(text)) {
		t.Fatalf("FieldsUsed of %s: %v, %v", text, fields, ok)
	}
	checkSimplified(t, s)
	checkChosen(t, s)
	if textOfStyle(s) != text {
		t.Fatalf("%s has become %s", text, textOfStyle(s))
	}
}

// checkSimplified simplifies a valid style once and twice, and holds the results against the rules of
// the chapter: what is rendered is told by the next one.
func checkSimplified(t *testing.T, s impl.Style) {
	t.Helper()
	want := textOfStyle(impl.Style{Names: s.Names, Root: simplifiedOf(s.Root)})
	once, ok := impl.SimplifyStyle(s)
	checkResult(t, "SimplifyStyle", s, once, ok, want)
	twice, ok := impl.SimplifyStyle(once)
	checkResult(t, "SimplifyStyle", once, twice, ok, want)
}

// checkChosen chooses every kind in a valid style, and chooses it again and another one in the result,
// which no longer depends on the kind.
func checkChosen(t *testing.T, s impl.Style) {
	t.Helper()
	for _, word := range []string{"book", "article", "chapter", "report"} {
		want := textOfStyle(impl.Style{Names: s.Names, Root: chosenOf(s.Root, word)})
		chosen, ok := impl.ChooseKind(s, kindsByWord[word])
		checkResult(t, "ChooseKind", s, chosen, ok, want)
		for _, kind := range []int{kindsByWord[word], impl.KindChapter} {
			again, ok := impl.ChooseKind(chosen, kind)
			checkResult(t, "ChooseKind", chosen, again, ok, want)
		}
	}
}

// checkReplaced replaces a style field in a valid style.
func checkReplaced(t *testing.T, s impl.Style, old, field string) {
	t.Helper()
	text := textOfStyle(s)
	replaced, ok := impl.ReplaceField(s, old, field)
	checkResult(t, "ReplaceField "+old+" by "+field, s, replaced, ok, replacedText(text, old, field))
	if textOfStyle(s) != text {
		t.Fatalf("%s has become %s", text, textOfStyle(s))
	}
}

// checkNoStyle checks that every function fails for a style.
func checkNoStyle(t *testing.T, what string, s impl.Style) {
	t.Helper()
	if impl.IsValidStyle(s) {
		t.Errorf("%.200q: valid", what)
	}
	if text, ok := impl.FormatStyle(s); ok || text != "" {
		t.Errorf("%.200q: FormatStyle: %q, %v", what, text, ok)
	}
	if nodes, depth, ok := impl.CountNodes(s); ok || nodes != 0 || depth != 0 {
		t.Errorf("%.200q: CountNodes: %d, %d, %v", what, nodes, depth, ok)
	}
	if fields, ok := impl.FieldsUsed(s); ok || len(fields) != 0 {
		t.Errorf("%.200q: FieldsUsed: %v, %v", what, fields, ok)
	}
	if result, ok := impl.SimplifyStyle(s); ok || !sameStyle(result, impl.Style{}) {
		t.Errorf("%.200q: SimplifyStyle: %v, %v", what, result, ok)
	}
	for _, kind := range allKinds {
		if result, ok := impl.ChooseKind(s, kind); ok || !sameStyle(result, impl.Style{}) {
			t.Errorf("%.200q: ChooseKind: %v, %v", what, result, ok)
		}
	}
	for _, field := range []string{"title", "year"} {
		if result, ok := impl.ReplaceField(s, field, "key"); ok || !sameStyle(result, impl.Style{}) {
			t.Errorf("%.200q: ReplaceField: %v, %v", what, result, ok)
		}
	}
}

// checkStyleText compares ParseStyle with the patterns.
func checkStyleText(t *testing.T, s string) {
	t.Helper()
	want, fine := styleIn(s)
	style, ok := impl.ParseStyle(s)
	if ok != fine || !sameStyle(style, want) {
		t.Fatalf("ParseStyle(%.300q) = %v, %v, not %v, %v", s, style, ok, want, fine)
	}
}

func TestLimitsOfStyles(t *testing.T) {
	if impl.MaxNodes != 30 || impl.MaxDepth != 5 || impl.MaxParts != 6 || impl.MaxPiece != 12 {
		t.Error("limits", impl.MaxNodes, impl.MaxDepth, impl.MaxParts, impl.MaxPiece)
	}
	if !slices.Equal(allOps, []int{1, 2, 3, 4, 5, 6, 7, 8, 9}) {
		t.Error("operations", allOps)
	}
}

func TestTextsOfStyles(t *testing.T) {
	title, year, dot := fieldNode("title"), fieldNode("year"), textNode(".")
	for _, c := range []struct {
		root impl.Node
		text string
	}{
		{title, "2 title"}, {dot, `2 "."`}, {textNode(" "), `2 " "`}, {textNode(`\(`), `2 "\("`}, {textNode("title"), `2 "title"`},
		{groupNode(", ", title), `2 (group ", " title)`}, {groupNode("", title, year), `2 (group "" title year)`}, {groupNode(")", dot, dot), `2 (group ")" "." ".")`},
		{ifNode("year", title, dot), `2 (if year title ".")`}, {kindNode("report", year, title), "2 (kind report year title)"},
		{firstNode(title), "2 (first title)"}, {firstNode(dot, title, year), `2 (first "." title year)`},
		{affixNode("(", ")", year), `2 (affix "(" ")" year)`}, {affixNode("", "", year), `2 (affix "" "" year)`}, {affixNode("", " ", dot), `2 (affix "" " " ".")`}, {affixNode(") ", "", dot), `2 (affix ") " "" ".")`},
		{italicNode(title), "2 (italic title)"}, {boldNode(dot), `2 (bold ".")`}, {italicNode(boldNode(title)), "2 (italic (bold title))"},
		{groupNode(", ", fieldNode("authors"), italicNode(title), affixNode("(", ")", year)), `2 (group ", " authors (italic title) (affix "(" ")" year))`},
		{
			groupNode("; ", ifNode("editors", kindNode("chapter", fieldNode("editors"), dot), firstNode(fieldNode("publisher"), fieldNode("key"))), affixNode("", "!", italicNode(boldNode(title)))),
			`2 (group "; " (if editors (kind chapter editors ".") (first publisher key)) (affix "" "!" (italic (bold title))))`,
		},
	} {
		if text, ok := impl.FormatStyle(styleWith(c.root)); !ok || text != c.text {
			t.Errorf("FormatStyle: %q, %v, not %q", text, ok, c.text)
		}
		if s, ok := impl.ParseStyle(c.text); !ok || !sameStyle(s, styleWith(c.root)) {
			t.Errorf("ParseStyle(%q) = %v, %v", c.text, s, ok)
		}
		checkStyle(t, styleWith(c.root))
	}
}

func TestEveryStyleFieldAndKind(t *testing.T) {
	for _, field := range allStyleFields {
		for _, text := range []string{"1 " + field, "4 (if " + field + " " + field + " key)"} {
			checkStyleText(t, text)
			checkStyle(t, styleOf(t, text))
		}
	}
	for word := range kindsByWord {
		checkStyleText(t, "3 (kind "+word+" title year)")
		checkStyle(t, styleOf(t, "3 (kind "+word+" title year)"))
	}
	for _, word := range []string{
		"", "author", "titles", "Title", "TITLE", " title", "title ", "cross", "kind", "book", "unknown", "entry", "Year", "keys", "names", "if", "group", "?", "\x00", "\xff", strings.Repeat("title", 1000),
	} {
		checkNoStyle(t, "field "+word, styleWith(fieldNode(word)))
		checkNoStyle(t, "if "+word, styleWith(ifNode(word, fieldNode("title"), fieldNode("year"))))
		checkStyleText(t, "1 "+word)
		checkStyleText(t, "1 (if "+word+" title year)")
	}
	for _, word := range []string{"", "books", "Book", "BOOK", " book", "book ", "title", "kind", "entry", "1", "\x00", strings.Repeat("book", 1000)} {
		checkNoStyle(t, "kind "+word, styleWith(kindNode(word, fieldNode("title"), fieldNode("year"))))
		checkStyleText(t, "1 (kind "+word+" title year)")
	}
}

func TestCountNodes(t *testing.T) {
	for _, c := range []struct {
		text         string
		nodes, depth int
	}{
		{"1 title", 1, 1}, {`1 "x"`, 1, 1}, {"1 (italic title)", 2, 2}, {"1 (if title title year)", 3, 2}, {"1 (first title title title)", 4, 2},
		{`2 (group ", " authors (italic title) (affix "(" ")" year))`, 6, 3}, {"1 (kind book (kind article title year) (italic (bold key)))", 7, 4},
		{"1 (bold (bold (bold (bold key))))", 5, 5}, {"1 (first (first key) (first (first (first key))) key)", 8, 5},
	} {
		s := styleOf(t, c.text)
		if nodes, depth, ok := impl.CountNodes(s); !ok || nodes != c.nodes || depth != c.depth {
			t.Errorf("CountNodes of %s: %d, %d, %v", c.text, nodes, depth, ok)
		}
		checkStyle(t, s)
	}
}

func TestFieldsUsed(t *testing.T) {
	for _, c := range []struct{ text, fields string }{
		{"1 title", "title"}, {`1 "title"`, ""}, {`1 (group "key" "title" "year")`, ""}, {`1 (affix "date" "pages" "key")`, ""},
		{"1 (if title year key)", "key title year"}, {"1 (if title title title)", "title"}, {`1 (if title "a" "b")`, "title"}, {"1 (kind book year date)", "date year"},
		{`2 (group ", " authors (italic title) (affix "(" ")" year))`, "authors title year"},
		{"1 (first year volume title publisher pages key)", "key pages publisher title volume year"}, {"1 (first key editors date container authors)", "authors container date editors key"},
		{"1 (first (first year title) (first title year) (italic (bold year)))", "title year"},
	} {
		s := styleOf(t, c.text)
		if fields, ok := impl.FieldsUsed(s); !ok || strings.Join(fields, " ") != c.fields {
			t.Errorf("FieldsUsed of %s: %v, %v", c.text, fields, ok)
		}
		checkStyle(t, s)
	}
}

func TestReplaceField(t *testing.T) {
	many := `2 (group "title" title (if title "title" year) (italic (bold (first title key))))`
	for _, c := range []struct{ text, old, field, want string }{
		{"1 title", "title", "year", "1 year"}, {"1 title", "year", "key", "1 title"}, {"1 title", "title", "title", "1 title"}, {`1 "title"`, "title", "year", `1 "title"`},
		// Several times, once, not at all, by the field itself, and by one that is there already.
		{many, "title", "container", `2 (group "title" container (if container "title" year) (italic (bold (first container key))))`},
		{many, "key", "date", `2 (group "title" title (if title "title" year) (italic (bold (first title date))))`},
		{many, "pages", "date", many}, {many, "title", "title", many}, {many, "pages", "pages", many},
		{many, "title", "year", `2 (group "title" year (if year "title" year) (italic (bold (first year key))))`},
		{many, "year", "title", `2 (group "title" title (if title "title" title) (italic (bold (first title key))))`},
		{"1 (if title title title)", "title", "key", "1 (if key key key)"}, {"1 (if title year year)", "title", "key", "1 (if key year year)"}, {"1 (if title year year)", "year", "key", "1 (if title key key)"},
		{"1 (kind book title title)", "title", "key", "1 (kind book key key)"}, {`1 (affix "key" "key" key)`, "key", "title", `1 (affix "key" "key" title)`},
	} {
		s := styleOf(t, c.text)
		if result, ok := impl.ReplaceField(s, c.old, c.field); !ok || textOfStyle(result) != c.want {
			t.Errorf("ReplaceField of %s: %v, %v, not %s", c.text, result, ok, c.want)
		}
		checkReplaced(t, s, c.old, c.field)
	}
	for _, old := range allStyleFields {
		for _, field := range allStyleFields {
			checkReplaced(t, styleOf(t, many), old, field)
		}
	}
}

func TestReplaceFieldWithOtherWords(t *testing.T) {
	for _, s := range []impl.Style{styleWith(fieldNode("title")), styleWith(kindNode("book", fieldNode("title"), textNode("x"))), styleWith(textNode("x"))} {
		for _, word := range []string{"", "book", "cross", "titles", "Title", "title ", " title", "x", "\xff", strings.Repeat("title", 1000)} {
			for _, pair := range [][2]string{{word, "title"}, {"title", word}, {word, word}, {"year", word}, {word, "year"}} {
				if result, ok := impl.ReplaceField(s, pair[0], pair[1]); ok || !sameStyle(result, impl.Style{}) {
					t.Errorf("ReplaceField(%.40q, %.40q) = %v, %v", pair[0], pair[1], result, ok)
				}
			}
		}
	}
}

func TestSimplifyStyle(t *testing.T) {
	for _, c := range []struct{ text, want string }{
		{"1 title", "1 title"}, {`3 "x"`, `3 "x"`}, {"4 (first title)", "4 title"}, {"1 (first title year)", "1 (first title year)"}, {"1 (first title title)", "1 (first title title)"},
		{`1 (affix "" "" title)`, "1 title"}, {`1 (affix "(" "" title)`, `1 (affix "(" "" title)`}, {`1 (affix "" ")" title)`, `1 (affix "" ")" title)`}, {`1 (affix " " " " title)`, `1 (affix " " " " title)`},
		{"1 (italic title)", "1 (italic title)"}, {"1 (bold title)", "1 (bold title)"}, {"1 (italic (italic title))", "1 (italic title)"}, {"1 (bold (bold title))", "1 (bold title)"},
		{"1 (italic (bold title))", "1 (italic (bold title))"}, {"1 (bold (italic title))", "1 (bold (italic title))"}, {"1 (italic (bold (italic title)))", "1 (italic (bold (italic title)))"},
		{`1 (group "" title)`, `1 (group "" title)`}, {`1 (group "" (group "" title))`, `1 (group "" (group "" title))`},
		{"1 (if title year year)", "1 year"}, {"1 (if title year key)", "1 (if title year key)"}, {"1 (kind book year year)", "1 year"}, {"1 (kind book year key)", "1 (kind book year key)"},
		// Nodes of the same operation, several deep.
		{"1 (italic (italic (italic (italic title))))", "1 (italic title)"}, {"1 (bold (bold (bold title)))", "1 (bold title)"}, {"1 (first (first (first (first title))))", "1 title"},
		{`1 (affix "" "" (affix "" "" (affix "" "" (affix "" "" title))))`, "1 title"}, {`1 (affix "" "" (affix "(" "" (affix "" "" title)))`, `1 (affix "(" "" title)`},
		{"1 (first (first (first title year)))", "1 (first title year)"}, {"1 (first (first title year) (first key))", "1 (first (first title year) key)"}, {"1 (first (first (first title) year))", "1 (first title year)"},
		{"1 (if title (if title key key) (if title key key))", "1 key"}, {"1 (if title (if year key key) (if date key key))", "1 key"}, {"1 (if title (if title key year) (if title key year))", "1 (if title key year)"},
		{"1 (if title (if title key year) (if title year key))", "1 (if title (if title key year) (if title year key))"}, {"1 (kind book (kind book key key) (kind report key key))", "1 key"},
		{"1 (kind book (kind book year key) key)", "1 (kind book (kind book year key) key)"}, {"1 (if title (if title year key) key)", "1 (if title (if title year key) key)"},
		{"1 (if title (if title (if title key key) key) key)", "1 key"}, {"1 (kind book key (kind book key (kind book key key)))", "1 key"},
		// An emphasis within the same one, with something else between them that goes away or stays.
		{"1 (italic (first (italic title)))", "1 (italic title)"}, {`1 (bold (affix "" "" (bold title)))`, "1 (bold title)"}, {"1 (italic (if title (italic key) (italic key)))", "1 (italic key)"},
		{`1 (italic (first (affix "" "" (italic title))))`, "1 (italic title)"}, {"1 (italic (if title (italic key) (bold key)))", "1 (italic (if title (italic key) (bold key)))"},
		{`1 (italic (group "" (italic title)))`, `1 (italic (group "" (italic title)))`}, {`1 (bold (affix "(" "" (bold title)))`, `1 (bold (affix "(" "" (bold title)))`}, {"1 (italic (first (italic title) year))", "1 (italic (first (italic title) year))"},
		{"1 (bold (bold (italic (italic title))))", "1 (bold (italic title))"}, {"1 (bold (italic (italic (bold title))))", "1 (bold (italic (bold title)))"},
		// Parts that become equal only when they are simplified, and such that do not.
		{"1 (if title (first key) key)", "1 key"}, {"1 (if title key (first key))", "1 key"}, {`1 (kind book (italic (italic key)) (affix "" "" (italic key)))`, "1 (italic key)"},
		{"1 (if title (italic key) (bold key))", "1 (if title (italic key) (bold key))"}, {"1 (if title (italic (bold key)) (bold (italic key)))", "1 (if title (italic (bold key)) (bold (italic key)))"},
		{`1 (kind book (group "a" key) (group "b" key))`, `1 (kind book (group "a" key) (group "b" key))`}, {`1 (kind book (affix "a" "b" key) (affix "b" "a" key))`, `1 (kind book (affix "a" "b" key) (affix "b" "a" key))`},
		{`1 (if title (affix "a" "b" key) (affix "a" "c" key))`, `1 (if title (affix "a" "b" key) (affix "a" "c" key))`}, {`1 (if title "key" key)`, `1 (if title "key" key)`},
		{"1 (if title (first key year) (first key year date))", "1 (if title (first key year) (first key year date))"}, {"1 (if title (if key year date) (if date year date))", "1 (if title (if key year date) (if date year date))"},
		{`1 (if title (group ", " (first key) (italic (italic year))) (group ", " key (italic year)))`, `1 (group ", " key (italic year))`},
		// Within other nodes.
		{`1 (group ", " (first title) (if year key key) (affix "(" ")" (affix "" "" date)))`, `1 (group ", " title key (affix "(" ")" date))`},
		{`1 (group ", " (group ", " (group ", " (first title))))`, `1 (group ", " (group ", " (group ", " title)))`}, {`1 (first (affix "" "" title) (kind book year year))`, "1 (first title year)"},
	} {
		s := styleOf(t, c.text)
		once, ok := impl.SimplifyStyle(s)
		if !ok || textOfStyle(once) != c.want {
			t.Errorf("SimplifyStyle of %s: %v, %v, not %s", c.text, once, ok, c.want)
		}
		if twice, ok := impl.SimplifyStyle(once); !ok || textOfStyle(twice) != c.want {
			t.Errorf("SimplifyStyle of %s twice: %v, %v", c.text, twice, ok)
		}
		checkStyle(t, s)
	}
}

func TestPartsAreEqualWithNilAndEmptyLists(t *testing.T) {
	bare, empty := fieldNode("key"), fieldNode("key")
	empty.Parts = []impl.Node{}
	for _, root := range []impl.Node{
		ifNode("title", bare, empty), kindNode("book", empty, bare), ifNode("title", italicNode(empty), italicNode(bare)), firstNode(empty), empty,
	} {
		checkStyle(t, styleWith(root))
	}
	if s, ok := impl.SimplifyStyle(styleWith(ifNode("title", bare, empty))); !ok || textOfStyle(s) != "2 key" {
		t.Errorf("SimplifyStyle: %v, %v", s, ok)
	}
}

func TestChooseKind(t *testing.T) {
	for _, c := range []struct{ text, book, article, chapter, report string }{
		{"1 title", "1 title", "1 title", "1 title", "1 title"}, {"2 (kind book title year)", "2 title", "2 year", "2 year", "2 year"}, {"2 (kind report title year)", "2 year", "2 year", "2 year", "2 title"},
		{"1 (kind chapter title title)", "1 title", "1 title", "1 title", "1 title"},
		// A kind within a kind, in both of its Parts and several deep.
		{"1 (kind book (kind book title year) key)", "1 title", "1 key", "1 key", "1 key"}, {"1 (kind book key (kind book title year))", "1 key", "1 year", "1 year", "1 year"},
		{"1 (kind book (kind article title year) key)", "1 year", "1 key", "1 key", "1 key"}, {"1 (kind book key (kind article title year))", "1 key", "1 title", "1 year", "1 year"},
		{"1 (kind book title (kind article year (kind chapter date key)))", "1 title", "1 year", "1 date", "1 key"},
		{"1 (kind book (kind book (kind book (kind book title year) year) year) year)", "1 title", "1 year", "1 year", "1 year"},
		{"1 (kind book year (kind book year (kind book year (kind book year title))))", "1 year", "1 title", "1 title", "1 title"},
		// Within other nodes, which stay as they are.
		{
			`1 (group ", " (kind book (italic title) (first title)) (if year (kind chapter year date) (affix "" "" (kind report key pages))))`,
			`1 (group ", " (italic title) (if year date (affix "" "" pages)))`, `1 (group ", " (first title) (if year date (affix "" "" pages)))`,
			`1 (group ", " (first title) (if year year (affix "" "" pages)))`, `1 (group ", " (first title) (if year date (affix "" "" key)))`,
		},
		{"1 (italic (kind book (italic title) (bold title)))", "1 (italic (italic title))", "1 (italic (bold title))", "1 (italic (bold title))", "1 (italic (bold title))"},
		{"1 (if title (kind book key year) (kind article key year))", "1 (if title key year)", "1 (if title year key)", "1 (if title year year)", "1 (if title year year)"},
	} {
		s := styleOf(t, c.text)
		for i, want := range []string{c.book, c.article, c.chapter, c.report} {
			if result, ok := impl.ChooseKind(s, allKinds[i]); !ok || textOfStyle(result) != want {
				t.Errorf("ChooseKind(%s, %d) = %v, %v, not %s", c.text, allKinds[i], result, ok, want)
			}
		}
		checkStyle(t, s)
	}
}

func TestChooseKindOfOtherKinds(t *testing.T) {
	for _, s := range []impl.Style{styleWith(fieldNode("title")), styleWith(kindNode("book", fieldNode("title"), fieldNode("year")))} {
		for _, kind := range []int{0, -1, -4, 5, 6, 1 << 32, 1<<32 + 1, math.MinInt, math.MaxInt} {
			if result, ok := impl.ChooseKind(s, kind); ok || !sameStyle(result, impl.Style{}) {
				t.Errorf("ChooseKind(%v, %d) = %v, %v", s, kind, result, ok)
			}
		}
	}
}

// nodesOfSizes returns all nodes of a few fields, texts and pieces that have 1, 2, ... nodes each, up to
// a number of nodes.
func nodesOfSizes(most int) [][]impl.Node {
	sizes := [][]impl.Node{nil, {fieldNode("title"), fieldNode("key"), textNode("x")}}
	for size := 2; size <= most; size++ {
		var all []impl.Node
		for _, part := range sizes[size-1] {
			all = append(all, groupNode(", ", part), firstNode(part), affixNode("", "", part), affixNode("(", "", part), italicNode(part), boldNode(part))
		}
		for left := 1; left < size-1; left++ {
			for _, a := range sizes[left] {
				for _, b := range sizes[size-1-left] {
					all = append(all, groupNode("", a, b), firstNode(a, b), ifNode("title", a, b), kindNode("book", a, b))
				}
			}
		}
		sizes = append(sizes, all)
	}
	return sizes
}

func TestAllSmallStyles(t *testing.T) {
	for _, nodes := range nodesOfSizes(5) {
		for _, root := range nodes {
			checkStyle(t, styleWith(root))
			checkReplaced(t, styleWith(root), "title", "key")
		}
	}
}

// randomPiece returns a piece of any bytes that it may have, or of a few that occur in texts of nodes.
func randomPiece(r *rand.Rand) string {
	piece := ""
	for range r.Intn(13) {
		if r.Intn(2) == 0 {
			piece += string(" ()key\\"[r.Intn(7)])
		} else {
			piece += strings.ReplaceAll(string(rune(32+r.Intn(95))), `"`, "'")
		}
	}
	return piece
}

// randomNode returns a node of at most a depth, which may have too many nodes for a style.
func randomNode(r *rand.Rand, depth int) impl.Node {
	field := allStyleFields[r.Intn(len(allStyleFields))]
	if depth == 1 || r.Intn(6) == 0 {
		if r.Intn(3) == 0 {
			return textNode([]string{"x", "y", " ()", "title"}[r.Intn(4)])
		}
		return fieldNode(field)
	}
	var parts []impl.Node
	for range 1 + r.Intn(1+r.Intn(6)) {
		parts = append(parts, randomNode(r, depth-1))
	}
	one := parts[0]
	other := randomNode(r, depth-1)
	if r.Intn(3) == 0 {
		// Equal parts are frequent, and share their memory.
		other = one
	}
	word := []string{"book", "article", "chapter", "report"}[r.Intn(4)]
	switch r.Intn(8) {
	case 0:
		return groupNode(randomPiece(r), parts...)
	case 1:
		return firstNode(parts...)
	case 2:
		return ifNode(field, one, other)
	case 3:
		return kindNode(word, one, other)
	case 4:
		return affixNode(randomPiece(r), randomPiece(r), one)
	case 5:
		return affixNode("", "", one)
	case 6:
		return italicNode(one)
	}
	return boldNode(one)
}

// randomStyle returns a valid style.
func randomStyle(r *rand.Rand) impl.Style {
	for {
		s := impl.Style{Names: 1 + r.Intn(4), Root: randomNode(r, 1+r.Intn(5))}
		if isStyle(s) {
			return s
		}
	}
}

func TestManyStyles(t *testing.T) {
	r := rand.New(rand.NewSource(9))
	for range 20000 {
		s := randomStyle(r)
		checkStyle(t, s)
		checkReplaced(t, s, allStyleFields[r.Intn(10)], allStyleFields[r.Intn(10)])
	}
}

func TestNumbersOfNames(t *testing.T) {
	for names := 1; names <= impl.MaxNames; names++ {
		checkStyle(t, impl.Style{Names: names, Root: fieldNode("title")})
	}
	for _, names := range []int{0, -1, impl.MaxNames + 1, 10, 12, 1 << 32, 1<<32 + 1, math.MinInt, math.MaxInt} {
		checkNoStyle(t, fmt.Sprint("Names ", names), impl.Style{Names: names, Root: fieldNode("title")})
		checkStyleText(t, fmt.Sprint(names, " title"))
	}
	for _, names := range []string{"", "01", "02", "001", "+1", "-1", "1.0", " 1", "1x", "x", "one", "0x1", "1_0", "\u0661", "4294967297", "18446744073709551617"} {
		checkStyleText(t, names+" title")
	}
}

// titleParts returns a number of parts, all of them the same field.
func titleParts(number int) []impl.Node {
	return slices.Repeat([]impl.Node{fieldNode("title")}, number)
}

func TestNumbersOfNodes(t *testing.T) {
	for _, join := range []func(parts ...impl.Node) impl.Node{firstNode, func(parts ...impl.Node) impl.Node { return groupNode(", ", parts...) }} {
		for last := 1; last <= 6; last++ {
			// One node with four others five times, one with some more, and the one around them: 30 if last is 3.
			parts := append(slices.Repeat([]impl.Node{join(titleParts(4)...)}, 5), join(titleParts(last)...))
			s := styleWith(join(parts...))
			if nodesIn(s.Root) != 27+last {
				t.Fatal("nodes", nodesIn(s.Root))
			}
			checkStyleText(t, textOfStyle(s))
			if last > 3 {
				checkNoStyle(t, fmt.Sprint("nodes ", 27+last), s)
				continue
			}
			checkStyle(t, s)
			if nodes, depth, ok := impl.CountNodes(s); !ok || nodes != 27+last || depth != 3 {
				t.Errorf("CountNodes: %d, %d, %v", nodes, depth, ok)
			}
		}
	}
}

func TestDepths(t *testing.T) {
	around := map[string]func(n impl.Node) impl.Node{
		"italic": italicNode, "bold": boldNode,
		"group":     func(n impl.Node) impl.Node { return groupNode("", n) },
		"last":      func(n impl.Node) impl.Node { return groupNode("", fieldNode("title"), n) },
		"first":     func(n impl.Node) impl.Node { return firstNode(n) },
		"affix":     func(n impl.Node) impl.Node { return affixNode("", "", n) },
		"if":        func(n impl.Node) impl.Node { return ifNode("title", n, fieldNode("year")) },
		"otherwise": func(n impl.Node) impl.Node { return ifNode("title", fieldNode("year"), n) },
		"kind":      func(n impl.Node) impl.Node { return kindNode("book", n, fieldNode("year")) },
		"no kind":   func(n impl.Node) impl.Node { return kindNode("book", fieldNode("year"), n) },
	}
	for what, put := range around {
		for other, putOther := range around {
			n := fieldNode("key")
			for depth := 1; depth <= 7; depth++ {
				checkStyleText(t, textOfStyle(styleWith(n)))
				if depth <= 5 {
					checkStyle(t, styleWith(n))
				} else {
					checkNoStyle(t, fmt.Sprint(what, " and ", other, ", depth ", depth), styleWith(n))
				}
				if depth%2 == 0 {
					n = put(n)
				} else {
					n = putOther(n)
				}
			}
		}
	}
}

// checkNode checks a node, and the nodes around it, by the patterns.
func checkNode(t *testing.T, what string, n impl.Node) {
	t.Helper()
	for _, root := range []impl.Node{n, italicNode(n), groupNode("", fieldNode("year"), boldNode(n), fieldNode("key")), ifNode("title", n, n)} {
		s := styleWith(root)
		if isStyle(s) {
			checkStyle(t, s)
		} else {
			checkNoStyle(t, what, s)
		}
		checkStyleText(t, textOfStyle(s))
	}
}

func TestNumbersOfParts(t *testing.T) {
	for number := range 9 {
		for _, op := range allOps {
			n := validNode(op)
			n.Parts = titleParts(number)
			least, most := partNumbers[op][0], partNumbers[op][1]
			if isStyle(styleWith(n)) != (number >= least && number <= most) {
				t.Fatal("the patterns disagree about", op, number)
			}
			checkNode(t, fmt.Sprint("operation ", op, ", parts ", number), n)
		}
	}
}

// validNode returns a valid node of an operation.
func validNode(op int) impl.Node {
	n := impl.Node{Op: op, Parts: titleParts(partNumbers[op][0])}
	switch op {
	case impl.OpField, impl.OpIf:
		n.Word = "year"
	case impl.OpKind:
		n.Word = "book"
	case impl.OpText, impl.OpGroup:
		n.Text = "x"
	case impl.OpAffix:
		n.Text, n.After = "x", "y"
	}
	return n
}

func TestLengthsOfPieces(t *testing.T) {
	for _, unit := range []string{"x", " ", "(", "\\"} {
		for length := range 15 {
			piece := strings.Repeat(unit, length)
			nodes := []impl.Node{groupNode(piece, titleParts(1)...), affixNode(piece, "", fieldNode("key")), affixNode("", piece, fieldNode("key")), affixNode(piece, piece, fieldNode("key")), textNode(piece)}
			for i, n := range nodes {
				// Only an OpText must not be empty.
				fits := length <= 12 && (i < 4 || length > 0)
				if isStyle(styleWith(n)) != fits || impl.IsValidStyle(styleWith(n)) != fits {
					t.Errorf("%v: %v", n, impl.IsValidStyle(styleWith(n)))
				}
				checkNode(t, "piece "+piece, n)
			}
		}
	}
	long := strings.Repeat("x", 100000)
	for _, n := range []impl.Node{textNode(long), groupNode(long, titleParts(1)...), affixNode(long, "", fieldNode("key")), affixNode("", long, fieldNode("key"))} {
		checkNoStyle(t, "a very long piece", styleWith(n))
	}
}

func TestEveryByteInAPiece(t *testing.T) {
	for c := range 256 {
		b := string([]byte{byte(c)})
		fits := c >= 32 && c <= 126 && c != '"'
		for _, piece := range []string{b, "a" + b, b + "a", "a" + b + "a", b + b, strings.Repeat(b, 12)} {
			for _, n := range []impl.Node{textNode(piece), groupNode(piece, titleParts(2)...), affixNode(piece, "x", fieldNode("key")), affixNode("x", piece, fieldNode("key"))} {
				if impl.IsValidStyle(styleWith(n)) != fits {
					t.Errorf("%q: %v", piece, !fits)
				}
				checkNode(t, fmt.Sprintf("piece %q", piece), n)
			}
		}
	}
}

func TestPiecesThatLookLikeNodes(t *testing.T) {
	for _, piece := range []string{"title", "(italic key)", "(first", ")", "))", ") title", " ", "  ", "2 title", "\\", "\\\\", "'", "''", `" "`, `"`, `a" "b`, `") title`, `" title)`, "\\\""} {
		for _, n := range []impl.Node{textNode(piece), groupNode(piece, titleParts(1)...), affixNode(piece, "", fieldNode("key")), affixNode("", piece, fieldNode("key")), affixNode(piece, piece, textNode(piece))} {
			checkNode(t, "piece "+piece, n)
		}
	}
}

func TestUnknownOperations(t *testing.T) {
	for _, op := range []int{0, -1, -8, 10, 11, 1 << 32, 1<<32 + 1, math.MinInt, math.MaxInt} {
		for _, like := range allOps {
			n := validNode(like)
			n.Op = op
			checkNode(t, fmt.Sprint("operation ", op), n)
		}
		checkNoStyle(t, "an operation alone", styleWith(impl.Node{Op: op}))
	}
	checkNoStyle(t, "the zero style", impl.Style{})
}

func TestStringsAndListsThatAreNotMentioned(t *testing.T) {
	for _, op := range allOps {
		for _, s := range []string{"", "x", " ", "title", "book", "year", `"`, "\x00"} {
			for place := range 3 {
				n := validNode(op)
				*[]*string{&n.Word, &n.Text, &n.After}[place] = s
				checkNode(t, fmt.Sprint("operation ", op, ", place ", place, ", ", s), n)
			}
		}
	}
	for _, c := range []struct {
		what string
		node impl.Node
	}{
		{"a field with Text", impl.Node{Op: impl.OpField, Word: "title", Text: "x"}}, {"a field with After", impl.Node{Op: impl.OpField, Word: "title", After: "x"}},
		{"a field with Parts", impl.Node{Op: impl.OpField, Word: "title", Parts: titleParts(1)}}, {"a field without Word", impl.Node{Op: impl.OpField}},
		{"a text with Word", impl.Node{Op: impl.OpText, Word: "title", Text: "x"}}, {"a text with After", impl.Node{Op: impl.OpText, Text: "x", After: "x"}},
		{"a text with Parts", impl.Node{Op: impl.OpText, Text: "x", Parts: titleParts(1)}}, {"a text with After alone", impl.Node{Op: impl.OpText, After: "x"}},
		{"a group with Word", impl.Node{Op: impl.OpGroup, Word: "title", Parts: titleParts(1)}}, {"a group with After", impl.Node{Op: impl.OpGroup, After: "x", Parts: titleParts(1)}},
		{"an if with Text", impl.Node{Op: impl.OpIf, Word: "title", Text: "x", Parts: titleParts(2)}}, {"an if with After", impl.Node{Op: impl.OpIf, Word: "title", After: "x", Parts: titleParts(2)}},
		{"an if with a kind", impl.Node{Op: impl.OpIf, Word: "book", Parts: titleParts(2)}}, {"a kind with a field", impl.Node{Op: impl.OpKind, Word: "title", Parts: titleParts(2)}},
		{"a kind with Text", impl.Node{Op: impl.OpKind, Word: "book", Text: "x", Parts: titleParts(2)}}, {"a kind with After", impl.Node{Op: impl.OpKind, Word: "book", After: "x", Parts: titleParts(2)}},
		{"a first with Word", impl.Node{Op: impl.OpFirst, Word: "title", Parts: titleParts(1)}}, {"a first with Text", impl.Node{Op: impl.OpFirst, Text: "x", Parts: titleParts(1)}}, {"a first with After", impl.Node{Op: impl.OpFirst, After: "x", Parts: titleParts(1)}},
		{"an affix with Word", impl.Node{Op: impl.OpAffix, Word: "title", Parts: titleParts(1)}}, {"an italic with Word", impl.Node{Op: impl.OpItalic, Word: "title", Parts: titleParts(1)}},
		{"an italic with Text", impl.Node{Op: impl.OpItalic, Text: "x", Parts: titleParts(1)}}, {"a bold with Text", impl.Node{Op: impl.OpBold, Text: "x", Parts: titleParts(1)}}, {"a bold with After", impl.Node{Op: impl.OpBold, After: "x", Parts: titleParts(1)}},
	} {
		checkNoStyle(t, c.what, styleWith(c.node))
		checkNoStyle(t, c.what+" in a group", styleWith(groupNode("", fieldNode("title"), c.node)))
		checkNoStyle(t, c.what+" deep inside", styleWith(italicNode(boldNode(firstNode(fieldNode("title"), c.node)))))
	}
}

// damagedNode changes something in a node or in one of those in it; the result is often not valid.
func damagedNode(r *rand.Rand, n impl.Node) impl.Node {
	if len(n.Parts) > 0 && r.Intn(3) > 0 {
		n.Parts = slices.Clone(n.Parts)
		i := r.Intn(len(n.Parts))
		n.Parts[i] = damagedNode(r, n.Parts[i])
		return n
	}
	words := []string{"", "x", "title", "key", "book", "report", `"`, "\x1f", "\x7f", "twelve bytes", "more than twelve"}
	word := words[r.Intn(len(words))]
	switch r.Intn(6) {
	case 0:
		n.Op = r.Intn(12) - 1
	case 1:
		n.Word = word
	case 2:
		n.Text = word
	case 3:
		n.After = word
	case 4:
		n.Parts = append(slices.Clone(n.Parts), randomNode(r, 1+r.Intn(2)))
	default:
		n.Parts = slices.Clone(n.Parts)[:max(0, len(n.Parts)-1)]
	}
	return n
}

func TestManyDamagedStyles(t *testing.T) {
	r := rand.New(rand.NewSource(99))
	invalid := 0
	for range 20000 {
		s := randomStyle(r)
		s.Root = damagedNode(r, s.Root)
		if isStyle(s) {
			checkStyle(t, s)
		} else {
			invalid++
			checkNoStyle(t, fmt.Sprint(s), s)
		}
		checkStyleText(t, textOfStyle(s))
	}
	if invalid < 5000 {
		t.Error("invalid styles", invalid)
	}
}

func TestParseStyleRefusesOtherTexts(t *testing.T) {
	for _, s := range []string{
		"", "1", "1 ", " ", "title", "1title", "0 title", "5 title", "01 title", "1 titel", "1 \"\"", "1 \"a", "1 a\"", "1 \"", "1 'a'", "1 \"a\"\"b\"", "1 ()", "1 (", "1 )", "1 (title)", "1 (\"a\")",
		// A space too many or too few.
		"1  title", " 1 title", "1 title ", "1 (first  title)", "1 (first title )", "1 ( first title)", "1 (first title  year)", "1 (first)", "1 (first )", "1 (firsttitle)", "1 (first \"a\"\"b\")", "1 (first \"a\"title)",
		"1 (first (first title)(first year))", "1 (first title(first year))", "1 (first(first title))", "1 (group \", \"title)", "1 (group\", \" title)", "1 (group  \", \" title)", "1 (group \", \"  title)",
		"1 (affix \"(\"\")\" year)", "1 (affix \"(\" \")\"year)", "1 (affix\"(\" \")\" year)", "1 (affix \"(\"  \")\" year)", "1 (if  title year key)", "1 (if title  year key)", "1 (iftitle year key)", "1 (if title year key) ",
		"1\ttitle", "1 (first\ttitle)", "1 (first title\n)", "1 title\n", "\n1 title", "1 (first\u00a0title)",
		// Parentheses and quotation marks that do not match.
		"1 (first title", "1 first title)", "1 (first title))", "1 ((first title)", "1 ((first title))", "1 (first (first title)", "1 (first title) )", "1 (first \"title)", "1 (first title\")", "1 (group \", title)", "1 (group , \" title)",
		"1 (affix \"(\" \") year)", "1 (affix \"(\" ) year)", "1 (affix \"(\" year)", "1 (group title)", "1 (group \", \")", "1 (group title \", \")", "1 [first title]", "1 (first title]",
		// Anything behind the end.
		"1 title year", "1 title)", "1 title(", "1 (first title) year", "1 (first title)x", "1 (first title)(first title)", "1 \"a\"b", "1 \"a\" \"b\"", "1 \"a\")", "1 title\x00", "1 \"a\"\xff", "1 title 1 title",
		// Wrong numbers of parts, and words that are not there.
		"1 (italic)", "1 (italic title title)", "1 (bold)", "1 (bold title year)", "1 (affix \"(\" \")\")", "1 (affix \"(\" \")\" title year)", "1 (if title year)", "1 (if title)", "1 (if title year key date)", "1 (kind book title)",
		"1 (kind book title year key)", "1 (kind title year)", "1 (kind title title year)", "1 (if book title year)", "1 (if (first title) year key)", "1 (kind \"book\" title year)", "1 (if \"title\" year key)", "1 (book title year)",
		"1 (First title)", "1 (FIRST title)", "1 (field title)", "1 (text \"a\")", "1 (italics title)", "1 (italic book)", "1 (first first)", "1 first", "1 italic", "1 (title year)", "1 (first title, year)", "1 (group ', ' title)",
		// The text of a node that would not be valid.
		"1 (bold (bold (bold (bold (bold key)))))", "1 (first title title title title title title title)", "1 (group \"13 bytes long\" title)", "1 \"13 bytes long\"", "1 (affix \"\" \"13 bytes long\" key)", "1 \"\x1f\"", "1 \"\x7f\"", "1 \"\u00e9\"",
		"1 (group \"\t\" title)", "1 (first \"\" title)", "1 (affix \"a\nb\" \"\" title)",
	} {
		if style, ok := impl.ParseStyle(s); ok || !sameStyle(style, impl.Style{}) {
			t.Errorf("ParseStyle(%q) = %v, %v", s, style, ok)
		}
		checkStyleText(t, s)
	}
}

// sequences returns all sequences of up to a number of tokens.
func sequences(tokens []string, most int) []string {
	all := []string{""}
	last := all
	for range most {
		var longer []string
		for _, s := range last {
			for _, token := range tokens {
				longer = append(longer, s+token)
			}
		}
		all = append(all, longer...)
		last = longer
	}
	return all
}

func TestAllShortTextsOfNodes(t *testing.T) {
	for _, s := range sequences([]string{"title", `"`, " ", "(first", ")", "(", "x"}, 6) {
		checkStyleText(t, "1 "+s)
	}
	for _, s := range sequences([]string{" title", ` "a"`, " (first", " (italic", ` (affix "" ""`, " (if key", ")"}, 6) {
		checkStyleText(t, "1"+s)
	}
	for _, s := range sequences([]string{"1", "0", " ", "4", "key"}, 6) {
		checkStyleText(t, s)
	}
}

func TestTextsNextToTextsOfStyles(t *testing.T) {
	for _, s := range []string{
		"1 title", `4 "a"`, `2 (group ", " authors (italic title) (affix "(" ")" year))`, "1 (if year (kind book title key) (first date pages))",
		`3 (bold (affix "twelve bytes" "" (group "" "twelve bytes" "(")))`, "1 (italic (italic (bold (bold key))))", "1 (first (first title year))",
	} {
		checkStyle(t, styleOf(t, s))
		for _, near := range nearTexts(s) {
			checkStyleText(t, near)
		}
	}
}

func TestManyTextsOfStylesWithChanges(t *testing.T) {
	r := rand.New(rand.NewSource(999))
	tokens := []string{"", " ", "  ", "(", ")", `"`, `""`, "title", "(first ", "x", "1", "\n"}
	for range 50000 {
		s := textOfStyle(randomStyle(r))
		from := r.Intn(len(s) + 1)
		to := min(len(s), from+r.Intn(3))
		checkStyleText(t, s[:from]+tokens[r.Intn(len(tokens))]+s[to:])
	}
}

func TestTextsOfStylesAtTheLimit(t *testing.T) {
	// A text of a style is never that long: there would be too many nodes or too long pieces in it.
	part := affixNode("twelve bytes", "twelve bytes", affixNode("twelve bytes", "twelve bytes", affixNode("twelve bytes", "twelve bytes", textNode("twelve bytes"))))
	longest := styleWith(groupNode("twelve bytes", slices.Repeat([]impl.Node{part}, 6)...))
	checkStyle(t, longest)
	text := textOfStyle(longest)
	for _, length := range []int{impl.MaxString - 1, impl.MaxString, impl.MaxString + 1, 3 * impl.MaxString} {
		for _, s := range []string{
			text + strings.Repeat(" ", length-len(text)), strings.Repeat(" ", length-len(text)) + text, "2" + strings.Repeat(" ", length-len(text)+1) + text[2:], text + strings.Repeat(")", length-len(text)),
			strings.Repeat("0", length-len(text)) + text, `1 "` + strings.Repeat("x", length-4) + `"`, `1 "` + strings.Repeat("x", length-3), "1 " + strings.Repeat("(", length-2), "1 " + strings.Repeat(")", length-2),
			"1 (first" + strings.Repeat(" title", (length-9)/6) + strings.Repeat(" ", (length-9)%6) + ")", "1 " + strings.Repeat("x", length-2), "1 " + strings.Repeat(`"`, length-2), "1" + strings.Repeat(" ", length-1),
			strings.Repeat("1", length), "1 " + strings.Repeat("(italic ", length/16-1) + "title" + strings.Repeat(")", length-7-8*(length/16-1)),
		} {
			if len(s) != length {
				t.Fatal("length", len(s), length)
			}
			if style, ok := impl.ParseStyle(s); ok || !sameStyle(style, impl.Style{}) {
				t.Errorf("ParseStyle(%.40q) of %d bytes: %v, %v", s, length, style, ok)
			}
		}
	}
}

func TestPartsThatContainThemselves(t *testing.T) {
	for _, op := range allOps {
		for number := 1; number <= 6; number++ {
			n := validNode(op)
			n.Parts = titleParts(number)
			n.Parts[number-1] = n
			checkNoStyle(t, fmt.Sprint("operation ", op, " in itself"), styleWith(n))
			for i := range n.Parts {
				n.Parts[i] = n
			}
			checkNoStyle(t, fmt.Sprint("operation ", op, " in itself"), styleWith(n))
		}
	}
}

func TestVeryManyParts(t *testing.T) {
	for _, op := range allOps {
		n := validNode(op)
		n.Parts = titleParts(1000000)
		checkNoStyle(t, fmt.Sprint("operation ", op), styleWith(n))
	}
	// Few lists, but the nodes that are reached through them are many.
	n := fieldNode("title")
	for range 40 {
		n = firstNode(slices.Repeat([]impl.Node{n}, 6)...)
	}
	checkNoStyle(t, "the same parts in many places", styleWith(n))
}

func TestPartsThatShareTheirMemory(t *testing.T) {
	for _, shared := range []impl.Node{firstNode(fieldNode("title"), fieldNode("year")), kindNode("book", firstNode(fieldNode("key")), fieldNode("date")), italicNode(italicNode(fieldNode("title")))} {
		for _, root := range []impl.Node{groupNode(", ", shared, shared, shared), firstNode(shared, boldNode(shared)), ifNode("title", shared, italicNode(shared)), kindNode("report", shared, shared)} {
			checkStyle(t, styleWith(root))
			checkReplaced(t, styleWith(root), "title", "pages")
		}
	}
}

// wholeNode writes out all memory that a node reaches.
func wholeNode(n impl.Node) string {
	text := fmt.Sprintf("%d %q %q %q %d[", n.Op, n.Word, n.Text, n.After, len(n.Parts))
	for _, part := range n.Parts[:cap(n.Parts)] {
		text += wholeNode(part)
	}
	return text + "]"
}

// roomyNode returns a node with the same Parts as n, behind which there are other nodes that belong to
// none of them.
func roomyNode(n impl.Node) impl.Node {
	parts := make([]impl.Node, 0, len(n.Parts)+3)
	for _, part := range n.Parts {
		parts = append(parts, roomyNode(part))
	}
	n.Parts = append(parts, impl.Node{Op: 77, Word: "rest"}, fieldNode("title"), fieldNode("pages"))[:len(parts)]
	return n
}

func TestStylesKeepTheirArguments(t *testing.T) {
	for _, text := range []string{
		"2 title", `1 (group ", " (first title) (if title (kind book key year) (italic (italic title))) (affix "" "" (bold title)))`, "3 (kind book (kind book title year) (kind report year title))",
		"1 (if title (first key) key)", "1 (first (first (first title)))", "1 (bold (bold (bold (bold title))))",
	} {
		s := styleOf(t, text)
		s.Root = roomyNode(s.Root)
		before := wholeNode(s.Root)
		checkStyle(t, s)
		for _, pair := range [][2]string{{"title", "key"}, {"key", "title"}, {"title", "title"}, {"pages", "title"}} {
			checkReplaced(t, s, pair[0], pair[1])
		}
		if wholeNode(s.Root) != before {
			t.Errorf("%s has changed: %s", text, wholeNode(s.Root))
		}
	}
}

func TestListsOfStyleFieldsAreNew(t *testing.T) {
	s := styleOf(t, "1 (first title year key)")
	fields, _ := impl.FieldsUsed(s)
	for i := range fields {
		fields[i] = "changed"
	}
	if again, ok := impl.FieldsUsed(s); !ok || strings.Join(again, " ") != "key title year" {
		t.Errorf("FieldsUsed: %v, %v", again, ok)
	}
	if !impl.IsValidStyle(s) {
		t.Error("the style has changed")
	}
}
