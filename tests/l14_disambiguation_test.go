package tests

import (
	"fmt"
	"math"
	"math/rand"
	"regexp"
	"slices"
	"strings"
	"testing"

	"loop.example/g00896/impl"
)

var allDetails = []int{impl.DetailFamily, impl.DetailInitials, impl.DetailFull}

var givenPartPattern = regexp.MustCompile(`(\A|-)([A-Za-z])[^-]*`)

// writtenName returns a valid name as a citation has it, whatever the program does.
func writtenName(n impl.Name, detail int) string {
	parts := []string{n.Particle, n.Family}
	switch detail {
	case impl.DetailInitials:
		initials := []string{}
		for _, word := range n.Given {
			initials = append(initials, strings.ToUpper(givenPartPattern.ReplaceAllString(word, "$1$2.")))
		}
		parts = append(initials, parts...)
	case impl.DetailFull:
		parts = append(append(slices.Clone(n.Given), parts...), n.Suffix)
	}
	return strings.Join(strings.Fields(strings.Join(parts, " ")), " ")
}

// citationOf returns the text of a citation of a valid entry, whatever the program does.
func citationOf(e impl.Entry, x impl.Label) string {
	forms := []string{}
	for _, n := range e.Authors {
		forms = append(forms, writtenName(n, x.Detail))
	}
	if len(forms) == 0 {
		for _, n := range e.Editors {
			forms = append(forms, writtenName(n, x.Detail))
		}
	}
	text := strings.Join(forms, ", ")
	if last := strings.LastIndex(text, ", "); last >= 0 {
		text = text[:last] + " and " + text[last+2:]
	}
	if len(forms) > x.Names {
		text = forms[0] + " et al."
	}
	if text == "" {
		text = e.Title
	}
	if text == "" {
		text = e.Key
	}
	letter := " abcdefghijklmnopqrstuvwxyz"[x.Letter : x.Letter+1]
	switch {
	case e.Date.Year == 0:
		text += " n.d.-" + letter
	case e.Date.Circa:
		text += fmt.Sprintf(" ca. %d%s", e.Date.Year, letter)
	default:
		text += fmt.Sprintf(" %d%s", e.Date.Year, letter)
	}
	return strings.TrimSuffix(strings.TrimSuffix(text, " "), "-")
}

// citationsOf returns the texts of labels of all entries, whatever the program does.
func citationsOf(l impl.Library, labels []impl.Label) []string {
	texts := []string{}
	for i, e := range l.Entries {
		texts = append(texts, citationOf(e, labels[i]))
	}
	return texts
}

// sameTexts returns the groups of at least two places with the same text.
func sameTexts(texts []string) [][]int {
	groups := [][]int{}
	for i, text := range texts {
		if slices.Contains(texts[:i], text) || !slices.Contains(texts[i+1:], text) {
			continue
		}
		group := []int{}
		for j, other := range texts {
			if other == text {
				group = append(group, j)
			}
		}
		groups = append(groups, group)
	}
	return groups
}

// plainLabelsOf is what PlainLabels has to return.
func plainLabelsOf(l impl.Library, limit int) []impl.Label {
	labels := []impl.Label{}
	for _, e := range l.Entries {
		labels = append(labels, impl.Label{Key: e.Key, Names: limit, Detail: 1})
	}
	return labels
}

// labelsBeforeLetters is what DisambiguateNames has to return. All entries of a group are changed
// at the same time, so all of its changes are kept, unless the whole group still has one text.
func labelsBeforeLetters(l impl.Library, limit int) []impl.Label {
	labels := plainLabelsOf(l, limit)
	for round := range 3 {
		groups := sameTexts(citationsOf(l, labels))
		changed := slices.Clone(labels)
		for _, group := range groups {
			for _, i := range group {
				if round == 0 {
					changed[i].Names = 4
				} else {
					changed[i].Detail = round + 1
				}
			}
		}
		texts := citationsOf(l, changed)
		for _, group := range groups {
			different := map[string]bool{}
			for _, i := range group {
				different[texts[i]] = true
			}
			if len(different) > 1 {
				for _, i := range group {
					labels[i] = changed[i]
				}
			}
		}
	}
	return labels
}

// withLetters is what DisambiguateAll has to return after these labels.
func withLetters(t *testing.T, l impl.Library, labels []impl.Label) []impl.Label {
	labels = slices.Clone(labels)
	groups := sameTexts(citationsOf(l, labels))
	if len(groups) == 0 {
		return labels
	}
	keys, sorted := keysOf(l), sortedKeys(t, l)
	for _, group := range groups {
		letter := 0
		for _, key := range sorted {
			i := slices.Index(keys, key)
			if slices.Contains(group, i) {
				letter++
				labels[i].Letter = letter
			}
		}
	}
	return labels
}

// keysAt returns the keys at the places of groups.
func keysAt(l impl.Library, groups [][]int) [][]string {
	all := [][]string{}
	for _, group := range groups {
		keys := []string{}
		for _, i := range group {
			keys = append(keys, l.Entries[i].Key)
		}
		all = append(all, keys)
	}
	return all
}

func label(key string, names, detail, letter int) impl.Label {
	return impl.Label{Key: key, Names: names, Detail: detail, Letter: letter}
}

// codesOf writes labels shortly: how many names, whether with families, initials or all, and the
// letter.
func codesOf(labels []impl.Label) string {
	codes := []string{}
	for _, x := range labels {
		code := fmt.Sprintf("%d%c", x.Names, "?fia????"[x.Detail])
		if x.Letter > 0 {
			code += "-" + string(rune('a'+x.Letter-1))
		}
		codes = append(codes, code)
	}
	return strings.Join(codes, " ")
}

// checkLabelList checks a list of labels.
func checkLabelList(t *testing.T, what string, l impl.Library, limit int, got []impl.Label, ok bool, want []impl.Label) {
	t.Helper()
	if !ok || !slices.Equal(got, want) {
		t.Fatalf("%s with the limit %d of\n%s= %v, %v, not %v", what, limit, textOfLibrary(l), got, ok, want)
	}
}

// checkGroups checks AmbiguousGroups, and CitationText and IsValidLabel for all labels.
func checkGroups(t *testing.T, l impl.Library, labels []impl.Label) {
	t.Helper()
	texts := citationsOf(l, labels)
	want := keysAt(l, sameTexts(texts))
	groups, ok := impl.AmbiguousGroups(l, labels)
	if !ok || !slices.EqualFunc(groups, want, slices.Equal[[]string]) {
		t.Fatalf("AmbiguousGroups of %v of\n%s= %q, %v, not %q", labels, textOfLibrary(l), groups, ok, want)
	}
	for i, x := range labels {
		text, ok := impl.CitationText(l, x)
		if !ok || text != texts[i] || !impl.IsValidLabel(l, x) {
			t.Fatalf("CitationText of %v of\n%s= %q, %v, not %q", x, textOfLibrary(l), text, ok, texts[i])
		}
	}
}

// checkLimit checks all functions of a valid library for a limit, and promise 14 for them. It
// returns the labels and texts after the last round.
func checkLimit(t *testing.T, l impl.Library, limit int) ([]impl.Label, []string) {
	t.Helper()
	want := plainLabelsOf(l, limit)
	labels, ok := impl.PlainLabels(l, limit)
	checkLabelList(t, "PlainLabels", l, limit, labels, ok, want)
	checkGroups(t, l, labels)
	want = labelsBeforeLetters(l, limit)
	labels, ok = impl.DisambiguateNames(l, limit)
	checkLabelList(t, "DisambiguateNames", l, limit, labels, ok, want)
	checkGroups(t, l, labels)
	want = withLetters(t, l, want)
	labels, ok = impl.DisambiguateAll(l, limit)
	checkLabelList(t, "DisambiguateAll", l, limit, labels, ok, want)
	checkGroups(t, l, labels)
	texts, ok := impl.CiteAll(l, limit)
	if wanted := citationsOf(l, want); !ok || !slices.Equal(texts, wanted) {
		t.Fatalf("CiteAll with the limit %d of\n%s= %q, %v, not %q", limit, textOfLibrary(l), texts, ok, wanted)
	}
	for i, text := range texts {
		if slices.Contains(texts[:i], text) {
			t.Fatalf("the limit %d: %q twice in the citations of\n%s", limit, text, textOfLibrary(l))
		}
		if key, ok := impl.FindCitation(l, limit, text); !ok || key != l.Entries[i].Key {
			t.Fatalf("FindCitation of %q with the limit %d of\n%s= %q, %v", text, limit, textOfLibrary(l), key, ok)
		}
	}
	return labels, texts
}

// checkDisambiguated checks all functions of a valid library for all limits.
func checkDisambiguated(t *testing.T, l impl.Library) {
	t.Helper()
	for limit := 1; limit <= 4; limit++ {
		checkLimit(t, l, limit)
	}
}

// checkNotFound checks that texts are found only if they are citations.
func checkNotFound(t *testing.T, l impl.Library, limit int, texts ...string) {
	t.Helper()
	all := citationsOf(l, withLetters(t, l, labelsBeforeLetters(l, limit)))
	for _, text := range texts {
		want := ""
		if i := slices.Index(all, text); i >= 0 {
			want = l.Entries[i].Key
		}
		if key, ok := impl.FindCitation(l, limit, text); ok != (want != "") || key != want {
			t.Errorf("FindCitation(%.100q) with the limit %d of\n%s= %q, %v, not %q", text, limit, textOfLibrary(l), key, ok, want)
		}
	}
}

// checkNotDisambiguated checks that there is nothing for a library and a limit.
func checkNotDisambiguated(t *testing.T, l impl.Library, limit int) {
	t.Helper()
	for what, result := range map[string]func(impl.Library, int) ([]impl.Label, bool){
		"PlainLabels": impl.PlainLabels, "DisambiguateNames": impl.DisambiguateNames, "DisambiguateAll": impl.DisambiguateAll,
	} {
		if labels, ok := result(l, limit); ok || len(labels) != 0 {
			t.Errorf("%s(%.300q, %d) = %v, %v", what, fmt.Sprint(l), limit, labels, ok)
		}
	}
	if texts, ok := impl.CiteAll(l, limit); ok || len(texts) != 0 {
		t.Errorf("CiteAll(%.300q, %d) = %q, %v", fmt.Sprint(l), limit, texts, ok)
	}
	for _, text := range []string{"", "Lee 2001", "Lee 2001a"} {
		if key, ok := impl.FindCitation(l, limit, text); ok || key != "" {
			t.Errorf("FindCitation(%.300q, %d, %q) = %q, %v", fmt.Sprint(l), limit, text, key, ok)
		}
	}
}

// checkNoGroups checks that there are no groups.
func checkNoGroups(t *testing.T, what string, l impl.Library, labels []impl.Label) {
	t.Helper()
	if groups, ok := impl.AmbiguousGroups(l, labels); ok || len(groups) != 0 {
		t.Errorf("%s: AmbiguousGroups(%.300q, %.300q) = %q, %v", what, fmt.Sprint(l), fmt.Sprint(labels), groups, ok)
	}
}

// checkNoLabel checks that a label is not valid.
func checkNoLabel(t *testing.T, l impl.Library, x impl.Label) {
	t.Helper()
	text, ok := impl.CitationText(l, x)
	if ok || text != "" || impl.IsValidLabel(l, x) {
		t.Errorf("CitationText(%.300q, %v) = %q, %v", fmt.Sprint(l), x, text, ok)
	}
}

func TestDetails(t *testing.T) {
	if !slices.Equal(allDetails, []int{1, 2, 3}) {
		t.Error("details", allDetails)
	}
	x := impl.Label{Key: "a", Names: 2, Detail: 3, Letter: 4}
	if x != label("a", 2, 3, 4) {
		t.Error("label", x)
	}
}

func TestCitationText(t *testing.T) {
	one, two, three := "Lee, Anna Maria", "van Berg, Jean-paul, Jr; Lee, Anna", "Smith, Ann; de la Hall, B C; O'Neil"
	four := "A, A; b B, B; C, C, I; d e D, D, d"
	for _, c := range []struct {
		e                     impl.Entry
		names                 int
		family, initials, all string
	}{
		// The examples of the chapter.
		{bookOf(two, 1999, "x"), 2, "van Berg and Lee 1999a", "J.-P. van Berg and A. Lee 1999a", "Jean-paul van Berg Jr and Anna Lee 1999a"},
		{bookOf(three, 0, "x"), 1, "Smith et al. n.d.-a", "A. Smith et al. n.d.-a", "Ann Smith et al. n.d.-a"},
		{bookOf(one, 1999, ""), 1, "Lee 1999a", "A. M. Lee 1999a", "Anna Maria Lee 1999a"},
		{bookOf(one, 1999, ""), 4, "Lee 1999a", "A. M. Lee 1999a", "Anna Maria Lee 1999a"},
		{bookOf("Lee", 5, "x"), 1, "Lee 5a", "Lee 5a", "Lee 5a"},
		{bookOf("Lee, , Jr", 2999, "x"), 2, "Lee 2999a", "Lee 2999a", "Lee Jr 2999a"},
		{bookOf(two, 99, "x"), 1, "van Berg et al. 99a", "J.-P. van Berg et al. 99a", "Jean-paul van Berg Jr et al. 99a"},
		{bookOf(two, 987, "x"), 4, "van Berg and Lee 987a", "J.-P. van Berg and A. Lee 987a", "Jean-paul van Berg Jr and Anna Lee 987a"},
		{bookOf(three, 2001, "x"), 2, "Smith et al. 2001a", "A. Smith et al. 2001a", "Ann Smith et al. 2001a"},
		{bookOf(three, 2001, "x"), 3, "Smith, de la Hall and O'Neil 2001a", "A. Smith, B. C. de la Hall and O'Neil 2001a", "Ann Smith, B C de la Hall and O'Neil 2001a"},
		{bookOf(three, 2001, "x"), 4, "Smith, de la Hall and O'Neil 2001a", "A. Smith, B. C. de la Hall and O'Neil 2001a", "Ann Smith, B C de la Hall and O'Neil 2001a"},
		{bookOf(four, 2001, "x"), 3, "A et al. 2001a", "A. A et al. 2001a", "A A et al. 2001a"},
		{bookOf(four, 2001, "x"), 4, "A, b B, C and d e D 2001a", "A. A, B. b B, C. C and D. d e D 2001a", "A A, B b B, C C I and D d e D d 2001a"},
		// Editors, titles and keys in the place of authors.
		{entryFor("", two, year(1999), "x", 0, "k"), 2, "van Berg and Lee 1999a", "J.-P. van Berg and A. Lee 1999a", "Jean-paul van Berg Jr and Anna Lee 1999a"},
		{entryFor("", two, year(1999), "x", 0, "k"), 1, "van Berg et al. 1999a", "J.-P. van Berg et al. 1999a", "Jean-paul van Berg Jr et al. 1999a"},
		{entryFor(one, two, year(1999), "x", 0, "k"), 1, "Lee 1999a", "A. M. Lee 1999a", "Anna Maria Lee 1999a"},
		{entryFor("", "", year(1999), "The {DNA} of \"A, B\"", 0, "k"), 1, "The {DNA} of \"A, B\" 1999a", "The {DNA} of \"A, B\" 1999a", "The {DNA} of \"A, B\" 1999a"},
		{entryFor("", "", year(1999), "", 0, "k"), 1, "k 1999a", "k 1999a", "k 1999a"},
		{entryFor("", "", impl.Date{}, "", 7, "k9"), 4, "k9 n.d.-a", "k9 n.d.-a", "k9 n.d.-a"},
		{entryFor("", "", impl.Date{}, "Maps", 7, "k9"), 4, "Maps n.d.-a", "Maps n.d.-a", "Maps n.d.-a"},
		// Only the year is there, as it is rendered.
		{entryFor("Lee", "", month(1999, 5), "", 0, "k"), 1, "Lee 1999a", "Lee 1999a", "Lee 1999a"},
		{entryFor("Lee", "", day(1999, 5, 3), "", 0, "k"), 1, "Lee 1999a", "Lee 1999a", "Lee 1999a"},
		{entryFor("Lee", "", circa(1850), "", 0, "k"), 1, "Lee ca. 1850a", "Lee ca. 1850a", "Lee ca. 1850a"},
		{entryFor("Lee", "", circa(7), "", 0, "k"), 1, "Lee ca. 7a", "Lee ca. 7a", "Lee ca. 7a"},
	} {
		l := impl.Library{Entries: []impl.Entry{c.e}}
		for i, want := range []string{c.family, c.initials, c.all} {
			x := impl.Label{Key: c.e.Key, Names: c.names, Detail: allDetails[i], Letter: 1}
			text, ok := impl.CitationText(l, x)
			checkSameText(t, fmt.Sprint("CitationText of ", x), want, text, ok, want, true)
			x.Letter = 0
			want = strings.TrimSuffix(strings.TrimSuffix(want, "a"), "-")
			text, ok = impl.CitationText(l, x)
			checkSameText(t, fmt.Sprint("CitationText of ", x), want, text, ok, want, true)
			checkGroups(t, l, []impl.Label{x})
		}
	}
}

func TestLettersOfCitations(t *testing.T) {
	l := labelled(bookOf("Lee, Anna", 1999, ""), bookOf("", 0, ""), entryFor("", "Lee, Anna", circa(12), "", 0, "k"))
	for i, letter := range strings.Split("abcdefghijklmnopqrstuvwxyz", "") {
		for key, want := range map[string]string{"a": "A. Lee 1999" + letter, "a0": "a0 n.d.-" + letter, "a1b": "A. Lee ca. 12" + letter} {
			x := impl.Label{Key: key, Names: 1, Detail: 2, Letter: i + 1}
			text, ok := impl.CitationText(l, x)
			checkSameText(t, fmt.Sprint(x), letter, text, ok, want, true)
		}
	}
}

func TestCitationTextOfManyEntries(t *testing.T) {
	r := rand.New(rand.NewSource(140))
	names, dates := manyNames(), someDates()
	for range 1500 {
		l := impl.Library{}
		for _, key := range someKeys[:1+r.Intn(3)] {
			l.Entries = append(l.Entries, randomEntry(r, key, names, dates))
		}
		for limit := range 4 {
			for _, detail := range allDetails {
				labels := []impl.Label{}
				for _, e := range l.Entries {
					labels = append(labels, impl.Label{Key: e.Key, Names: limit + 1, Detail: detail, Letter: r.Intn(27)})
				}
				checkGroups(t, l, labels)
			}
		}
	}
}

func TestIsValidLabel(t *testing.T) {
	l := labelled(bookOf("Lee", 1999, ""), bookOf("Lee", 1999, ""), bookOf("", 0, ""))
	numbers := []int{math.MinInt, math.MinInt + 1, -1 << 32, -27, -4, -3, -2, -1, 0, 1, 2, 3, 4, 5, 6, 25, 26, 27, 28, 255, 256, 257, 1 << 32, 1<<32 + 1, math.MaxInt}
	for _, key := range append([]string{"a", "a0", "a1b", "b", "a1", "a2", "z", ""}, invalidKeys()...) {
		for _, names := range numbers {
			for _, detail := range numbers {
				for _, letter := range numbers {
					x := impl.Label{Key: key, Names: names, Detail: detail, Letter: letter}
					has := key == "a" || key == "a0" || key == "a1b"
					fine := has && names >= 1 && names <= 4 && detail >= 1 && detail <= 3 && letter >= 0 && letter <= 26
					if impl.IsValidLabel(l, x) != fine {
						t.Fatalf("IsValidLabel(%v) = %v", x, !fine)
					}
					if !has && (names != 1 || detail != 1) {
						continue
					}
					if text, ok := impl.CitationText(l, x); ok != fine || ok == (text == "") {
						t.Fatalf("CitationText(%v) = %q, %v", x, text, ok)
					}
				}
			}
		}
	}
	x := impl.Label{Key: "a", Names: 1, Detail: 1}
	checkNoLabel(t, impl.Library{}, x)
	checkNoLabel(t, impl.Library{}, impl.Label{})
	checkNoLabel(t, l, impl.Label{})
	for i := range l.Entries {
		checkNoLabel(t, without(l, someKeys[i]), impl.Label{Key: someKeys[i], Names: 1, Detail: 1})
	}
}

func TestPlainLabels(t *testing.T) {
	l := labelled(bookOf("Lee; Hall", 1999, ""), bookOf("Lee; Hall", 1999, ""), bookOf("", 0, ""))
	for limit, codes := range map[int]string{1: "1f 1f 1f", 2: "2f 2f 2f", 3: "3f 3f 3f", 4: "4f 4f 4f"} {
		labels, ok := impl.PlainLabels(l, limit)
		if !ok || codesOf(labels) != codes || labels[0].Key != "a" || labels[1].Key != "a0" || labels[2].Key != "a1b" {
			t.Errorf("PlainLabels with the limit %d = %v, %v", limit, labels, ok)
		}
		labels, ok = impl.PlainLabels(impl.Library{}, limit)
		if !ok || len(labels) != 0 {
			t.Errorf("PlainLabels of nothing = %v, %v", labels, ok)
		}
	}
}

func TestAmbiguousGroups(t *testing.T) {
	ann, anna, bo := bookOf("Lee, Ann", 1999, ""), bookOf("Lee, Anna", 1999, ""), bookOf("Lee, Bo", 1999, "")
	all := labelled(ann, anna, bo, ann, bookOf("Ash", 1999, ""), bookOf("", 0, ""), bookOf("Ash", 1999, ""), bo)
	for _, c := range []struct {
		what   string
		l      impl.Library
		change func(i int, x *impl.Label)
		want   string
	}{
		{"nothing", labelled(), func(i int, x *impl.Label) {}, "[]"},
		{"one entry", labelled(ann), func(i int, x *impl.Label) {}, "[]"},
		{"two different entries", labelled(ann, bookOf("Ash", 1999, "")), func(i int, x *impl.Label) {}, "[]"},
		{"two equal entries", labelled(ann, ann), func(i int, x *impl.Label) {}, "[[a a0]]"},
		{"families", all, func(i int, x *impl.Label) {}, "[[a a0 a1b aa ba] [ab b9]]"},
		{"initials", all, func(i int, x *impl.Label) { x.Detail = 2 }, "[[a a0 aa] [a1b ba] [ab b9]]"},
		{"full names", all, func(i int, x *impl.Label) { x.Detail = 3 }, "[[a aa] [a1b ba] [ab b9]]"},
		{"one with initials", all, func(i int, x *impl.Label) {
			if i == 3 {
				x.Detail = 2
			}
		}, "[[a a0 a1b ba] [ab b9]]"},
		{"one in full", all, func(i int, x *impl.Label) {
			if i == 0 {
				x.Detail = 3
			}
		}, "[[a0 a1b aa ba] [ab b9]]"},
		{"the same letter", all, func(i int, x *impl.Label) { x.Letter = 26 }, "[[a a0 a1b aa ba] [ab b9]]"},
		{"letters", all, func(i int, x *impl.Label) { x.Letter = i }, "[]"},
		{"letters in turn", all, func(i int, x *impl.Label) { x.Letter = i % 3 }, "[[a aa] [a0 ba]]"},
		{"a letter or none", all, func(i int, x *impl.Label) { x.Letter = i / 6 }, "[[a a0 a1b aa]]"},
		{"details in turn", all, func(i int, x *impl.Label) { x.Detail = 1 + i%3 }, "[[a aa] [ab b9]]"},
		{"Names do not count for one name", all, func(i int, x *impl.Label) { x.Names = 1 + i%4 }, "[[a a0 a1b aa ba] [ab b9]]"},
		{"groups within each other", labelled(ann, bookOf("Ash", 1999, ""), bookOf("Hall", 1999, ""), bookOf("Hall", 1999, ""), bookOf("Ash", 1999, ""), ann), func(i int, x *impl.Label) {}, "[[a b] [a0 ab] [a1b aa]]"},
	} {
		labels := plainLabelsOf(c.l, 2)
		for i := range labels {
			c.change(i, &labels[i])
		}
		groups, ok := impl.AmbiguousGroups(c.l, labels)
		if got := fmt.Sprint(groups); !ok || got != c.want {
			t.Errorf("%s: %s, %v, not %s", c.what, got, ok, c.want)
		}
		checkGroups(t, c.l, labels)
	}
	if groups, ok := impl.AmbiguousGroups(impl.Library{}, nil); !ok || len(groups) != 0 {
		t.Errorf("no labels of no entries: %q, %v", groups, ok)
	}
	if groups, ok := impl.AmbiguousGroups(impl.Library{Entries: []impl.Entry{}}, []impl.Label{}); !ok || len(groups) != 0 {
		t.Errorf("no labels of no entries: %q, %v", groups, ok)
	}
}

func TestGroupsNeedOneValidLabelForEveryEntry(t *testing.T) {
	e := bookOf("Lee", 1999, "")
	l := labelled(e, e, e)
	labels := plainLabelsOf(l, 1)
	checkGroups(t, l, labels)
	for what, list := range map[string][]impl.Label{
		"none": nil, "two": labels[:2], "the last two": labels[1:], "the first one": labels[:1], "one too many": append(slices.Clone(labels), labels[2]), "an empty one too many": append(slices.Clone(labels), impl.Label{}),
		"the first one twice": {labels[0], labels[0], labels[2]}, "the last one twice": {labels[0], labels[2], labels[2]}, "the first two exchanged": {labels[1], labels[0], labels[2]},
		"the last two exchanged": {labels[0], labels[2], labels[1]}, "backwards": {labels[2], labels[1], labels[0]}, "in turn": {labels[1], labels[2], labels[0]}, "empty ones": make([]impl.Label, 3), "very many": make([]impl.Label, 5000),
	} {
		checkNoGroups(t, what, l, list)
		if len(list) > 0 {
			checkNoGroups(t, what, impl.Library{}, list)
		}
	}
	for i := range labels {
		for _, bad := range []impl.Label{
			label("z", 1, 1, 0), label("", 1, 1, 0), label("A", 1, 1, 0), label(labels[i].Key+"x", 1, 1, 0), label(" "+labels[i].Key, 1, 1, 0), label(labels[i].Key, 0, 1, 0), label(labels[i].Key, -1, 1, 0), label(labels[i].Key, 5, 1, 0), label(labels[i].Key, math.MaxInt, 1, 0), label(labels[i].Key, 1, 0, 0),
			label(labels[i].Key, 1, -1, 0), label(labels[i].Key, 1, 4, 0), label(labels[i].Key, 1, 1, -1), label(labels[i].Key, 1, 1, 27), label(labels[i].Key, 1, 1, math.MinInt), label(labels[i].Key, 1, math.MaxInt, 0),
		} {
			changed := slices.Clone(labels)
			changed[i] = bad
			checkNoGroups(t, "an invalid one", l, changed)
		}
		for _, fine := range []impl.Label{label(labels[i].Key, 4, 1, 0), label(labels[i].Key, 1, 3, 0), label(labels[i].Key, 1, 1, 26), label(labels[i].Key, 4, 3, 26)} {
			changed := slices.Clone(labels)
			changed[i] = fine
			checkGroups(t, l, changed)
		}
	}
}

// disambiguationCases are libraries of books of the same year that have only authors, their labels
// after the last round and the texts of these.
var disambiguationCases = []struct {
	what    string
	limit   int
	authors string
	codes   string
	texts   string
}{
	{"nothing", 1, "", "", ""},
	{"one entry", 1, "Lee, Ann; Ash", "1f", "Lee et al. 1999"},
	{"one entry with the limit 4", 4, "Lee, Ann; Ash", "4f", "Lee and Ash 1999"},
	{"different at once", 1, "Lee, Ann | Ash, Ann", "1f 1f", "Lee 1999 | Ash 1999"},
	{"different in number", 1, "Lee | Lee; Lee", "1f 1f", "Lee 1999 | Lee et al. 1999"},
	{"different in number behind the limit", 1, "Lee; Ash | Lee; Ash; Hall", "4f 4f", "Lee and Ash 1999 | Lee, Ash and Hall 1999"},
	{"different in a name behind the limit", 1, "Lee, A; Ash | Lee, A; Hall", "4f 4f", "Lee and Ash 1999 | Lee and Hall 1999"},
	{"different in the last name behind the limit", 3, "Lee; Lee; Lee; Ash | Lee; Lee; Lee; Hall", "4f 4f", "Lee, Lee, Lee and Ash 1999 | Lee, Lee, Lee and Hall 1999"},
	{"the same names within the limit", 2, "Lee; Ash | Lee; Hall", "2f 2f", "Lee and Ash 1999 | Lee and Hall 1999"},
	{"different in their order", 2, "Lee; Ash | Ash; Lee", "2f 2f", "Lee and Ash 1999 | Ash and Lee 1999"},
	{"different in their order behind the limit", 1, "Lee; Ash; Hall | Lee; Hall; Ash", "4f 4f", "Lee, Ash and Hall 1999 | Lee, Hall and Ash 1999"},
	{"different in a Particle", 1, "van Lee | Lee | van de Lee | de Lee", "1f 1f 1f 1f", "van Lee 1999 | Lee 1999 | van de Lee 1999 | de Lee 1999"},
	{"different in case", 1, "Lee | LEE | LeE", "1f 1f 1f", "Lee 1999 | LEE 1999 | LeE 1999"},
	{"different in initials", 1, "Lee, Ann | Lee, Bo", "1i 1i", "A. Lee 1999 | B. Lee 1999"},
	{"different in the number of initials", 2, "Lee, Ann | Lee, Ann B | Lee", "2i 2i 2i", "A. Lee 1999 | A. B. Lee 1999 | Lee 1999"},
	{"different in initials behind hyphens", 1, "Lee, Ann-b | Lee, Ann-c", "1i 1i", "A.-B. Lee 1999 | A.-C. Lee 1999"},
	{"different in initials of a second name", 2, "Lee; Ash, A | Lee; Ash, B", "2i 2i", "Lee and A. Ash 1999 | Lee and B. Ash 1999"},
	{"different in initials of a name behind the limit", 1, "Lee; Ash, A | Lee; Ash, B", "1f-a 1f-b", "Lee et al. 1999a | Lee et al. 1999b"},
	{"different in initials of the first name before the limit", 1, "Lee, A; Ash | Lee, B; Ash", "1i 1i", "A. Lee et al. 1999 | B. Lee et al. 1999"},
	{"different only in full", 1, "Lee, Ann | Lee, Anna", "1a 1a", "Ann Lee 1999 | Anna Lee 1999"},
	{"different only in full, in a second Given word", 3, "Lee, A Bo | Lee, A B", "3a 3a", "A Bo Lee 1999 | A B Lee 1999"},
	{"different only in full, behind a hyphen", 3, "Lee, A-bo | Lee, A-b | Lee, A-Bo", "3a 3a 3a", "A-bo Lee 1999 | A-b Lee 1999 | A-Bo Lee 1999"},
	{"different only in a Suffix", 1, "Lee, A | Lee, A, Jr | Lee, A, jr", "1a 1a 1a", "A Lee 1999 | A Lee Jr 1999 | A Lee jr 1999"},
	{"different only in a second name in full", 2, "Lee; Ash, A | Lee; Ash, Ann", "2a 2a", "Lee and A Ash 1999 | Lee and Ann Ash 1999"},
	{"different only in a name behind the limit in full", 1, "Lee; Ash, A | Lee; Ash, Ann", "1f-a 1f-b", "Lee et al. 1999a | Lee et al. 1999b"},
	{"not different at all with a Particle", 1, "de Lee, A | de Lee, A", "1f-a 1f-b", "de Lee 1999a | de Lee 1999b"},
	{"different families that are the same in full", 1, "Lee, A, Jr | Lee, A | Jr, A Lee | Jr, Ann Lee", "1a-b 1a 1a-a 1a", "A Lee Jr 1999b | A Lee 1999 | A Lee Jr 1999a | Ann Lee Jr 1999"},
	{"not different at all", 1, "Lee, A | Lee, A", "1f-a 1f-b", "Lee 1999a | Lee 1999b"},
	{"not different at all behind the limit", 1, "Lee, A; B | Lee, A; B | Lee, A; B", "1f-a 1f-b 1f-c", "Lee et al. 1999a | Lee et al. 1999b | Lee et al. 1999c"},
	// Groups that fall into smaller ones, and those that are left.
	{"one of three told apart by a name", 1, "Lee; B | Lee; A | Lee; B", "4f-a 4f 4f-b", "Lee and B 1999a | Lee and A 1999 | Lee and B 1999b"},
	{"one of three told apart by initials", 1, "Lee, B | Lee, A | Lee, B", "1i-a 1i 1i-b", "B. Lee 1999a | A. Lee 1999 | B. Lee 1999b"},
	{"one of three told apart in full", 1, "Lee, Anna | Lee, Ann | Lee, Anna", "1a-a 1a 1a-b", "Anna Lee 1999a | Ann Lee 1999 | Anna Lee 1999b"},
	{"one by initials, two in full", 1, "Lee, Ann | Lee, Bo | Lee, Anna", "1a 1i 1a", "Ann Lee 1999 | B. Lee 1999 | Anna Lee 1999"},
	{"by a name, by initials and in full", 1, "Lee; A | Lee; B, C | Lee; B, D | Lee; B, Dee", "4f 4i 4a 4a", "Lee and A 1999 | Lee and C. B 1999 | Lee and D B 1999 | Lee and Dee B 1999"},
	{"two pairs by initials", 2, "Lee, A | Lee, B | Lee, A | Lee, B", "2i-a 2i-a 2i-b 2i-b", "A. Lee 1999a | B. Lee 1999a | A. Lee 1999b | B. Lee 1999b"},
	{"two groups", 1, "Lee, A | Ash, Ann | Lee, B | Ash, Anna", "1i 1a 1i 1a", "A. Lee 1999 | Ann Ash 1999 | B. Lee 1999 | Anna Ash 1999"},
	{"two groups, one of them left", 1, "Lee, A | Ash, Ann | Lee, A | Ash, Anna", "1f-a 1a 1f-b 1a", "Lee 1999a | Ann Ash 1999 | Lee 1999b | Anna Ash 1999"},
	{"a pair told apart by its first name keeps its limit", 1, "Lee, A; Ash | Lee, B; Ash | Lee, A; Ash", "1i-a 1i 1i-b", "A. Lee et al. 1999a | B. Lee et al. 1999 | A. Lee et al. 1999b"},
	{"Names of the first round stay with the later ones", 2, "Lee; A; B | Lee; A; C, D | Lee; A; C, E", "4f 4i 4i", "Lee, A and B 1999 | Lee, A and D. C 1999 | Lee, A and E. C 1999"},
	{"a full library of the same", 1, "Lee | Lee | Lee | Lee | Lee | Lee | Lee | Lee", "1f-a 1f-b 1f-c 1f-d 1f-e 1f-f 1f-g 1f-h", "Lee 1999a | Lee 1999b | Lee 1999c | Lee 1999d | Lee 1999e | Lee 1999f | Lee 1999g | Lee 1999h"},
	// The letters follow the order of SortLibrary.
	{"two left of the same in full, three in all", 1, "Lee, B | Lee, Anna | Lee, Anna", "1i 1i-a 1i-b", "B. Lee 1999 | A. Lee 1999a | A. Lee 1999b"},
	{"left behind the limit in another order", 1, "Lee; Ash, Z | Lee; Ash, Y | Lee; Ash, X", "1f-c 1f-b 1f-a", "Lee et al. 1999c | Lee et al. 1999b | Lee et al. 1999a"},
	{"left behind the limit in the order of their second names", 2, "Lee; Hall; Ash, Zoe | Lee; Hall; Ash | Lee; Hall; Ash, Y", "2f-c 2f-a 2f-b", "Lee et al. 1999c | Lee et al. 1999a | Lee et al. 1999b"},
	{"initials that are words in full", 1, "Lee, A | Lee, A B | Lee, Ann B", "1i 1a 1a", "A. Lee 1999 | A B Lee 1999 | Ann B Lee 1999"},
}

func TestDisambiguation(t *testing.T) {
	for _, c := range disambiguationCases {
		entries, wanted := []impl.Entry{}, []string{}
		if c.authors != "" {
			wanted = strings.Split(c.texts, " | ")
			for _, authors := range strings.Split(c.authors, " | ") {
				entries = append(entries, bookOf(authors, 1999, ""))
			}
		}
		l := labelled(entries...)
		checkDisambiguated(t, l)
		labels, texts := checkLimit(t, l, c.limit)
		if codesOf(labels) != c.codes || !slices.Equal(texts, wanted) {
			t.Errorf("%s: %s and %q, not %s and %q", c.what, codesOf(labels), texts, c.codes, wanted)
		}
		for i := range labels {
			labels[i].Letter = 0
		}
		before, ok := impl.DisambiguateNames(l, c.limit)
		if !ok || !slices.Equal(before, labels) {
			t.Errorf("%s: DisambiguateNames = %s, %v", c.what, codesOf(before), ok)
		}
	}
}

func TestDisambiguationOfOtherEntries(t *testing.T) {
	lee := "Lee, Ann"
	editor := entryFor("", "Lee, Ann; Ash", year(1999), "", 0, "k")
	for _, c := range []struct {
		what         string
		limit        int
		l            impl.Library
		codes, texts string
	}{
		{"the years", 1, labelled(bookOf(lee, 1999, ""), bookOf(lee, 2000, ""), bookOf(lee, 199, ""), bookOf(lee, 0, "")), "1f 1f 1f 1f", "Lee 1999 | Lee 2000 | Lee 199 | Lee n.d."},
		{"an approximate year", 1, labelled(bookOf(lee, 1999, ""), entryFor(lee, "", circa(1999), "", 0, "k"), entryFor(lee, "", circa(1999), "", 0, "k")), "1f 1f-a 1f-b", "Lee 1999 | Lee ca. 1999a | Lee ca. 1999b"},
		{"the month does not count", 1, labelled(entryFor(lee, "", month(1999, 5), "", 0, "k"), entryFor(lee, "", day(1999, 4, 3), "", 0, "k"), bookOf(lee, 1999, "")), "1f-c 1f-b 1f-a", "Lee 1999c | Lee 1999b | Lee 1999a"},
		{"no date", 1, labelled(bookOf(lee, 0, ""), bookOf(lee, 0, ""), bookOf("Ash", 0, "")), "1f-a 1f-b 1f", "Lee n.d.-a | Lee n.d.-b | Ash n.d."},
		{"the titles", 1, labelled(bookOf(lee, 1999, "The zoo"), bookOf(lee, 1999, "A road"), bookOf(lee, 1999, "my zoo")), "1f-c 1f-b 1f-a", "Lee 1999c | Lee 1999b | Lee 1999a"},
		{"the volumes", 1, labelled(entryFor(lee, "", year(1999), "x", 10, "k"), entryFor(lee, "", year(1999), "x", 9, "k"), entryFor(lee, "", year(1999), "x", 0, "k")), "1f-c 1f-b 1f-a", "Lee 1999c | Lee 1999b | Lee 1999a"},
		{"other fields", 1, labelled(impl.Entry{Kind: 4, Container: "b", Publisher: "b", Pages: "2", Cross: "z"}, impl.Entry{Kind: 1, Container: "a", Publisher: "a", Pages: "1"}), "1f 1f", "a n.d. | a0 n.d."},
		{"editors", 1, labelled(editor, bookOf("Lee, Ann; Ash", 1999, ""), bookOf("Lee, Ann; Hall", 1999, "")), "4f-a 4f-b 4f", "Lee and Ash 1999a | Lee and Ash 1999b | Lee and Hall 1999"},
		{"editors beside authors", 1, labelled(entryFor(lee, "Ash", year(1999), "", 0, "k"), entryFor(lee, "Hall", year(1999), "", 0, "k")), "1f-a 1f-b", "Lee 1999a | Lee 1999b"},
		{"neither names nor titles", 1, labelled(bookOf("", 0, ""), bookOf("", 0, ""), bookOf("", 1999, "")), "1f 1f 1f", "a n.d. | a0 n.d. | a1b 1999"},
		{"the same titles", 3, labelled(bookOf("", 0, "Maps"), bookOf("", 0, "Maps"), bookOf("", 0, "maps")), "3f-a 3f-b 3f", "Maps n.d.-a | Maps n.d.-b | maps n.d."},
		{"a title that is a key", 1, labelled(bookOf("", 0, "a0"), bookOf("", 0, "")), "1f-b 1f-a", "a0 n.d.-b | a0 n.d.-a"},
		{"titles with the same letters", 1, labelled(bookOf("", 5, "The maps"), bookOf("", 5, "The maps"), bookOf("", 5, "maps")), "1f-a 1f-b 1f", "The maps 5a | The maps 5b | maps 5"},
		{"a title that is a family", 1, labelled(bookOf(lee, 1999, ""), bookOf("", 1999, "Lee")), "1i 1i", "A. Lee 1999 | Lee 1999"},
		{"a title that is a name with initials", 1, labelled(bookOf(lee, 1999, ""), bookOf("Lee, Bo", 1999, ""), bookOf("", 1999, "A. Lee")), "1a 1i 1a", "Ann Lee 1999 | B. Lee 1999 | A. Lee 1999"},
		{"a title that is a full name", 1, labelled(bookOf(lee, 1999, ""), bookOf("Lee, Anna", 1999, ""), bookOf("", 1999, "Ann Lee")), "1a-b 1a 1f-a", "Ann Lee 1999b | Anna Lee 1999 | Ann Lee 1999a"},
		{"a title that is all names", 1, labelled(bookOf("Lee, A; Ash", 1999, ""), bookOf("Lee, A; Hall", 1999, ""), bookOf("", 1999, "Lee and Ash")), "4i 4f 1i", "A. Lee and Ash 1999 | Lee and Hall 1999 | Lee and Ash 1999"},
		{"a title that is all names without Given words", 1, labelled(bookOf("Lee; Ash", 1999, ""), bookOf("Lee; Hall", 1999, ""), bookOf("", 1999, "Lee and Ash")), "4f-b 4f 1f-a", "Lee and Ash 1999b | Lee and Hall 1999 | Lee and Ash 1999a"},
		{"a title that is the first name and others", 1, labelled(bookOf("Lee; Ash", 1999, ""), bookOf("Lee; Ash", 1999, ""), bookOf("", 1999, "Lee et al.")), "4f-a 4f-b 4f", "Lee and Ash 1999a | Lee and Ash 1999b | Lee et al. 1999"},
		{"titles with a year", 1, labelled(bookOf("", 1999, "Lee 1999a"), bookOf("", 1999, "Lee"), bookOf("Lee", 1999, ""), bookOf("", 0, "Lee 1999")), "1f 1f-a 1f-b 1f", "Lee 1999a 1999 | Lee 1999a | Lee 1999b | Lee 1999 n.d."},
		{"titles with n.d.", 1, labelled(bookOf("", 0, "Lee n.d.-a"), bookOf("", 0, "Lee"), bookOf("Lee", 0, ""), bookOf("", 0, "Lee n.d.")), "1f 1f-a 1f-b 1f", "Lee n.d.-a n.d. | Lee n.d.-a | Lee n.d.-b | Lee n.d. n.d."},
		{"a title with ca.", 1, labelled(bookOf("", 1850, "Lee ca."), entryFor("Lee", "", circa(1850), "", 0, "k"), entryFor("Lee, A", "", circa(1850), "", 0, "k")), "1i-a 1i-b 1i", "Lee ca. 1850a | Lee ca. 1850b | A. Lee ca. 1850"},
		{"more names than listed, the same first one", 2, labelled(bookOf("Lee, A; B; C", 1999, ""), bookOf("Lee, A; C; B", 1999, ""), bookOf("Lee, B; B; C", 1999, "")), "4i 4f 4i", "A. Lee, B and C 1999 | Lee, C and B 1999 | B. Lee, B and C 1999"},
	} {
		checkDisambiguated(t, c.l)
		labels, texts := checkLimit(t, c.l, c.limit)
		if got := strings.Join(texts, " | "); codesOf(labels) != c.codes || got != c.texts {
			t.Errorf("%s: %s and %q, not %s and %q", c.what, codesOf(labels), got, c.codes, c.texts)
		}
	}
}

func TestLettersFollowTheOrderOfTheLibrary(t *testing.T) {
	titles := []string{"Air", "Bay", "Cat", "Dam"}
	for _, order := range permutations(titles) {
		entries, want := []impl.Entry{}, []string{}
		for _, title := range order {
			entries = append(entries, bookOf("Lee, Ann; Ash", 1999, title))
			want = append(want, "Lee et al. 1999"+strings.ToLower(title[:1]))
		}
		l := labelled(entries...)
		_, texts := checkLimit(t, l, 1)
		if !slices.Equal(texts, want) {
			t.Errorf("%q: %q, not %q", order, texts, want)
		}
	}
}

// touchingEntries have texts that rounds make equal to those of other ones.
func touchingEntries() []impl.Entry {
	entries := []impl.Entry{}
	for _, authors := range []string{"Lee", "Lee, Ann", "Lee, Anna", "Lee, Bo", "Lee, Ann; Ash", "Lee, Bo; Ash", "Lee, Anna; Hall"} {
		entries = append(entries, bookOf(authors, 1999, "x"))
	}
	for _, title := range []string{"Lee", "A. Lee", "Lee et al.", "Lee and Ash", "A. Lee et al."} {
		entries = append(entries, bookOf("", 1999, title))
	}
	return entries
}

func TestAllSmallLibrariesOfTouchingEntries(t *testing.T) {
	entries := touchingEntries()
	for _, a := range entries {
		checkDisambiguated(t, labelled(a))
		for _, b := range entries {
			checkDisambiguated(t, labelled(a, b))
			for _, c := range entries {
				checkDisambiguated(t, labelled(a, b, c))
			}
		}
	}
}

func TestAllLibrariesOfAFewTouchingEntries(t *testing.T) {
	pool := touchingEntries()
	pool = []impl.Entry{pool[1], pool[2], pool[5], pool[4], pool[7], pool[8]}
	for _, s := range stringsOver("012345", 4) {
		entries := []impl.Entry{}
		for i := range len(s) {
			entries = append(entries, pool[s[i]-'0'])
		}
		l := labelled(entries...)
		checkLimit(t, l, 1)
		checkLimit(t, l, 2)
	}
}

// closeCitation returns an entry whose citation other ones often have.
func closeCitation(r *rand.Rand) impl.Entry {
	people := []string{"Lee, Ann", "Lee, Anna", "Lee, A", "Lee, Bo", "Lee, Ann, Jr", "Ash", "Ash, A", "van Lee, A"}
	list := []string{}
	for range r.Intn(5) {
		list = append(list, people[r.Intn(1+r.Intn(len(people)))])
	}
	titles := []string{"", "x", "The x", "Lee", "A. Lee", "Lee and Lee", "Lee et al.", "Lee and Ash", "Ann Lee", "A. Lee et al.", "Lee ca."}
	dates := []impl.Date{year(1999), year(1999), month(1999, 5), circa(1999), {}}
	e := entryFor(strings.Join(list, "; "), "", dates[r.Intn(1+r.Intn(len(dates)))], titles[r.Intn(len(titles))], r.Intn(3), "k")
	if r.Intn(3) == 0 {
		e.Authors, e.Editors = e.Editors, e.Authors
	}
	return e
}

// randomCitations returns a library with some of someKeys in which citations are often equal.
func randomCitations(r *rand.Rand) impl.Library {
	l := impl.Library{}
	for _, i := range r.Perm(len(someKeys))[:r.Intn(len(someKeys))] {
		e := closeCitation(r)
		e.Key = someKeys[i]
		l.Entries = append(l.Entries, e)
	}
	slices.SortFunc(l.Entries, func(a, b impl.Entry) int { return strings.Compare(a.Key, b.Key) })
	return l
}

// randomLabelsFor returns valid labels for all entries.
func randomLabelsFor(r *rand.Rand, l impl.Library) []impl.Label {
	labels := []impl.Label{}
	for _, e := range l.Entries {
		labels = append(labels, impl.Label{Key: e.Key, Names: 1 + r.Intn(4), Detail: 1 + r.Intn(3), Letter: r.Intn(2) * r.Intn(27) / 13})
	}
	return labels
}

func TestDisambiguationOfManyLibraries(t *testing.T) {
	r := rand.New(rand.NewSource(141))
	letters, rounds := 0, map[string]int{}
	for range 2000 {
		l := randomCitations(r)
		checkGroups(t, l, randomLabelsFor(r, l))
		for limit := 1; limit <= 4; limit++ {
			labels, _ := checkLimit(t, l, limit)
			for _, x := range labels {
				letters += min(x.Letter, 1)
				rounds[fmt.Sprint(x.Names > limit, x.Detail)]++
			}
		}
	}
	// Every mixture of changes has to occur often, or the libraries would not be close enough.
	for mixture, number := range rounds {
		if number < 250 {
			t.Errorf("labels with %s occur only %d times", mixture, number)
		}
	}
	if len(rounds) != 6 || letters < 1500 {
		t.Errorf("only %v labels, %d letters", rounds, letters)
	}
}

func TestDisambiguationOfFullLibraries(t *testing.T) {
	r := rand.New(rand.NewSource(142))
	names, dates := manyNames(), someDates()
	for range 200 {
		l := impl.Library{}
		few := names[:1+r.Intn(20)]
		for _, key := range someKeys[:8] {
			l.Entries = append(l.Entries, randomEntry(r, key, few, dates[:1+r.Intn(3)]))
		}
		checkDisambiguated(t, l)
	}
}

func TestLibrariesOfTheSameCitation(t *testing.T) {
	for _, e := range []impl.Entry{bookOf("Lee, Ann", 1999, "x"), bookOf("Lee; Ash", 0, ""), bookOf("", 0, "Maps"), bookOf("", 12, "Maps"), entryFor("", "Lee", circa(1850), "", 0, "k")} {
		entries := []impl.Entry{}
		for range 8 {
			entries = append(entries, e)
			l := labelled(entries...)
			checkDisambiguated(t, l)
			labels, _ := checkLimit(t, l, 1)
			for i, x := range labels {
				if len(entries) > 1 && x.Letter != i+1 {
					t.Errorf("%d entries: the letter %d of %q", len(entries), x.Letter, x.Key)
				}
			}
		}
	}
}

func TestFindCitation(t *testing.T) {
	l := labelled(bookOf("Lee, Ann", 1999, ""), bookOf("Lee, Anna", 1999, ""), bookOf("Lee, Ann", 1999, ""), bookOf("Ash; Hall", 0, ""), bookOf("", 0, "Maps"), bookOf("", 0, "Maps"), bookOf("", 0, ""))
	for text, key := range map[string]string{
		"Ann Lee 1999a": "a", "Ann Lee 1999b": "a1b", "Anna Lee 1999": "a0", "Ash et al. n.d.": "aa", "Maps n.d.-a": "ab", "Maps n.d.-b": "b", "b9 n.d.": "b9",
		"Lee 1999": "", "Lee 1999a": "", "A. Lee 1999": "", "Ann Lee 1999": "", "Ann Lee 1999c": "", "Anna Lee 1999a": "", "Ash and Hall n.d.": "", "Ash n.d.": "", "Maps n.d.": "", "Maps n.d.a": "", "Maps n.d.-c": "", "Maps n.d.-": "",
		"b9": "", "a": "", "": "", " ": "", "ann lee 1999a": "", "Ann Lee 1999A": "", " Ann Lee 1999a": "", "Ann Lee 1999a ": "", "Ann  Lee 1999a": "", "\xff": "", "Ann Lee 1999a\x00": "", strings.Repeat("Ann Lee 1999a", 1000): "",
	} {
		found, ok := impl.FindCitation(l, 1, text)
		checkSameText(t, "FindCitation", text, found, ok, key, key != "")
		found, ok = impl.FindCitation(impl.Library{}, 1, text)
		checkSameText(t, "FindCitation of nothing", text, found, ok, "", false)
	}
	for text, limits := range map[string]string{"Ash et al. n.d.": "1", "Ash and Hall n.d.": "234"} {
		for limit := 1; limit <= 4; limit++ {
			found, ok := impl.FindCitation(l, limit, text)
			fine := strings.Contains(limits, fmt.Sprint(limit))
			checkSameText(t, "FindCitation", text, found, ok, map[bool]string{true: "aa"}[fine], fine)
		}
	}
	small := labelled(bookOf("Lee, Ann", 1999, ""), bookOf("Lee, Ann", 1999, ""), bookOf("", 0, ""))
	checkNotFound(t, small, 1, nearTexts("Lee 1999a")...)
	checkNotFound(t, small, 1, nearTexts("a1b n.d.")...)
}

func TestLimitsOfDisambiguation(t *testing.T) {
	for _, l := range []impl.Library{{}, labelled(bookOf("Lee", 2001, "")), labelled(bookOf("Lee", 2001, ""), bookOf("Lee", 2001, ""))} {
		checkDisambiguated(t, l)
		for _, limit := range []int{math.MinInt, -1 << 32, -5, -4, -1, 0, 5, 6, 8, 255, 256, 257, 1 << 32, 1<<32 + 1, math.MaxInt} {
			checkNotDisambiguated(t, l, limit)
		}
	}
}

func TestInvalidLibrariesAreNotDisambiguated(t *testing.T) {
	bad := invalidLibraries()
	for _, e := range invalidEntries() {
		bad = append(bad, impl.Library{Entries: []impl.Entry{e}})
	}
	for _, l := range bad {
		for _, limit := range []int{0, 1, 4, 5} {
			checkNotDisambiguated(t, l, limit)
		}
		checkNoGroups(t, "an invalid library", l, plainLabelsOf(l, 1))
		checkNoGroups(t, "an invalid library", l, nil)
		for _, key := range []string{"a", "lee", "b", ""} {
			checkNoLabel(t, l, impl.Label{Key: key, Names: 1, Detail: 1})
		}
		for _, e := range l.Entries[:min(3, len(l.Entries))] {
			checkNoLabel(t, l, impl.Label{Key: e.Key, Names: 1, Detail: 1})
		}
	}
}

func TestDisambiguationKeepsItsArguments(t *testing.T) {
	l := sharingLibrary()
	before := whole(l)
	checkDisambiguated(t, l)
	room := []impl.Label{label("b", 1, 1, 0), label("d", 2, 2, 0), label("f", 1, 1, 0), label("not a key", 9, 9, 9), label("z", 7, 7, 7)}
	kept := slices.Clone(room)
	checkGroups(t, l, room[:3])
	checkNotFound(t, l, 1, "Lee et al. n.d.", "")
	if whole(l) != before || !slices.Equal(room, kept) {
		t.Errorf("%s has become %s, and %v has become %v", before, whole(l), kept, room)
	}
}

func TestGroupsOfCitationsShareNoMemory(t *testing.T) {
	l := labelled(bookOf("Lee", 1999, ""), bookOf("Ash", 1999, ""), bookOf("Ash", 1999, ""), bookOf("Lee", 1999, ""), bookOf("Lee", 1999, ""), bookOf("Hall", 1999, ""), bookOf("Hall", 1999, ""))
	for range 3 {
		groups, ok := impl.AmbiguousGroups(l, plainLabelsOf(l, 1))
		if got := fmt.Sprint(groups); !ok || got != "[[a aa ab] [a0 a1b] [b b9]]" {
			t.Fatal(got, ok)
		}
		for i, group := range groups {
			for j := range group[:cap(group)] {
				group[:cap(group)][j] = fmt.Sprint(i)
			}
		}
		if got := fmt.Sprint(groups); got != "[[0 0 0] [1 1] [2 2]]" {
			t.Fatal("shared:", got)
		}
		for _, result := range []func(impl.Library, int) ([]impl.Label, bool){impl.PlainLabels, impl.DisambiguateNames, impl.DisambiguateAll} {
			labels, ok := result(l, 1)
			if !ok || len(labels) != 7 || labels[6].Names != 1 || labels[0].Key != "a" {
				t.Fatal(labels, ok)
			}
			for i := range labels[:cap(labels)] {
				labels[:cap(labels)][i] = impl.Label{Key: "spoilt", Names: 77}
			}
		}
		texts, ok := impl.CiteAll(l, 1)
		if !ok || strings.Join(texts, "; ") != "Lee 1999a; Ash 1999a; Ash 1999b; Lee 1999b; Lee 1999c; Hall 1999a; Hall 1999b" {
			t.Fatal(texts, ok)
		}
		for i := range texts[:cap(texts)] {
			texts[:cap(texts)][i] = "spoilt"
		}
	}
}
