package tests

import (
	"fmt"
	"math"
	"math/rand"
	"regexp"
	"slices"
	"strconv"
	"strings"
	"testing"

	"loop.example/g00896/impl"
)

var kindsByWord = map[string]int{
	"book": impl.KindBook, "article": impl.KindArticle, "chapter": impl.KindChapter, "report": impl.KindReport,
}

// entryPattern has a group for the Key, the word for the Kind, every field and Cross.
var entryPattern = regexp.MustCompile(`\Aentry ([a-z][a-z0-9]{0,9}) (book|article|chapter|report)\n` +
	`(?:  authors = ([ -~]+)\n)?(?:  editors = ([ -~]+)\n)?` +
	textLinePattern("title") + textLinePattern("container") + textLinePattern("publisher") +
	`(?:  date = ([ -~]+)\n)?(?:  volume = ([1-9][0-9]{0,3})\n)?` + textLinePattern("pages") +
	`(?:  cross = ([a-z][a-z0-9]{0,9})\n)?\z`)

func textLinePattern(field string) string {
	return `(?:  ` + field + ` = ([!-~](?:[ -~]{0,38}[!-~])?)\n)?`
}

// namesIn reads the text of a list of names by its own reading of the chapter.
func namesIn(s string) ([]impl.Name, bool) {
	if s == "" {
		return nil, true
	}
	var list []impl.Name
	for _, form := range strings.Split(s, "; ") {
		n, ok := impl.ParseInverse(form)
		if !ok {
			return nil, false
		}
		list = append(list, n)
	}
	return list, len(list) <= 4
}

// entryIn reads the text of an entry by a pattern, whatever the program does.
func entryIn(s string) (impl.Entry, bool) {
	found := entryPattern.FindStringSubmatch(s)
	if found == nil {
		return impl.Entry{}, false
	}
	e := impl.Entry{
		Key: found[1], Kind: kindsByWord[found[2]], Title: found[5], Container: found[6],
		Publisher: found[7], Pages: found[10], Cross: found[11],
	}
	authors, ok := namesIn(found[3])
	editors, fine := namesIn(found[4])
	e.Authors, e.Editors = authors, editors
	e.Volume, _ = strconv.Atoi(found[9])
	isDate := true
	if found[8] != "" {
		e.Date, isDate = dateOf(found[8])
		isDate = isDate && found[8] != "unknown"
	}
	if !ok || !fine || !isDate || e.Cross == e.Key {
		return impl.Entry{}, false
	}
	return e, true
}

// libraryIn reads the text of a library, whatever the program does.
func libraryIn(s string) (impl.Library, bool) {
	l := impl.Library{}
	text := ""
	for _, line := range append(strings.SplitAfter(s, "\n"), "entry ") {
		if strings.HasPrefix(line, "entry ") && text != "" {
			e, ok := entryIn(text)
			last := len(l.Entries) - 1
			if !ok || last == 7 || last >= 0 && l.Entries[last].Key >= e.Key {
				return impl.Library{}, false
			}
			l.Entries = append(l.Entries, e)
			text = ""
		}
		text += line
	}
	return l, len(s) <= 4000
}

// textOfNames writes the text of a valid list of names.
func textOfNames(list []impl.Name) string {
	var forms []string
	for _, n := range list {
		form, _ := impl.InverseForm(n)
		forms = append(forms, form)
	}
	return strings.Join(forms, "; ")
}

// textOfEntry writes the text of a valid entry, whatever the program does.
func textOfEntry(e impl.Entry) string {
	s := fmt.Sprintf("entry %s %s\n", e.Key, []string{"", "book", "article", "chapter", "report"}[e.Kind])
	if len(e.Authors) > 0 {
		s += "  authors = " + textOfNames(e.Authors) + "\n"
	}
	if len(e.Editors) > 0 {
		s += "  editors = " + textOfNames(e.Editors) + "\n"
	}
	if e.Title != "" {
		s += "  title = " + e.Title + "\n"
	}
	if e.Container != "" {
		s += "  container = " + e.Container + "\n"
	}
	if e.Publisher != "" {
		s += "  publisher = " + e.Publisher + "\n"
	}
	if e.Date.Year != 0 {
		s += "  date = " + textOf(e.Date) + "\n"
	}
	if e.Volume != 0 {
		s += fmt.Sprintf("  volume = %d\n", e.Volume)
	}
	if e.Pages != "" {
		s += "  pages = " + e.Pages + "\n"
	}
	if e.Cross != "" {
		s += "  cross = " + e.Cross + "\n"
	}
	return s
}

func textOfLibrary(l impl.Library) string {
	s := ""
	for _, e := range l.Entries {
		s += textOfEntry(e)
	}
	return s
}

func TestKindWord(t *testing.T) {
	for word, kind := range kindsByWord {
		if s, ok := impl.KindWord(kind); !ok || s != word {
			t.Errorf("KindWord(%d) = %q, %v", kind, s, ok)
		}
	}
	for _, kind := range []int{0, -1, -4, 5, 6, math.MinInt, math.MaxInt, 1<<32 + 1} {
		if s, ok := impl.KindWord(kind); ok || s != "" {
			t.Errorf("KindWord(%d) = %q, %v", kind, s, ok)
		}
	}
}

func TestTextsOfSomeEntries(t *testing.T) {
	for _, c := range []struct {
		entry impl.Entry
		text  string
	}{
		{impl.Entry{Key: "a", Kind: impl.KindBook}, "entry a book\n"},
		{impl.Entry{Key: "a", Kind: impl.KindArticle, Authors: []impl.Name{}, Editors: []impl.Name{}}, "entry a article\n"},
		{impl.Entry{Key: "b2", Kind: impl.KindReport, Cross: "a"}, "entry b2 report\n  cross = a\n"},
		{impl.Entry{Key: "c", Kind: impl.KindBook, Date: circa(987), Volume: 9999}, "entry c book\n  date = c0987\n  volume = 9999\n"},
		{impl.Entry{Key: "d", Kind: impl.KindBook, Date: month(1, 1), Volume: 1}, "entry d book\n  date = 0001-01\n  volume = 1\n"},
		{impl.Entry{Key: "e", Kind: impl.KindBook, Title: "entry a book", Pages: "title = x"}, "entry e book\n  title = entry a book\n  pages = title = x\n"},
		{impl.Entry{Key: "f", Kind: impl.KindBook, Title: "=", Container: "= =", Publisher: "a = b"}, "entry f book\n  title = =\n  container = = =\n  publisher = a = b\n"},
		{
			fullEntry("lee99b", impl.KindChapter),
			"entry lee99b chapter\n  authors = van der Berg, Anna Maria, Jr; Lee, B\n  editors = Lee, B; de Witt; Adams, , Sr\n" +
				"  title = On rivers: a = b\n  container = Annals, 2nd series\n  publisher = Hall\n  date = 1999-05-03\n  volume = 7\n  pages = 1-9\n  cross = other\n",
		},
	} {
		if s, ok := impl.FormatEntry(c.entry); !ok || s != c.text {
			t.Errorf("FormatEntry(%v) = %q, %v", c.entry, s, ok)
		}
		if e, ok := impl.ParseEntry(c.text); !ok || !sameEntry(e, c.entry) {
			t.Errorf("ParseEntry(%q) = %v, %v", c.text, e, ok)
		}
		if l, ok := impl.ParseLibrary(c.text); !ok || len(l.Entries) != 1 || !sameEntry(l.Entries[0], c.entry) {
			t.Errorf("ParseLibrary(%q) = %v, %v", c.text, l, ok)
		}
	}
}

func TestEntriesWithAllSetsOfFieldsAreParsedBack(t *testing.T) {
	for _, kind := range allKinds {
		for _, fields := range subsets(allFields) {
			e := entryWith("lee", kind, fields...)
			for _, cross := range []string{"", "other"} {
				e.Cross = cross
				want := textOfEntry(e)
				s, ok := impl.FormatEntry(e)
				if !ok || s != want {
					t.Fatalf("FormatEntry(%v) = %q, %v, not %q", e, s, ok, want)
				}
				if back, ok := impl.ParseEntry(s); !ok || !sameEntry(back, e) {
					t.Fatalf("ParseEntry(%q) = %v, %v", s, back, ok)
				}
			}
		}
	}
}

// randomEntry returns a valid entry in which many fields are empty.
func randomEntry(r *rand.Rand, key string, names []impl.Name, dates []impl.Date) impl.Entry {
	e := impl.Entry{Key: key, Kind: allKinds[r.Intn(4)], Date: dates[r.Intn(len(dates))]}
	for range r.Intn(5) {
		e.Authors = append(e.Authors, names[r.Intn(len(names))])
	}
	for range r.Intn(3) {
		e.Editors = append(e.Editors, names[r.Intn(len(names))])
	}
	for _, text := range []*string{&e.Title, &e.Container, &e.Publisher, &e.Pages} {
		s := make([]byte, r.Intn(41)*r.Intn(2))
		for i := range s {
			s[i] = byte(' ' + r.Intn(95))
		}
		*text = strings.Trim(string(s), " ")
	}
	if r.Intn(2) == 0 {
		e.Volume = r.Intn(impl.MaxVolume + 1)
	}
	if e.Cross = someKeys[r.Intn(len(someKeys))]; e.Cross == key || r.Intn(2) == 0 {
		e.Cross = ""
	}
	return e
}

func TestManyLibrariesAreRecoveredFromTheirTexts(t *testing.T) {
	r := rand.New(rand.NewSource(5))
	names, dates := manyNames(), someDates()
	recovered := 0
	for range 3000 {
		l := impl.Library{}
		for _, key := range someKeys[:8] {
			if r.Intn(3) > 0 {
				l.Entries = append(l.Entries, randomEntry(r, key, names, dates))
			}
		}
		want := textOfLibrary(l)
		s, ok := impl.FormatLibrary(l)
		if !ok || s != want {
			t.Fatalf("FormatLibrary(%v) = %q, %v", l, s, ok)
		}
		if len(s) > impl.MaxString {
			continue
		}
		recovered++
		back, ok := impl.ParseLibrary(s)
		if !ok || !sameLibrary(back, l) {
			t.Fatalf("ParseLibrary(%q) = %v, %v", s, back, ok)
		}
		if again, ok := impl.FormatLibrary(back); !ok || again != s {
			t.Fatalf("FormatLibrary of what was parsed from %q = %q, %v", s, again, ok)
		}
	}
	if recovered < 2000 {
		t.Errorf("only %d libraries", recovered)
	}
}

func TestTheEmptyLibrary(t *testing.T) {
	for _, l := range []impl.Library{{}, {Entries: []impl.Entry{}}} {
		if s, ok := impl.FormatLibrary(l); !ok || s != "" {
			t.Errorf("FormatLibrary = %q, %v", s, ok)
		}
	}
	if l, ok := impl.ParseLibrary(""); !ok || len(l.Entries) != 0 {
		t.Errorf("ParseLibrary = %v, %v", l, ok)
	}
	if e, ok := impl.ParseEntry(""); ok || !sameEntry(e, impl.Entry{}) {
		t.Errorf("ParseEntry = %v, %v", e, ok)
	}
}

func TestNumberOfEntriesOfALibrary(t *testing.T) {
	for _, keys := range subsets(someKeys) {
		l := impl.Library{}
		for i, key := range keys {
			l.Entries = append(l.Entries, entryWith(key, allKinds[i%4], allFields[i%8]))
		}
		want := textOfLibrary(l)
		s, ok := impl.FormatLibrary(l)
		back, fine := impl.ParseLibrary(want)
		if len(keys) > impl.MaxEntries {
			if ok || s != "" || fine || len(back.Entries) != 0 {
				t.Errorf("%d entries: %q, %v and %v, %v", len(keys), s, ok, back, fine)
			}
			continue
		}
		if !ok || s != want || !fine || !sameLibrary(back, l) {
			t.Fatalf("the library of %q: %q, %v and %v, %v", keys, s, ok, back, fine)
		}
	}
}

// checkEntryText compares what ParseEntry makes of a text with what entryIn makes of it.
func checkEntryText(t *testing.T, s string) {
	t.Helper()
	want, isEntry := entryIn(s)
	if e, ok := impl.ParseEntry(s); ok != isEntry || !sameEntry(e, want) {
		t.Fatalf("ParseEntry(%q) = %v, %v, not %v, %v", s, e, ok, want, isEntry)
	}
}

// checkLibraryText compares what ParseLibrary makes of a text with what libraryIn makes of it.
func checkLibraryText(t *testing.T, s string) {
	t.Helper()
	want, isLibrary := libraryIn(s)
	if !isLibrary {
		want = impl.Library{}
	}
	if l, ok := impl.ParseLibrary(s); ok != isLibrary || !sameLibrary(l, want) {
		t.Fatalf("ParseLibrary(%q) = %v, %v, not %v, %v", s, l, ok, want, isLibrary)
	}
}

func TestParseEntryRefusesOtherTexts(t *testing.T) {
	for _, s := range []string{
		// The first line.
		"\n", "\n\n", " ", "entry", "entry\n", "entry \n", "entry a\n", "entry a \n", "entry a book", "entry a book ", "entry a  book\n", "entry  a book\n", " entry a book\n",
		"entry a book \n", "entry a book\n\n", "\nentry a book\n", "entry a book\r\n", "entry a map\n", "entry a Book\n", "entry a books\n", "entry a 1\n", "entry a book book\n",
		"entry A book\n", "entry 1 book\n", "entry abcdefghijk book\n", "entry a-b book\n", "entry  book\n", "Entry a book\n", "entries a book\n", "a book\n", "entry\ta\tbook\n", "@book a\n",
		// A value that is empty but written.
		"entry a book\n  authors = \n", "entry a book\n  editors = \n", "entry a book\n  title = \n", "entry a book\n  container = \n", "entry a book\n  publisher = \n",
		"entry a book\n  date = \n", "entry a book\n  volume = \n", "entry a book\n  pages = \n", "entry a book\n  cross = \n", "entry a book\n  date = unknown\n", "entry a book\n  volume = 0\n",
		// Values that are spelt in other ways.
		"entry a book\n  volume = 07\n", "entry a book\n  volume = +7\n", "entry a book\n  volume = -7\n", "entry a book\n  volume = 7.\n", "entry a book\n  volume = 10000\n", "entry a book\n  volume = 999999\n",
		"entry a book\n  volume = x\n", "entry a book\n  date = 99\n", "entry a book\n  date = 1999-02-29\n", "entry a book\n  date = 3000\n", "entry a book\n  date = n.d.\n",
		"entry a book\n  authors = lee\n", "entry a book\n  authors = Lee;Berg\n", "entry a book\n  authors = Lee; \n", "entry a book\n  authors = Lee; Berg; \n", "entry a book\n  authors = ; Lee\n",
		"entry a book\n  authors = Lee;  Berg\n", "entry a book\n  authors = Lee ; Berg\n", "entry a book\n  authors = A; B; C; D; E\n", "entry a book\n  editors = A; B; C; D; E\n", "entry a book\n  editors = Lee, \n",
		"entry a book\n  cross = a\n", "entry a book\n  cross = B\n", "entry a book\n  cross = b c\n", "entry a book\n  cross = abcdefghijk\n", "entry a book\n  title = " + strings.Repeat("x", 41) + "\n",
		"entry a book\n  title = x\x00\n", "entry a book\n  title = \u00e9\n", "entry a book\n  title = x\ty\n", "entry a book\n  title = x\x7f\n", "entry a book\n  title = x\r\n",
		// Spaces too many or too few.
		"entry a book\n title = x\n", "entry a book\ntitle = x\n", "entry a book\n   title = x\n", "entry a book\n\ttitle = x\n", "entry a book\n  title  = x\n", "entry a book\n  title =  x\n",
		"entry a book\n  title = x \n", "entry a book\n  title= x\n", "entry a book\n  title =x\n", "entry a book\n  title=x\n", "entry a book\n  volume =  7\n", "entry a book\n  volume = 7 \n",
		// Missing and other lines.
		"  title = x\n", "entry a book\n  title = x", "entry a book\n  title = x\n\n", "entry a book\n\n  title = x\n", "entry a book\n  title\n", "entry a book\n  title = \n  pages = 1\n", "entry a book\n  \n",
		"entry a book\n  key = b\n", "entry a book\n  kind = book\n", "entry a book\n  year = 1999\n", "entry a book\n  Title = x\n", "entry a book\n  titles = x\n", "entry a book\n   = x\n", "entry a book\n  = x\n",
		"entry a book\n  title x\n", "entry a book\n  title : x\n", "entry a book\n  title == x\n", "entry a book\n  title = x\nx\n", "entry a book\n  title = x\n  y\n",
		// Lines out of order, twice, and of two entries.
		"entry a book\n  title = x\n  authors = Lee\n", "entry a book\n  editors = Lee\n  authors = Lee\n", "entry a book\n  pages = 1\n  volume = 1\n", "entry a book\n  cross = b\n  pages = 1\n",
		"entry a book\n  title = x\n  title = x\n", "entry a book\n  title = x\n  title = y\n", "entry a book\n  cross = b\n  cross = b\n", "entry a book\n  authors = A\n  authors = B\n",
		"entry a book\nentry b book\n", "entry a book\nentry a book\n", "entry a book\n  title = x\nentry b book\n",
		// Long texts.
		strings.Repeat("\n", 5000), strings.Repeat("entry ", 1000), strings.Repeat("entry a book\n", 400), "entry a book\n  title = " + strings.Repeat("x", 5000) + "\n",
		"entry a book\n  authors = " + strings.Repeat("A; ", 2000) + "A\n", "entry a book\n  volume = " + strings.Repeat("9", 5000) + "\n", "entry a book\n" + strings.Repeat("  title = x\n", 400),
	} {
		if e, ok := impl.ParseEntry(s); ok || !sameEntry(e, impl.Entry{}) {
			t.Errorf("ParseEntry(%.100q) = %v, %v", s, e, ok)
		}
		checkEntryText(t, s)
		checkLibraryText(t, s)
		checkLibraryText(t, s+"entry z book\n")
		checkLibraryText(t, "entry a book\n"+strings.ReplaceAll(s, "entry a ", "entry b "))
	}
}

func TestParseEntryOfTextsNextToTexts(t *testing.T) {
	for _, e := range []impl.Entry{
		entryWith("a", impl.KindBook), entryWith("b2", impl.KindReport, "title", "volume"), entryWith("lee", impl.KindArticle, "authors", "date", "pages"),
		{Key: "lee", Kind: impl.KindChapter, Authors: []impl.Name{name("", "", "A", ""), name("", "", "B", ""), name("", "", "C", ""), name("", "", "D", "")}, Volume: impl.MaxVolume, Cross: "le"},
		{Key: "abcdefghij", Kind: impl.KindBook, Container: strings.Repeat("x", 40), Cross: "abcdefghi"},
	} {
		for _, s := range nearTexts(textOfEntry(e)) {
			checkEntryText(t, s)
		}
	}
}

func TestParseLibraryOfTextsNextToTexts(t *testing.T) {
	l := impl.Library{Entries: []impl.Entry{
		entryWith("b", impl.KindBook), entryWith("d", impl.KindReport, "title"), entryWith("e", impl.KindArticle, "pages"), {Key: "g", Kind: impl.KindChapter, Cross: "b"},
	}}
	for _, s := range nearTexts(textOfLibrary(l)) {
		checkLibraryText(t, s)
	}
}

func TestAllShortSequencesOfLines(t *testing.T) {
	lines := []string{
		"entry a book\n", "entry b article\n", "  authors = Lee, Anna; van Berg\n", "  editors = Lee\n", "  title = On rivers\n", "  container = entry a book\n",
		"  publisher = Hall\n", "  date = 1999-05\n", "  volume = 7\n", "  pages = 1-9\n", "  cross = a\n", "  cross = c\n", "\n", "  title = \n",
	}
	parsed := 0
	var extend func(s string, more int)
	extend = func(s string, more int) {
		checkEntryText(t, s)
		checkLibraryText(t, s)
		if _, ok := impl.ParseEntry(s); ok {
			parsed++
		}
		if more == 0 {
			return
		}
		for _, line := range lines {
			extend(s+line, more-1)
		}
	}
	extend("", 4)
	if parsed < 100 {
		t.Errorf("only %d entries", parsed)
	}
}

func TestLinesInAllOrders(t *testing.T) {
	lines := strings.SplitAfter(textOfEntry(fullEntry("lee", impl.KindArticle)), "\n")
	lines = lines[:len(lines)-1]
	for i := range lines {
		for j := range lines {
			swapped := slices.Clone(lines)
			swapped[i], swapped[j] = swapped[j], swapped[i]
			twice := slices.Insert(slices.Clone(lines), j, lines[i])
			for _, c := range [][]string{swapped, twice} {
				s := strings.Join(c, "")
				isText := slices.Equal(c, lines)
				if e, ok := impl.ParseEntry(s); ok != isText || !ok && !sameEntry(e, impl.Entry{}) {
					t.Errorf("ParseEntry(%q) = %v, %v", s, e, ok)
				}
			}
		}
	}
}

func TestEntriesOfALibraryOutOfOrder(t *testing.T) {
	for _, c := range []struct {
		keys   string
		inside bool
	}{
		{"a b", true}, {"a a0 aa b", true}, {"a9 aa", true}, {"a10 a2", true},
		{"b a", false}, {"a a", false}, {"a b a", false}, {"a c b", false}, {"a b b", false}, {"aa a9", false}, {"a2 a10", false}, {"ab a", false}, {"a b c d e f g h i", false},
	} {
		s := ""
		for _, key := range strings.Fields(c.keys) {
			s += textOfEntry(entryWith(key, impl.KindBook, "title"))
		}
		if l, ok := impl.ParseLibrary(s); ok != c.inside || !ok && len(l.Entries) != 0 {
			t.Errorf("ParseLibrary(%q) = %v, %v", s, l, ok)
		}
	}
}

// libraryOfSize returns a valid library whose text has a number of bytes not far from MaxString.
func libraryOfSize(t *testing.T, size int) impl.Library {
	t.Helper()
	long := "Abcdefghijkl"
	n := impl.Name{Given: []string{long, long, long}, Particle: "abcdefghijkl abcdefghijkl", Family: long, Suffix: long}
	l := impl.Library{}
	for _, key := range someKeys[:8] {
		e := impl.Entry{Key: key, Kind: impl.KindArticle, Authors: []impl.Name{n, n, n, n}, Title: strings.Repeat("t", 40), Container: strings.Repeat("c", 32)}
		l.Entries = append(l.Entries, e)
	}
	last := &l.Entries[7]
	last.Container = ""
	last.Container = strings.Repeat("c", size-len(textOfLibrary(l))-len("  container = \n"))
	if len(textOfLibrary(l)) != size || !impl.IsValidLibrary(l) {
		t.Fatalf("a library of %d bytes", len(textOfLibrary(l)))
	}
	return l
}

func TestTextsAtTheLimit(t *testing.T) {
	for size := impl.MaxString - 5; size <= impl.MaxString+5; size++ {
		l := libraryOfSize(t, size)
		want := textOfLibrary(l)
		// The limit is that of what is parsed; a valid library has a text in any case.
		if s, ok := impl.FormatLibrary(l); !ok || s != want {
			t.Errorf("FormatLibrary of %d bytes: %q, %v", size, s, ok)
		}
		back, ok := impl.ParseLibrary(want)
		if ok != (size <= impl.MaxString) || ok && !sameLibrary(back, l) || !ok && len(back.Entries) != 0 {
			t.Errorf("ParseLibrary of %d bytes: %v, %v", size, back, ok)
		}
	}
}

func TestTheLongestEntry(t *testing.T) {
	e := libraryOfSize(t, impl.MaxString).Entries[0]
	e.Editors, e.Volume, e.Date = e.Authors, impl.MaxVolume, day(impl.MaxYear, 12, 31)
	e.Key, e.Cross = "abcdefghij", "abcdefghik"
	forty := strings.Repeat("~", impl.MaxText)
	e.Title, e.Container, e.Publisher, e.Pages = forty, forty, forty, forty
	s, ok := impl.FormatEntry(e)
	if back, fine := impl.ParseEntry(s); !ok || !fine || s != textOfEntry(e) || !sameEntry(back, e) {
		t.Errorf("the longest entry: %q, %v and %v, %v", s, ok, back, fine)
	}
	if back, ok := impl.ParseLibrary(s); !ok || len(back.Entries) != 1 || !sameEntry(back.Entries[0], e) {
		t.Errorf("the library of the longest entry: %v, %v", back, ok)
	}
}

func TestInvalidEntriesHaveNoText(t *testing.T) {
	good := fullEntry("lee", impl.KindBook)
	for _, e := range invalidEntries() {
		if s, ok := impl.FormatEntry(e); ok || s != "" {
			t.Errorf("FormatEntry(%.300q) = %q, %v", fmt.Sprint(e), s, ok)
		}
		if s, ok := impl.FormatLibrary(impl.Library{Entries: []impl.Entry{e}}); ok || s != "" {
			t.Errorf("FormatLibrary(%.300q) = %q, %v", fmt.Sprint(e), s, ok)
		}
		for _, pair := range [][2]impl.Entry{{e, good}, {good, e}, {e, e}} {
			if words, ok := impl.ChangedFields(pair[0], pair[1]); ok || len(words) != 0 {
				t.Errorf("ChangedFields(%.300q) = %q, %v", fmt.Sprint(pair), words, ok)
			}
		}
	}
	for _, l := range invalidLibraries() {
		if s, ok := impl.FormatLibrary(l); ok || s != "" {
			t.Errorf("FormatLibrary(%.300q) = %q, %v", fmt.Sprint(l), s, ok)
		}
	}
}

func TestParseNames(t *testing.T) {
	lee, berg, jr := name("Anna", "", "Lee", ""), name("B", "van", "Berg", ""), name("", "de la", "Cruz", "Jr")
	for _, list := range [][]impl.Name{
		nil, {lee}, {lee, berg}, {berg, lee}, {jr}, {jr, jr}, {lee, lee, lee}, {lee, berg, jr, lee}, {name("", "", "A", ""), name("", "", "B", ""), name("", "", "C", ""), name("", "", "D", "")},
	} {
		if back, ok := impl.ParseNames(textOfNames(list)); !ok || !slices.EqualFunc(back, list, sameName) {
			t.Errorf("ParseNames(%q) = %q, %v", textOfNames(list), back, ok)
		}
	}
	all := manyNames()
	for i := range all {
		list := []impl.Name{all[i], all[len(all)-1-i], all[i*7%len(all)], all[i]}
		for count := range 5 {
			if back, ok := impl.ParseNames(textOfNames(list[:count])); !ok || !slices.EqualFunc(back, list[:count], sameName) {
				t.Fatalf("ParseNames(%q) = %q, %v", textOfNames(list[:count]), back, ok)
			}
		}
		if back, ok := impl.ParseNames(textOfNames(append(list, all[i]))); ok || len(back) != 0 {
			t.Fatalf("five names: %q, %v", back, ok)
		}
	}
}

func TestParseNamesRefusesOtherTexts(t *testing.T) {
	for _, s := range []string{
		" ", ";", "; ", " ; ", "; ; ", ";;", "Lee;", "Lee; ", "; Lee", ";Lee", "Lee;Berg", "Lee ;Berg", "Lee ; Berg", "Lee;  Berg", "Lee; ; Berg", "Lee;; Berg", "Lee; Berg;", "Lee; Berg; ",
		"lee", "Lee, ", "Lee, anna", "Lee; berg", "Lee and Berg", "Anna Lee", "Lee, Anna, ", "Lee,Anna", "Lee\n", "Lee;\nBerg", "\u00c9", "\xff", "A; B; C; D; E", "A; B; C; D; ", "A; B; C; D;",
		strings.Repeat("A; ", 1334) + "A", strings.Repeat("A", 5000), strings.Repeat("; ", 3000), strings.Repeat("A; ", 5000) + "A", "A; " + strings.Repeat("B", 4000),
	} {
		if list, ok := impl.ParseNames(s); ok || len(list) != 0 {
			t.Errorf("ParseNames(%.100q) = %q, %v", s, list, ok)
		}
	}
	for _, s := range stringsOver("AB; ,", 7) {
		want, isList := namesIn(s)
		if !isList {
			want = nil
		}
		if list, ok := impl.ParseNames(s); ok != isList || !slices.EqualFunc(list, want, sameName) {
			t.Fatalf("ParseNames(%q) = %q, %v, not %q, %v", s, list, ok, want, isList)
		}
	}
}

// changedEntry returns e with other values for some of the words of ChangedFields.
func changedEntry(e impl.Entry, words []string) impl.Entry {
	for _, word := range words {
		switch word {
		case "authors":
			e.Authors = []impl.Name{name("B", "", "Lee", "")}
		case "editors":
			e.Editors = []impl.Name{name("B", "", "Lee", "Jr"), name("", "de", "Witt", ""), name("", "", "Adams", "Sr")}
		case "title":
			e.Title += "!"
		case "container":
			e.Container = "annals"
		case "publisher":
			e.Publisher = e.Title
		case "date":
			e.Date = day(1999, 5, 4)
		case "volume":
			e.Volume++
		case "pages":
			e.Pages = "9-1"
		case "cross":
			e.Cross = "gone"
		case "kind":
			e.Kind = e.Kind%4 + 1
		case "key":
			e.Key += "9"
		}
	}
	return e
}

func TestChangedFields(t *testing.T) {
	words := append(slices.Clone(allFields), "cross", "kind", "key")
	for _, changed := range subsets(words) {
		for _, a := range []impl.Entry{entryWith("lee", impl.KindBook, "title"), fullEntry("lee", impl.KindReport)} {
			b := changedEntry(a, changed)
			for _, pair := range [][2]impl.Entry{{a, b}, {b, a}} {
				if got, ok := impl.ChangedFields(pair[0], pair[1]); !ok || !slices.Equal(got, changed) {
					t.Fatalf("ChangedFields(%v) = %q, %v, not %q", pair, got, ok, changed)
				}
			}
		}
	}
}

func TestFieldsThatAreEmptyInOneEntry(t *testing.T) {
	for _, one := range subsets(allFields) {
		for _, other := range [][]string{nil, allFields, {"title", "date"}, {"authors", "volume", "pages"}} {
			var want []string
			for _, field := range allFields {
				if slices.Contains(one, field) != slices.Contains(other, field) {
					want = append(want, field)
				}
			}
			a, b := entryWith("lee", impl.KindBook, one...), entryWith("lee", impl.KindBook, other...)
			if got, ok := impl.ChangedFields(a, b); !ok || !slices.Equal(got, want) {
				t.Fatalf("ChangedFields of %q and %q = %q, %v", one, other, got, ok)
			}
		}
	}
}

func TestFieldsThatHardlyDiffer(t *testing.T) {
	lee, berg := name("Anna", "", "Lee", ""), name("Anna", "", "Berg", "")
	for _, c := range []struct {
		what string
		a, b impl.Entry
		want []string
	}{
		{"nil and empty lists", impl.Entry{Authors: []impl.Name{}}, impl.Entry{Editors: []impl.Name{}}, nil},
		{"nil and empty Given", impl.Entry{Authors: []impl.Name{{Family: "Lee"}}}, impl.Entry{Authors: []impl.Name{{Family: "Lee", Given: []string{}}}}, nil},
		{"the order of names", impl.Entry{Authors: []impl.Name{lee, berg}}, impl.Entry{Authors: []impl.Name{berg, lee}}, []string{"authors"}},
		{"a name more", impl.Entry{Editors: []impl.Name{lee}}, impl.Entry{Editors: []impl.Name{lee, lee}}, []string{"editors"}},
		{"authors and editors", impl.Entry{Authors: []impl.Name{lee}}, impl.Entry{Editors: []impl.Name{lee}}, []string{"authors", "editors"}},
		{"the place of a word", impl.Entry{Authors: []impl.Name{name("A", "", "B", "C")}}, impl.Entry{Authors: []impl.Name{name("A C", "", "B", "")}}, []string{"authors"}},
		{"the case of a name", impl.Entry{Authors: []impl.Name{lee}}, impl.Entry{Authors: []impl.Name{name("Anna", "", "LEE", "")}}, []string{"authors"}},
		{"Circa", impl.Entry{Date: year(1999)}, impl.Entry{Date: circa(1999)}, []string{"date"}},
		{"the precision of a date", impl.Entry{Date: month(1999, 5)}, impl.Entry{Date: year(1999)}, []string{"date"}},
		{"the case of a title", impl.Entry{Title: "on rivers"}, impl.Entry{Title: "On rivers"}, []string{"title"}},
		{"texts that change places", impl.Entry{Title: "a", Pages: "b"}, impl.Entry{Title: "b", Pages: "a"}, []string{"title", "pages"}},
	} {
		c.a.Key, c.a.Kind, c.b.Key, c.b.Kind = "lee", impl.KindBook, "lee", impl.KindBook
		for _, pair := range [][2]impl.Entry{{c.a, c.b}, {c.b, c.a}} {
			if got, ok := impl.ChangedFields(pair[0], pair[1]); !ok || !slices.Equal(got, c.want) {
				t.Errorf("%s: %q, %v", c.what, got, ok)
			}
		}
	}
}

func TestParsedEntriesShareNoMemory(t *testing.T) {
	s := textOfLibrary(libraryOf("b", "d", "f"))
	first, ok := impl.ParseLibrary(s)
	second, fine := impl.ParseLibrary(s)
	if !ok || !fine || !sameLibrary(first, second) {
		t.Fatalf("ParseLibrary = %v, %v and %v, %v", first, ok, second, fine)
	}
	checkOwnMemory(t, "ParseLibrary", first, second)
	one, _ := impl.ParseEntry(textOfEntry(fullEntry("b", impl.KindBook)))
	other, _ := impl.ParseEntry(textOfEntry(fullEntry("b", impl.KindBook)))
	checkOwnMemory(t, "ParseEntry", impl.Library{Entries: []impl.Entry{one}}, impl.Library{Entries: []impl.Entry{other}})
	list, _ := impl.ParseNames("Lee, Anna; Lee, Anna")
	again, _ := impl.ParseNames("Lee, Anna; Lee, Anna")
	checkOwnMemory(t, "ParseNames", impl.Library{Entries: []impl.Entry{{Authors: list}}}, impl.Library{Entries: []impl.Entry{{Authors: again}}})
}

func TestTextsKeepTheirArguments(t *testing.T) {
	l := sharingLibrary()
	before := whole(l)
	for _, e := range l.Entries {
		if s, ok := impl.FormatEntry(e); !ok || s != textOfEntry(e) {
			t.Errorf("FormatEntry = %q, %v", s, ok)
		}
		if words, ok := impl.ChangedFields(e, l.Entries[1]); !ok || len(words) > 1 {
			t.Errorf("ChangedFields = %q, %v", words, ok)
		}
	}
	if s, ok := impl.FormatLibrary(l); !ok || s != textOfLibrary(l) || whole(l) != before {
		t.Errorf("FormatLibrary = %q, %v", s, ok)
	}
}
