package tests

import (
	"fmt"
	"math"
	"regexp"
	"slices"
	"strings"
	"testing"

	"loop.example/g00896/impl"
)

var (
	keyPattern       = regexp.MustCompile(`\A[a-z][a-z0-9]{0,9}\z`)
	entryTextPattern = regexp.MustCompile(`\A(?:[!-~](?:[ -~]{0,38}[!-~])?)?\z`)
)

var allKinds = []int{impl.KindBook, impl.KindArticle, impl.KindChapter, impl.KindReport}

var allFields = []string{"authors", "editors", "title", "container", "publisher", "date", "volume", "pages"}

// fieldTexts are the fields, as strings, that entryWith gives to an entry.
var fieldTexts = map[string]string{
	"authors":   "van der Berg, Anna Maria, Jr; Lee, B",
	"editors":   "Lee, B; de Witt; Adams, , Sr",
	"title":     "On rivers: a = b",
	"container": "Annals, 2nd series",
	"publisher": "Hall",
	"date":      "1999-05-03",
	"volume":    "7",
	"pages":     "1-9",
}

// setField sets a field to what stands for it in fieldTexts.
func setField(e *impl.Entry, field string) {
	switch field {
	case "authors":
		e.Authors = []impl.Name{name("Anna Maria", "van der", "Berg", "Jr"), name("B", "", "Lee", "")}
	case "editors":
		e.Editors = []impl.Name{name("B", "", "Lee", ""), name("", "de", "Witt", ""), name("", "", "Adams", "Sr")}
	case "title":
		e.Title = fieldTexts[field]
	case "container":
		e.Container = fieldTexts[field]
	case "publisher":
		e.Publisher = fieldTexts[field]
	case "date":
		e.Date = day(1999, 5, 3)
	case "volume":
		e.Volume = 7
	case "pages":
		e.Pages = fieldTexts[field]
	}
}

// entryWith returns an entry in which just the given fields are not empty.
func entryWith(key string, kind int, fields ...string) impl.Entry {
	e := impl.Entry{Key: key, Kind: kind}
	for _, field := range fields {
		setField(&e, field)
	}
	return e
}

// fullEntry returns an entry without empty fields.
func fullEntry(key string, kind int) impl.Entry {
	e := entryWith(key, kind, allFields...)
	e.Cross = "other"
	return e
}

// libraryOf returns the library of entries with these keys, whose kinds take turns.
func libraryOf(keys ...string) impl.Library {
	l := impl.Library{}
	for i, key := range keys {
		l.Entries = append(l.Entries, fullEntry(key, allKinds[i%len(allKinds)]))
	}
	return l
}

// someKeys are one more key than a library has entries, in their order.
var someKeys = []string{"a", "a0", "a1b", "aa", "ab", "b", "b9", "ba", "z"}

// subsets returns all lists of some elements of list in their order.
func subsets(list []string) [][]string {
	var all [][]string
	for set := range 1 << len(list) {
		part := []string{}
		for i, s := range list {
			if set>>i&1 == 1 {
				part = append(part, s)
			}
		}
		all = append(all, part)
	}
	return all
}

// sameEntry compares entries; an empty list may be a nil or an empty slice.
func sameEntry(a, b impl.Entry) bool {
	return a.Key == b.Key && a.Kind == b.Kind &&
		slices.EqualFunc(a.Authors, b.Authors, sameName) && slices.EqualFunc(a.Editors, b.Editors, sameName) &&
		a.Title == b.Title && a.Container == b.Container && a.Publisher == b.Publisher &&
		a.Date == b.Date && a.Volume == b.Volume && a.Pages == b.Pages && a.Cross == b.Cross
}

func sameLibrary(a, b impl.Library) bool { return slices.EqualFunc(a.Entries, b.Entries, sameEntry) }

// memoryOf counts, for all memory that libraries reach, also behind the ends of their slices, how
// often it is reached.
func memoryOf(libraries ...impl.Library) map[any]int {
	memory := map[any]int{}
	for _, l := range libraries {
		entries := l.Entries[:cap(l.Entries)]
		for i := range entries {
			memory[&entries[i]]++
			for _, list := range [][]impl.Name{entries[i].Authors, entries[i].Editors} {
				list = list[:cap(list)]
				for j := range list {
					memory[&list[j]]++
					given := list[j].Given[:cap(list[j].Given)]
					for k := range given {
						memory[&given[k]]++
					}
				}
			}
		}
	}
	return memory
}

// checkOwnMemory fails if a result shares memory with an argument or its parts share some.
func checkOwnMemory(t *testing.T, what string, result impl.Library, arguments ...impl.Library) {
	t.Helper()
	taken := memoryOf(arguments...)
	for place, count := range memoryOf(result) {
		if count > 1 {
			t.Errorf("%s: two parts of the result share memory: %v", what, place)
		}
		if taken[place] > 0 {
			t.Errorf("%s: the result shares memory with an argument: %v", what, place)
		}
	}
}

// whole writes out all memory that a library reaches.
func whole(l impl.Library) string {
	l.Entries = slices.Clone(l.Entries[:cap(l.Entries)])
	for i, e := range l.Entries {
		for _, list := range []*[]impl.Name{&e.Authors, &e.Editors} {
			*list = slices.Clone((*list)[:cap(*list)])
			for j := range *list {
				(*list)[j].Given = (*list)[j].Given[:cap((*list)[j].Given)]
			}
		}
		l.Entries[i] = e
	}
	return fmt.Sprintf("%#v", l)
}

// invalidKeys are not keys; the empty string, which a Cross may be, is not among them.
func invalidKeys() []string {
	return []string{
		" ", "A", "Lee99", "lEe", "leE", "1", "9a", "99", "-", "a-b", "a_b", "a b", " a", "a ", "a.", "a'b", "a\n", "\na", "a\x00", "\x00",
		"\u00e9", "a\u00e9", "\xff", "a\xff", "`", "{", "a`", "a{", "a/", "a:", "a@", "a[", "abcdefghijk", "a1234567890", strings.Repeat("a", 5000),
	}
}

// invalidTexts are not texts.
func invalidTexts() []string {
	return []string{
		" ", "  ", " a", "a ", " a b", "a b ", "\n", "a\n", "a\nb", "\ta", "a\x00", "\x1f", "a\x7fb", "\x7f", "\u00e9", "a\u00a0b", "\x80", "\xff",
		strings.Repeat("a", 41), strings.Repeat("a", 20) + " " + strings.Repeat("b", 20), strings.Repeat("a", 5000), strings.Repeat(" ", 5000),
	}
}

// invalidEntries returns entries with the Key `lee` of which exactly one part is at fault, if the
// Key itself is not.
func invalidEntries() []impl.Entry {
	var all []impl.Entry
	with := func(change func(e *impl.Entry)) {
		for _, e := range []impl.Entry{entryWith("lee", impl.KindBook), fullEntry("lee", impl.KindChapter)} {
			change(&e)
			all = append(all, e)
		}
	}
	for _, s := range append(invalidKeys(), "") {
		with(func(e *impl.Entry) { e.Key = s })
	}
	for _, s := range append(invalidKeys(), "lee") {
		with(func(e *impl.Entry) { e.Cross = s })
	}
	for _, s := range invalidTexts() {
		with(func(e *impl.Entry) { e.Title = s })
		with(func(e *impl.Entry) { e.Container = s })
		with(func(e *impl.Entry) { e.Publisher = s })
		with(func(e *impl.Entry) { e.Pages = s })
	}
	for _, kind := range []int{0, -1, 5, 6, math.MinInt, math.MaxInt, 1<<32 + 1} {
		with(func(e *impl.Entry) { e.Kind = kind })
	}
	for _, volume := range []int{-1, impl.MaxVolume + 1, math.MinInt, math.MaxInt, 1<<32 + 1} {
		with(func(e *impl.Entry) { e.Volume = volume })
	}
	for _, d := range invalidDates() {
		with(func(e *impl.Entry) { e.Date = d })
	}
	lee := name("Anna", "", "Lee", "")
	lists := [][]impl.Name{{lee, lee, lee, lee, lee}, make([]impl.Name, 5000)}
	for _, n := range invalidNames() {
		lists = append(lists, []impl.Name{n}, []impl.Name{lee, lee, lee, n})
	}
	for _, list := range lists {
		with(func(e *impl.Entry) { e.Authors = list })
		with(func(e *impl.Entry) { e.Editors = list })
	}
	return all
}

// invalidLibraries returns libraries that break a rule of the chapter.
func invalidLibraries() []impl.Library {
	all := []impl.Library{
		libraryOf("b", "a"), libraryOf("a", "a"), libraryOf("a", "c", "b"), libraryOf("b", "a", "c"), libraryOf("a", "b", "b"), libraryOf("a", "b", "a"),
		libraryOf("a2", "a10"), libraryOf("ab", "a"), libraryOf("aa", "a1"), libraryOf("z", "y", "x", "w", "v", "u", "t", "s"),
		libraryOf(someKeys...), libraryOf(append(slices.Clone(someKeys), "zz")...), {Entries: make([]impl.Entry, 5000)}, {Entries: make([]impl.Entry, 1)},
	}
	for i := range 3 {
		kind, cross, title, key := libraryOf("a", "lee", "z"), libraryOf("a", "lee", "z"), libraryOf("a", "lee", "z"), libraryOf("a", "lee", "z")
		kind.Entries[i].Kind = 5
		cross.Entries[i].Cross = cross.Entries[i].Key
		title.Entries[i].Title = " "
		key.Entries[i].Key += "-"
		all = append(all, kind, cross, title, key)
	}
	return all
}

func TestLimitsOfEntries(t *testing.T) {
	if impl.MaxEntries != 8 || impl.MaxText != 40 || impl.MaxVolume != 9999 {
		t.Error("limits", impl.MaxEntries, impl.MaxText, impl.MaxVolume)
	}
	if !slices.Equal(allKinds, []int{1, 2, 3, 4}) {
		t.Error("kinds", allKinds)
	}
}

func TestKeys(t *testing.T) {
	texts := append(stringsOver("az09A- ", 4), invalidKeys()...)
	for _, s := range append(texts, "abcdefghij", "a123456789", "zzzzzzzzzz", "abcdefghi", "abcdefghijk") {
		if impl.IsValidEntry(entryWith(s, impl.KindBook)) != keyPattern.MatchString(s) {
			t.Errorf("Key %q", s)
		}
		e := entryWith("lee", impl.KindBook)
		e.Cross = s
		if impl.IsValidEntry(e) != (s == "" || keyPattern.MatchString(s)) {
			t.Errorf("Cross %q", s)
		}
	}
	for c := range 256 {
		one := string([]byte{byte(c)})
		for _, s := range []string{one, "a" + one, "a" + one + "b", one + "a", "abcdefghi" + one, "abcdefghij" + one} {
			if impl.IsValidEntry(entryWith(s, impl.KindBook)) != keyPattern.MatchString(s) {
				t.Errorf("Key %q", s)
			}
		}
	}
}

func TestCrossOfAnEntry(t *testing.T) {
	for _, c := range []struct {
		key, cross string
		valid      bool
	}{
		{"lee", "", true}, {"lee", "le", true}, {"lee", "leee", true}, {"lee", "lee9", true}, {"lee", "gone", true},
		{"lee", "lee", false}, {"a", "a", false}, {"abcdefghij", "abcdefghij", false}, {"abcdefghij", "abcdefghik", true},
	} {
		for _, kind := range allKinds {
			e := fullEntry(c.key, kind)
			e.Cross = c.cross
			if impl.IsValidEntry(e) != c.valid {
				t.Errorf("Key %q, Cross %q: %v", c.key, c.cross, !c.valid)
			}
			// Whether there is an entry with this key does not matter.
			if impl.IsValidLibrary(impl.Library{Entries: []impl.Entry{e}}) != c.valid {
				t.Errorf("a library of Key %q, Cross %q: %v", c.key, c.cross, !c.valid)
			}
		}
	}
}

func TestTextsOfEntries(t *testing.T) {
	forty := strings.Repeat("a", 40)
	texts := append(invalidTexts(), "", "a", "a b", "a  b", "~", "!", "{", "\"a, b\"", "a;b", " ~", forty, forty[1:], forty+"a",
		"a"+strings.Repeat(" ", 38)+"a", "a"+strings.Repeat(" ", 39), strings.Repeat(" ", 39)+"a")
	for c := range 256 {
		one := string([]byte{byte(c)})
		texts = append(texts, one, "a"+one, one+"a", "a"+one+"a", forty[:39]+one, one+forty[:39], forty+one)
	}
	for _, s := range texts {
		for i, e := range []impl.Entry{{Title: s}, {Container: s}, {Publisher: s}, {Pages: s}} {
			e.Key, e.Kind = "lee", impl.KindReport
			if impl.IsValidEntry(e) != entryTextPattern.MatchString(s) {
				t.Errorf("text %d: %q", i, s)
			}
		}
	}
}

func TestNumbersOfEntries(t *testing.T) {
	for kind := -3; kind < 9; kind++ {
		if impl.IsValidEntry(entryWith("lee", kind)) != slices.Contains(allKinds, kind) {
			t.Errorf("Kind %d", kind)
		}
	}
	for volume := -2; volume <= impl.MaxVolume+2; volume++ {
		e := entryWith("lee", impl.KindArticle)
		e.Volume = volume
		if impl.IsValidEntry(e) != (volume >= 0 && volume <= 9999) {
			t.Errorf("Volume %d", volume)
		}
	}
}

func TestNamesAndDatesOfEntries(t *testing.T) {
	for _, n := range manyNames() {
		for _, e := range []impl.Entry{{Authors: []impl.Name{n}}, {Editors: []impl.Name{n, n}}} {
			e.Key, e.Kind = "lee", impl.KindBook
			if !impl.IsValidEntry(e) {
				t.Fatalf("%v is not valid", e)
			}
		}
	}
	list := slices.Repeat([]impl.Name{name("Anna", "", "Lee", "")}, 6)
	for count := range len(list) + 1 {
		for _, e := range []impl.Entry{{Authors: list[:count]}, {Editors: list[:count]}, {Authors: list[:count], Editors: list[:4]}} {
			e.Key, e.Kind = "lee", impl.KindBook
			if impl.IsValidEntry(e) != (count <= impl.MaxNames) {
				t.Errorf("%d names", count)
			}
		}
	}
	for _, d := range someDates() {
		e := entryWith("lee", impl.KindBook)
		e.Date = d
		if !impl.IsValidEntry(e) {
			t.Errorf("Date %v", d)
		}
	}
}

func TestInvalidEntries(t *testing.T) {
	for _, e := range invalidEntries() {
		if impl.IsValidEntry(e) {
			t.Errorf("IsValidEntry(%.300q)", fmt.Sprint(e))
		}
	}
	for _, kind := range allKinds {
		for _, fields := range subsets(allFields) {
			if e := entryWith("lee", kind, fields...); !impl.IsValidEntry(e) {
				t.Errorf("%v is not valid", e)
			}
		}
	}
}

func TestValidLibraries(t *testing.T) {
	for _, keys := range subsets(someKeys) {
		l := libraryOf(keys...)
		if impl.IsValidLibrary(l) != (len(keys) <= impl.MaxEntries) {
			t.Errorf("the library of %q", keys)
		}
	}
	if !impl.IsValidLibrary(impl.Library{}) || !impl.IsValidLibrary(impl.Library{Entries: []impl.Entry{}}) {
		t.Error("the empty library")
	}
	for _, l := range invalidLibraries() {
		if impl.IsValidLibrary(l) {
			t.Errorf("IsValidLibrary(%.300q)", fmt.Sprint(l))
		}
	}
	for _, e := range invalidEntries() {
		l := libraryOf("a", "lee", "z")
		l.Entries[1] = e
		if impl.IsValidLibrary(l) {
			t.Errorf("a library with %.300q", fmt.Sprint(e))
		}
	}
}

func TestFindEntry(t *testing.T) {
	for _, keys := range subsets(someKeys) {
		if len(keys) > impl.MaxEntries {
			continue
		}
		l := libraryOf(keys...)
		for _, key := range append(append(invalidKeys(), someKeys...), "", "zz", "a00", "a1", "other") {
			want := max(0, slices.Index(keys, key))
			if i, ok := impl.FindEntry(l, key); ok != slices.Contains(keys, key) || i != want {
				t.Fatalf("FindEntry(%q, %q) = %d, %v", keys, key, i, ok)
			}
		}
	}
}

// withKey returns keys and key in their order, as far as key is not among them.
func withKey(keys []string, key string) []string {
	all := append(slices.Clone(keys), key)
	slices.Sort(all)
	return slices.Compact(all)
}

func withoutKey(keys []string, key string) []string {
	return slices.DeleteFunc(slices.Clone(keys), func(s string) bool { return s == key })
}

func keysOf(l impl.Library) []string {
	keys := []string{}
	for _, e := range l.Entries {
		keys = append(keys, e.Key)
	}
	return keys
}

// without returns a library without the entry with a key, if it has it.
func without(l impl.Library, key string) impl.Library {
	return impl.Library{Entries: slices.DeleteFunc(slices.Clone(l.Entries), func(e impl.Entry) bool { return e.Key == key })}
}

func TestAnEntryThatIsPutIsFoundAndCanBeDropped(t *testing.T) {
	for _, keys := range subsets(someKeys) {
		if len(keys) > impl.MaxEntries {
			continue
		}
		l := libraryOf(keys...)
		for _, key := range someKeys {
			e := entryWith(key, impl.KindReport, "editors", "volume")
			put, ok := impl.PutEntry(l, e)
			want := withKey(keys, key)
			if len(want) > impl.MaxEntries {
				if ok || len(put.Entries) != 0 {
					t.Fatalf("%q was put into the full library %q: %v", key, keys, put)
				}
				continue
			}
			if !ok || !slices.Equal(keysOf(put), want) || !impl.IsValidLibrary(put) {
				t.Fatalf("PutEntry(%q, %q) = %v, %v", keys, key, put, ok)
			}
			i, found := impl.FindEntry(put, key)
			if !found || !sameEntry(put.Entries[i], e) || !sameLibrary(without(put, key), without(l, key)) {
				t.Fatalf("PutEntry(%q, %q) = %v, where it is found at %d, %v", keys, key, put, i, found)
			}
			dropped, ok := impl.DropEntry(put, key)
			if !ok || !slices.Equal(keysOf(dropped), withoutKey(keys, key)) || !sameLibrary(dropped, without(l, key)) {
				t.Fatalf("DropEntry(%q, %q) = %v, %v", want, key, dropped, ok)
			}
			if _, found := impl.FindEntry(dropped, key); found {
				t.Fatalf("%q is still in %v", key, dropped)
			}
		}
	}
}

func TestDropEntryThatIsNotThere(t *testing.T) {
	for _, keys := range [][]string{{}, {"b"}, {"a", "z"}, {"a0", "a1b", "aa", "ab", "b", "b9", "ba", "z"}} {
		for _, key := range append(invalidKeys(), "", "c", "a00", "zz", "other") {
			if l, ok := impl.DropEntry(libraryOf(keys...), key); ok || len(l.Entries) != 0 {
				t.Errorf("DropEntry(%q, %q) = %v, %v", keys, key, l, ok)
			}
		}
	}
}

func TestFullLibraries(t *testing.T) {
	full := libraryOf(someKeys[:8]...)
	for _, key := range []string{"z", "a00", "zz"} {
		if l, ok := impl.PutEntry(full, entryWith(key, impl.KindBook)); ok || len(l.Entries) != 0 {
			t.Errorf("PutEntry(%q) = %v, %v", key, l, ok)
		}
	}
	for _, key := range someKeys[:8] {
		l, ok := impl.PutEntry(full, entryWith(key, impl.KindBook))
		if !ok || !slices.Equal(keysOf(l), someKeys[:8]) {
			t.Errorf("PutEntry(%q) = %v, %v", key, l, ok)
		}
	}
	l := impl.Library{}
	for i, key := range []string{"z", "a", "b9", "a0", "ba", "a1b", "b", "aa", "ab"} {
		next, ok := impl.PutEntry(l, fullEntry(key, impl.KindChapter))
		if ok != (i < impl.MaxEntries) {
			t.Fatalf("PutEntry(%d entries, %q) = %v", i, key, ok)
		}
		if ok {
			l = next
		}
	}
	if !slices.Equal(keysOf(l), []string{"a", "a0", "a1b", "aa", "b", "b9", "ba", "z"}) {
		t.Errorf("keys %q", keysOf(l))
	}
}

func TestAReplacedEntryKeepsNothing(t *testing.T) {
	for _, kind := range allKinds {
		e := entryWith("aa", kind)
		l, ok := impl.PutEntry(libraryOf("a", "aa", "b"), e)
		if !ok || !sameEntry(l.Entries[1], e) {
			t.Errorf("kind %d: %v, %v", kind, l, ok)
		}
		l, ok = impl.PutEntry(l, fullEntry("aa", kind))
		if !ok || !sameEntry(l.Entries[1], fullEntry("aa", kind)) {
			t.Errorf("kind %d: %v, %v", kind, l, ok)
		}
	}
}

func TestCrossOfAnEntryThatIsPut(t *testing.T) {
	for _, cross := range []string{"", "a", "gone"} {
		e := entryWith("aa", impl.KindChapter, "title")
		e.Cross = cross
		l, ok := impl.PutEntry(libraryOf("a", "b"), e)
		if !ok || l.Entries[1].Cross != cross {
			t.Errorf("PutEntry with Cross %q = %v, %v", cross, l, ok)
		}
		// What refers to a dropped entry goes on doing so.
		l, ok = impl.DropEntry(l, "a")
		if !ok || l.Entries[0].Cross != cross {
			t.Errorf("DropEntry beside Cross %q = %v, %v", cross, l, ok)
		}
	}
}

func TestInvalidArgumentsOfLibraries(t *testing.T) {
	for _, e := range invalidEntries() {
		for _, l := range []impl.Library{{}, libraryOf("a", "z"), libraryOf("a", "lee", "z")} {
			if put, ok := impl.PutEntry(l, e); ok || len(put.Entries) != 0 {
				t.Errorf("PutEntry(%q, %.300q) = %v, %v", keysOf(l), fmt.Sprint(e), put, ok)
			}
		}
	}
	for _, l := range invalidLibraries() {
		for _, key := range append([]string{"a", "lee", "z", "new", ""}, keysOf(l)[:1]...) {
			if i, ok := impl.FindEntry(l, key); ok || i != 0 {
				t.Errorf("FindEntry(%.300q, %q) = %d, %v", fmt.Sprint(l), key, i, ok)
			}
			if put, ok := impl.PutEntry(l, fullEntry(key, impl.KindBook)); ok || len(put.Entries) != 0 {
				t.Errorf("PutEntry(%.300q, %q) = %v, %v", fmt.Sprint(l), key, put, ok)
			}
			if dropped, ok := impl.DropEntry(l, key); ok || len(dropped.Entries) != 0 {
				t.Errorf("DropEntry(%.300q, %q) = %v, %v", fmt.Sprint(l), key, dropped, ok)
			}
		}
		for kind := range 6 {
			if keys, ok := impl.EntriesOfKind(l, kind); ok || len(keys) != 0 {
				t.Errorf("EntriesOfKind(%.300q, %d) = %q, %v", fmt.Sprint(l), kind, keys, ok)
			}
		}
		if people, ok := impl.PeopleOf(l); ok || len(people) != 0 {
			t.Errorf("PeopleOf(%.300q) = %q, %v", fmt.Sprint(l), people, ok)
		}
	}
}

func TestInvalidEntriesInEveryFunction(t *testing.T) {
	for _, e := range invalidEntries() {
		for _, field := range append(allFields, "cross", "") {
			if s, ok := impl.FieldText(e, field); ok || s != "" {
				t.Errorf("FieldText(%.300q, %q) = %q, %v", fmt.Sprint(e), field, s, ok)
			}
		}
		if missing, ok := impl.MissingFields(e); ok || len(missing) != 0 {
			t.Errorf("MissingFields(%.300q) = %q, %v", fmt.Sprint(e), missing, ok)
		}
	}
}

func TestFieldText(t *testing.T) {
	for _, kind := range allKinds {
		for _, fields := range subsets(allFields) {
			e := entryWith("lee", kind, fields...)
			for _, field := range allFields {
				want := ""
				if slices.Contains(fields, field) {
					want = fieldTexts[field]
				}
				if s, ok := impl.FieldText(e, field); !ok || s != want {
					t.Fatalf("FieldText of %q with %q = %q, %v", field, fields, s, ok)
				}
			}
		}
	}
}

func TestFieldTextOfOtherFields(t *testing.T) {
	for _, field := range []string{
		"", " ", "key", "kind", "cross", "year", "author", "Authors", "AUTHORS", "authors ", " authors", "authorseditors", "date\n",
		"title\x00", "pages,volume", "volumes", "\xff", strings.Repeat("authors", 1000),
	} {
		for _, e := range []impl.Entry{entryWith("lee", impl.KindBook), fullEntry("lee", impl.KindArticle)} {
			if s, ok := impl.FieldText(e, field); ok || s != "" {
				t.Errorf("FieldText(%q) = %q, %v", field, s, ok)
			}
		}
	}
}

func TestFieldTextOfNamesDatesAndVolumes(t *testing.T) {
	for _, n := range manyNames() {
		form, _ := impl.InverseForm(n)
		e := impl.Entry{Key: "lee", Kind: impl.KindBook, Authors: []impl.Name{n}, Editors: []impl.Name{n, n, n, n}}
		if s, ok := impl.FieldText(e, "authors"); !ok || s != form {
			t.Fatalf("authors %q = %q, %v", n, s, ok)
		}
		if s, ok := impl.FieldText(e, "editors"); !ok || s != strings.Join([]string{form, form, form, form}, "; ") {
			t.Fatalf("editors %q = %q, %v", n, s, ok)
		}
	}
	for _, d := range someDates() {
		want := textOf(d)
		if d == (impl.Date{}) {
			want = ""
		}
		if s, ok := impl.FieldText(impl.Entry{Key: "lee", Kind: impl.KindBook, Date: d}, "date"); !ok || s != want {
			t.Errorf("date %v = %q, %v", d, s, ok)
		}
	}
	for volume, want := range map[int]string{0: "", 1: "1", 9: "9", 10: "10", 100: "100", 9999: "9999"} {
		if s, ok := impl.FieldText(impl.Entry{Key: "lee", Kind: impl.KindBook, Volume: volume}, "volume"); !ok || s != want {
			t.Errorf("volume %d = %q, %v", volume, s, ok)
		}
	}
	forty := strings.Repeat("~", 40)
	e := impl.Entry{Key: "lee", Kind: impl.KindBook, Title: forty, Container: "a  b", Publisher: "a\\\"b", Pages: ";"}
	for field, want := range map[string]string{"title": forty, "container": "a  b", "publisher": "a\\\"b", "pages": ";"} {
		if s, ok := impl.FieldText(e, field); !ok || s != want {
			t.Errorf("%s = %q, %v", field, s, ok)
		}
	}
}

// requiredOf returns what the chapter requires of an entry, which has the given fields.
func requiredOf(kind int, fields []string) []string {
	required := strings.Fields(map[int]string{
		impl.KindBook:    "authors title publisher date",
		impl.KindReport:  "authors title publisher date",
		impl.KindArticle: "authors title container date volume",
		impl.KindChapter: "authors title container editors date",
	}[kind])
	if kind == impl.KindBook && slices.Contains(fields, "editors") {
		required = required[1:]
	}
	return required
}

func TestMissingFields(t *testing.T) {
	for _, kind := range allKinds {
		for _, fields := range subsets(allFields) {
			want := slices.DeleteFunc(requiredOf(kind, fields), func(field string) bool { return slices.Contains(fields, field) })
			e := entryWith("lee", kind, fields...)
			for _, cross := range []string{"", "other"} {
				e.Cross = cross
				if missing, ok := impl.MissingFields(e); !ok || !slices.Equal(missing, want) {
					t.Fatalf("MissingFields of kind %d with %q = %q, %v", kind, fields, missing, ok)
				}
			}
		}
	}
}

func TestBooksWithEditorsAndWithoutAuthors(t *testing.T) {
	for _, c := range []struct {
		kind    int
		fields  []string
		missing []string
	}{
		{impl.KindBook, []string{"editors"}, []string{"title", "publisher", "date"}},
		{impl.KindBook, []string{"editors", "title", "publisher", "date"}, []string{}},
		{impl.KindBook, []string{"authors", "title", "publisher", "date"}, []string{}},
		{impl.KindBook, []string{"title", "publisher", "date"}, []string{"authors"}},
		{impl.KindBook, []string{"authors", "editors"}, []string{"title", "publisher", "date"}},
		{impl.KindReport, []string{"editors", "title", "publisher", "date"}, []string{"authors"}},
		{impl.KindArticle, []string{"editors", "title", "container", "date", "volume"}, []string{"authors"}},
		{impl.KindChapter, []string{"editors", "title", "container", "date"}, []string{"authors"}},
		{impl.KindChapter, []string{"authors", "title", "container", "date"}, []string{"editors"}},
		{impl.KindBook, nil, []string{"authors", "title", "publisher", "date"}},
		{impl.KindReport, nil, []string{"authors", "title", "publisher", "date"}},
		{impl.KindArticle, nil, []string{"authors", "title", "container", "date", "volume"}},
		{impl.KindChapter, nil, []string{"authors", "title", "container", "editors", "date"}},
	} {
		if missing, ok := impl.MissingFields(entryWith("lee", c.kind, c.fields...)); !ok || !slices.Equal(missing, c.missing) {
			t.Errorf("kind %d with %q: %q, %v", c.kind, c.fields, missing, ok)
		}
	}
	// An approximate date and the smallest volume are not empty; a list that is not nil may be.
	e := impl.Entry{Key: "lee", Kind: impl.KindArticle, Date: circa(1), Volume: 1, Authors: []impl.Name{}}
	if missing, ok := impl.MissingFields(e); !ok || !slices.Equal(missing, []string{"authors", "title", "container"}) {
		t.Errorf("missing %q, %v", missing, ok)
	}
	e = impl.Entry{Key: "lee", Kind: impl.KindBook, Editors: []impl.Name{}}
	if missing, ok := impl.MissingFields(e); !ok || !slices.Contains(missing, "authors") {
		t.Errorf("missing %q, %v", missing, ok)
	}
}

func TestEntriesOfKind(t *testing.T) {
	// Two bits of a number tell the kind of each entry.
	for number := 0; number < 1<<(2*impl.MaxEntries); number += 7 {
		l := libraryOf(someKeys[:8]...)
		want := map[int][]string{}
		for i := range l.Entries {
			kind := number>>(2*i)&3 + 1
			l.Entries[i].Kind = kind
			want[kind] = append(want[kind], l.Entries[i].Key)
		}
		for _, kind := range allKinds {
			if keys, ok := impl.EntriesOfKind(l, kind); !ok || !slices.Equal(keys, want[kind]) {
				t.Fatalf("EntriesOfKind(%d) = %q, %v, not %q", kind, keys, ok, want[kind])
			}
		}
	}
	for _, kind := range allKinds {
		if keys, ok := impl.EntriesOfKind(impl.Library{}, kind); !ok || len(keys) != 0 {
			t.Errorf("the empty library: %q, %v", keys, ok)
		}
	}
}

func TestEntriesOfOtherKinds(t *testing.T) {
	for _, kind := range []int{0, -1, 5, 6, math.MinInt, math.MaxInt, 1<<32 + 1} {
		for _, l := range []impl.Library{{}, libraryOf("a", "b", "z")} {
			if keys, ok := impl.EntriesOfKind(l, kind); ok || len(keys) != 0 {
				t.Errorf("EntriesOfKind(%d) = %q, %v", kind, keys, ok)
			}
		}
	}
}

func TestPeopleOf(t *testing.T) {
	lee, berg, adams := name("Anna", "", "Lee", ""), name("B", "van", "Berg", ""), name("", "", "Adams", "")
	for _, c := range []struct {
		what    string
		entries []impl.Entry
		want    []impl.Name
	}{
		{"no entries", nil, nil},
		{"no names", []impl.Entry{{}, {}}, nil},
		{"authors", []impl.Entry{{Authors: []impl.Name{lee, berg}}}, []impl.Name{berg, lee}},
		{"editors", []impl.Entry{{Editors: []impl.Name{lee, berg, adams}}}, []impl.Name{adams, berg, lee}},
		{"twice in a list", []impl.Entry{{Authors: []impl.Name{lee, lee}}}, []impl.Name{lee}},
		{"author and editor", []impl.Entry{{Authors: []impl.Name{lee}, Editors: []impl.Name{lee}}}, []impl.Name{lee}},
		{"in two entries", []impl.Entry{{Authors: []impl.Name{lee}}, {Editors: []impl.Name{adams, lee}}}, []impl.Name{adams, lee}},
		{"nil and empty Given", []impl.Entry{{Authors: []impl.Name{adams}}, {Authors: []impl.Name{{Given: []string{}, Family: "Adams"}}}}, []impl.Name{adams}},
		{
			"names that may be the same",
			[]impl.Entry{{Authors: []impl.Name{name("Anna", "", "Lee", ""), name("A", "", "Lee", ""), name("", "", "Lee", "")}}},
			[]impl.Name{name("A", "", "Lee", ""), name("Anna", "", "Lee", ""), name("", "", "Lee", "")},
		},
		{
			"names that differ in case",
			[]impl.Entry{{Authors: []impl.Name{name("Anna", "", "LeE", ""), name("Anna", "", "Lee", ""), name("Anna", "", "LEE", "")}}},
			[]impl.Name{name("Anna", "", "LEE", ""), name("Anna", "", "LeE", ""), name("Anna", "", "Lee", "")},
		},
		{
			"names with the same full form",
			[]impl.Entry{{Authors: []impl.Name{name("A", "", "B", "C"), name("", "a", "B", "C"), name("A", "", "B", "")}}},
			[]impl.Name{name("A", "", "B", ""), name("A", "", "B", "C"), name("", "a", "B", "C")},
		},
	} {
		l := impl.Library{}
		for i, e := range c.entries {
			e.Key, e.Kind = someKeys[i], impl.KindBook
			l.Entries = append(l.Entries, e)
		}
		if people, ok := impl.PeopleOf(l); !ok || !slices.EqualFunc(people, c.want, sameName) {
			t.Errorf("%s: %q, %v", c.what, people, ok)
		}
	}
}

func TestPeopleOfManyLibraries(t *testing.T) {
	all := manyNames()
	// Steps through all names, with some of them again in each library.
	for first := 0; first+70 < len(all); first += 13 {
		l := libraryOf(someKeys[:8]...)
		var want []impl.Name
		for i := range l.Entries {
			l.Entries[i].Authors = slices.Clone(all[first+5*i : first+5*i+4])
			l.Entries[i].Editors = []impl.Name{all[first+9*i], all[first], all[len(all)-1-first-i]}
			want = append(append(want, l.Entries[i].Authors...), l.Entries[i].Editors...)
		}
		slices.SortFunc(want, func(a, b impl.Name) int { x, _ := impl.CompareNames(a, b); return x })
		want = slices.CompactFunc(want, sameName)
		for range 3 {
			people, ok := impl.PeopleOf(l)
			if !ok || !slices.EqualFunc(people, want, sameName) {
				t.Fatalf("PeopleOf = %q, %v, not %q", people, ok, want)
			}
		}
	}
}

// sharingLibrary returns a library all of whose lists share their memory, with room behind their
// ends that holds invalid values.
func sharingLibrary() impl.Library {
	words := []string{"Anna", "Maria", "not a word"}
	lee := impl.Name{Given: words[:2], Family: "Lee"}
	names := []impl.Name{lee, lee, {Given: words, Family: "not a name"}}
	room := make([]impl.Entry, 3, 6)
	for i, key := range []string{"b", "d", "f"} {
		room[i] = impl.Entry{Key: key, Kind: impl.KindBook, Authors: names[:2], Editors: names[:1]}
	}
	behind := room[3:6]
	for i := range behind {
		behind[i] = impl.Entry{Key: "not a key"}
	}
	return impl.Library{Entries: room}
}

func TestPutAndDropKeepTheirArguments(t *testing.T) {
	for _, key := range []string{"a", "b", "c", "d", "e", "f", "g"} {
		l, e := sharingLibrary(), impl.Entry{Key: key, Kind: impl.KindBook}
		e.Authors, e.Editors = l.Entries[0].Authors, l.Entries[0].Editors
		given := impl.Library{Entries: []impl.Entry{e}}
		before, alone := whole(l), whole(given)
		put, ok := impl.PutEntry(l, e)
		if !ok || whole(l) != before || whole(given) != alone {
			t.Fatalf("PutEntry of %q: %v, %v", key, put, ok)
		}
		checkOwnMemory(t, "PutEntry of "+key, put, l, given)
		dropped, ok := impl.DropEntry(l, key)
		if ok != strings.Contains("bdf", key) || whole(l) != before {
			t.Fatalf("DropEntry of %q: %v, %v", key, dropped, ok)
		}
		checkOwnMemory(t, "DropEntry of "+key, dropped, l)
		before = whole(put)
		dropped, ok = impl.DropEntry(put, key)
		if !ok || whole(put) != before {
			t.Fatalf("DropEntry of %q, which was put: %v, %v", key, dropped, ok)
		}
		checkOwnMemory(t, "DropEntry of "+key+", which was put", dropped, l, put)
	}
}

func TestPeopleKeepTheirLibrary(t *testing.T) {
	l := sharingLibrary()
	before := whole(l)
	people, ok := impl.PeopleOf(l)
	if !ok || len(people) != 1 || whole(l) != before {
		t.Fatalf("PeopleOf = %q, %v", people, ok)
	}
	checkOwnMemory(t, "PeopleOf", impl.Library{Entries: []impl.Entry{{Authors: people}}}, l)
}

func TestListsOfFieldsAreNew(t *testing.T) {
	e := entryWith("lee", impl.KindArticle)
	first, _ := impl.MissingFields(e)
	for i := range first[:cap(first)] {
		first[:cap(first)][i] = "spoilt"
	}
	if again, ok := impl.MissingFields(e); !ok || !slices.Equal(again, requiredOf(impl.KindArticle, nil)) {
		t.Errorf("MissingFields = %q, %v", again, ok)
	}
}
