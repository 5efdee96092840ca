package tests

import (
	"math"
	"reflect"
	"regexp"
	"slices"
	"strings"
	"testing"

	"loop.example/g00896/impl"
)

var (
	wordPattern     = regexp.MustCompile(`\A[A-Za-z](?:[-']?[A-Za-z])*\z`)
	particlePattern = regexp.MustCompile(`\A[a-z]{1,12}(?: [a-z]{1,12})?\z`)
)

// isWord follows the definition of a word by a pattern, whatever the program does.
func isWord(s string) bool { return len(s) <= 12 && wordPattern.MatchString(s) }

func isCapitalWord(s string) bool { return isWord(s) && s[0] <= 'Z' }

// givenOf splits a text into Given words; the empty text has none.
func givenOf(s string) []string {
	if s == "" {
		return nil
	}
	return strings.Split(s, " ")
}

func name(given, particle, family, suffix string) impl.Name {
	return impl.Name{Given: givenOf(given), Particle: particle, Family: family, Suffix: suffix}
}

// sameName compares names; no Given words may be a nil or an empty slice.
func sameName(a, b impl.Name) bool {
	return slices.Equal(a.Given, b.Given) &&
		a.Particle == b.Particle && a.Family == b.Family && a.Suffix == b.Suffix
}

// manyNames returns names with and without every part, with all kinds of words.
func manyNames() []impl.Name {
	var all []impl.Name
	for _, given := range []string{
		"", "A", "B", "Anna", "Anna Maria", "A M", "A Maria B", "Jean-paul", "D'arcy-Ann-b", "Abcdefghijkl Abcdefghijkl Abcdefghijkl",
	} {
		for _, particle := range []string{"", "a", "de", "van", "van der", "abcdefghijkl abcdefghijkl"} {
			for _, family := range []string{"B", "Berg", "BERG", "O'Neil", "Lee-Smith", "Abcdefghijkl"} {
				for _, suffix := range []string{"", "Jr", "jr", "I", "d'E-f", "Abcdefghijkl"} {
					all = append(all, name(given, particle, family, suffix))
				}
			}
		}
	}
	return all
}

// invalidNames returns names of which exactly one part is at fault.
func invalidNames() []impl.Name {
	all := []impl.Name{
		{},
		name("A", "van", "", "Jr"),
		name("A B C D", "", "Berg", ""),
		{Given: []string{""}, Family: "Berg"},
		{Given: []string{"Anna", ""}, Family: "Berg"},
		{Given: []string{"Anna Maria"}, Family: "Berg"},
		{Given: make([]string, 5000), Family: "Berg"},
	}
	for _, s := range []string{
		"-", "'", "-A", "'A", "A-", "A'", "A--B", "A''B", "A-'B", "A'-B", "Abcdefghijk-", "Abcdefghijklm",
		" ", " A", "A ", "A B", "A,", "A, B", "A.", "A1", "1", "A_b", "A\x00", "A\n", "\u00c9", "Andr\u00e9", "A\xff", "\xff",
		"A@", "A[", "A`", "A{", "@", "[", "`", "{", strings.Repeat("A", 5000),
	} {
		all = append(all,
			impl.Name{Given: []string{s}, Family: "Berg"},
			impl.Name{Given: []string{"Anna", "Maria", s}, Family: "Berg"},
			impl.Name{Family: s},
			impl.Name{Family: "Berg", Suffix: s},
		)
	}
	for _, s := range []string{"anna", "a", "a-B", "o'Neil"} {
		all = append(all, impl.Name{Given: []string{s}, Family: "Berg"}, impl.Name{Family: s})
	}
	for _, s := range []string{
		"-", "a-", "'a", " ", "1", "a1", "a.", "\u00e9", "\xff", "`", "{", "a\x00",
		"Van", "vAn", "vaN", "van Der", "Van der", "d'a", "d'", "a-b", "van d'a", "van a-b",
		" van", "van ", "van  der", "van der den", "van der ", " van der", "van\tder", "van,der",
		"abcdefghijklm", "van abcdefghijklm", "abcdefghijklm van", strings.Repeat("a ", 5000),
	} {
		all = append(all, impl.Name{Particle: s, Family: "Berg"})
	}
	return all
}

func TestLimitOfNames(t *testing.T) {
	if impl.MaxNames != 4 {
		t.Error("limit", impl.MaxNames)
	}
}

func TestWordsOfNames(t *testing.T) {
	for _, s := range stringsOver("aZ-' .", 5) {
		for _, n := range []struct {
			name  impl.Name
			valid bool
		}{
			{impl.Name{Given: []string{s}, Family: "Berg"}, isCapitalWord(s)},
			{impl.Name{Given: []string{"Anna", s, "Maria"}, Family: "Berg"}, isCapitalWord(s)},
			{impl.Name{Family: s}, isCapitalWord(s)},
			{impl.Name{Family: "Berg", Suffix: s}, s == "" || isWord(s)},
			{impl.Name{Particle: s, Family: "Berg"}, s == "" || particlePattern.MatchString(s)},
		} {
			if impl.IsValidName(n.name) != n.valid {
				t.Fatalf("IsValidName(%q) = %v", n.name, !n.valid)
			}
		}
	}
}

func TestEveryByteInAWord(t *testing.T) {
	for c := range 256 {
		one := string([]byte{byte(c)})
		for _, s := range []string{one, "A" + one, "A" + one + "b", one + "b"} {
			if impl.IsValidName(impl.Name{Family: s}) != isCapitalWord(s) {
				t.Errorf("Family %q", s)
			}
			if impl.IsValidName(impl.Name{Family: "Berg", Suffix: s}) != isWord(s) {
				t.Errorf("Suffix %q", s)
			}
		}
		for _, s := range []string{one, "a" + one, "a" + one + "b", one + "b", "a b" + one, "a " + one + "b"} {
			if impl.IsValidName(impl.Name{Particle: s, Family: "Berg"}) != particlePattern.MatchString(s) {
				t.Errorf("Particle %q", s)
			}
		}
	}
}

func TestLengthsOfWords(t *testing.T) {
	for _, word := range []string{"Abcdefghijkl", "ABCDEFGHIJKL", "A-b-c-d-e-fg", "A'b'c'd'e'fg"} {
		for _, c := range []struct {
			s     string
			valid bool
		}{
			{word[:1], true}, {word, true}, {word + "m", false}, {word + "-m", false}, {word[:11] + "-", false},
		} {
			for _, n := range []impl.Name{
				{Given: []string{c.s}, Family: "Berg"},
				{Given: []string{"A", "B", c.s}, Family: "Berg"},
				{Family: c.s},
				{Family: "Berg", Suffix: c.s},
			} {
				if impl.IsValidName(n) != c.valid {
					t.Errorf("IsValidName(%q) = %v", n, !c.valid)
				}
			}
		}
	}
	long := "abcdefghijkl"
	for s, valid := range map[string]bool{
		long: true, long + "m": false, long + " " + long: true,
		long + " " + long + "m": false, long + "m " + long: false,
	} {
		if impl.IsValidName(impl.Name{Particle: s, Family: "Berg"}) != valid {
			t.Errorf("Particle %q: %v", s, !valid)
		}
	}
}

func TestNumberOfGivenWords(t *testing.T) {
	room := []string{"A", "B", "C", "D", "E"}
	for count := range len(room) + 1 {
		if impl.IsValidName(impl.Name{Given: room[:count], Family: "Berg"}) != (count <= 3) {
			t.Errorf("%d Given words", count)
		}
	}
}

func TestSuffixMayBeginWithALowerCaseLetter(t *testing.T) {
	n := name("Anna", "", "Berg", "jr")
	if s, ok := impl.InverseForm(n); !ok || s != "Berg, Anna, jr" {
		t.Errorf("InverseForm = %q, %v", s, ok)
	}
	if m, ok := impl.ParseInverse("Berg, Anna, jr"); !ok || !sameName(m, n) {
		t.Errorf("ParseInverse = %q, %v", m, ok)
	}
}

func TestFormsOfNames(t *testing.T) {
	for _, c := range []struct {
		name                           impl.Name
		full, inverse, initials, short string
	}{
		{name("Anna Maria", "van der", "Berg", "Jr"), "Anna Maria van der Berg Jr", "van der Berg, Anna Maria, Jr", "A. M.", "A. M. van der Berg"},
		{name("", "van der", "Berg", "Jr"), "van der Berg Jr", "van der Berg, , Jr", "", "van der Berg"},
		{name("", "", "Berg", "Jr"), "Berg Jr", "Berg, , Jr", "", "Berg"},
		{name("", "", "Berg", ""), "Berg", "Berg", "", "Berg"},
		{name("", "van", "Berg", ""), "van Berg", "van Berg", "", "van Berg"},
		{name("Anna", "", "Berg", ""), "Anna Berg", "Berg, Anna", "A.", "A. Berg"},
		{name("Anna", "", "Berg", "Jr"), "Anna Berg Jr", "Berg, Anna, Jr", "A.", "A. Berg"},
		{name("Anna", "van", "Berg", ""), "Anna van Berg", "van Berg, Anna", "A.", "A. van Berg"},
		{name("A", "", "B", "c"), "A B c", "B, A, c", "A.", "A. B"},
		{name("A B C", "d e", "F", "G"), "A B C d e F G", "d e F, A B C, G", "A. B. C.", "A. B. C. d e F"},
		{name("Jean-paul Marie", "", "X", ""), "Jean-paul Marie X", "X, Jean-paul Marie", "J.-P. M.", "J.-P. M. X"},
		{name("Jean-Paul", "", "Lee-Smith", ""), "Jean-Paul Lee-Smith", "Lee-Smith, Jean-Paul", "J.-P.", "J.-P. Lee-Smith"},
		{name("A-b-C-d", "", "X", ""), "A-b-C-d X", "X, A-b-C-d", "A.-B.-C.-D.", "A.-B.-C.-D. X"},
		{name("A-b-c-d-e-fg B-z", "", "X", ""), "A-b-c-d-e-fg B-z X", "X, A-b-c-d-e-fg B-z", "A.-B.-C.-D.-E.-F. B.-Z.", "A.-B.-C.-D.-E.-F. B.-Z. X"},
		{name("D'arcy", "", "O'Neil", ""), "D'arcy O'Neil", "O'Neil, D'arcy", "D.", "D. O'Neil"},
		{name("D'a-o'b", "", "X", ""), "D'a-o'b X", "X, D'a-o'b", "D.-O.", "D.-O. X"},
	} {
		for _, form := range []struct {
			what string
			of   func(impl.Name) (string, bool)
			want string
		}{
			{"FullForm", impl.FullForm, c.full}, {"InverseForm", impl.InverseForm, c.inverse},
			{"InitialsOf", impl.InitialsOf, c.initials}, {"ShortForm", impl.ShortForm, c.short},
		} {
			if s, ok := form.of(c.name); !ok || s != form.want {
				t.Errorf("%s(%q) = %q, %v, not %q", form.what, c.name, s, ok, form.want)
			}
		}
		if n, ok := impl.ParseInverse(c.inverse); !ok || !sameName(n, c.name) {
			t.Errorf("ParseInverse(%q) = %q, %v", c.inverse, n, ok)
		}
	}
}

func TestEveryNameIsRecoveredFromItsInverseForm(t *testing.T) {
	forms := map[string]impl.Name{}
	for _, n := range manyNames() {
		if !impl.IsValidName(n) {
			t.Fatalf("%q is not valid", n)
		}
		s, ok := impl.InverseForm(n)
		if other, taken := forms[s]; !ok || taken {
			t.Fatalf("InverseForm(%q) = %q, %v, as that of %q", n, s, ok, other)
		}
		forms[s] = n
		if m, ok := impl.ParseInverse(s); !ok || !sameName(m, n) {
			t.Fatalf("ParseInverse(%q) = %q, %v, not %q", s, m, ok, n)
		}
	}
}

func TestNoGivenWordsAsNilOrEmpty(t *testing.T) {
	empty := impl.Name{Given: []string{}, Family: "Berg", Suffix: "Jr"}
	none := impl.Name{Family: "Berg", Suffix: "Jr"}
	if s, ok := impl.InverseForm(empty); !ok || s != "Berg, , Jr" {
		t.Errorf("InverseForm = %q, %v", s, ok)
	}
	if x, ok := impl.CompareNames(empty, none); !ok || x != 0 {
		t.Errorf("CompareNames = %d, %v", x, ok)
	}
	if yes, ok := impl.MayBeSame(empty, none); !ok || !yes {
		t.Errorf("MayBeSame = %v, %v", yes, ok)
	}
}

func TestParseInverseRefusesOtherTexts(t *testing.T) {
	long := "Abcdefghijkl"
	for _, s := range []string{
		"", " ", ",", ", ", ", , ", ",,", "berg", "van", "van der", "Van Berg", "van Der Berg", "van der den Berg",
		" Berg", "Berg ", "van  Berg", "van  der Berg", " van Berg", "Anna Berg", "Anna Maria van der Berg Jr",
		"Berg,", "Berg, ", "Berg ,Anna", "Berg , Anna", "Berg,Anna", "Berg,  Anna", "Berg, Anna ", "Berg, Anna  Maria", "Berg, anna", "Berg, Anna maria",
		"Berg, A B C D", "Berg, Anna,", "Berg, Anna, ", "Berg, Anna , Jr", "Berg, Anna,Jr", "Berg, Anna,  Jr", "Berg, Anna, Jr ", "Berg, Anna, Jr,", "Berg, Anna, Jr, ",
		"Berg, , ", "Berg, ,", "Berg, ,Jr", "Berg,, Jr", "Berg, Jr,", "Berg,  , Jr", "Berg, , , Jr", "Berg, , Jr Sr", "Berg, , Jr.",
		"Berg, A, B, C", "Berg, Anna, -", "Berg, Anna-", "Berg-, Anna", "Berg--Lee", "O''Neil", "B-'A", ", Anna", ", Anna, Jr", ", , Jr", "van , Anna", "van, Anna",
		long + "m", "Berg, " + long + "m", "Berg, , " + long + "m", "abcdefghijklm Berg", "d'a Berg", "a-b Berg",
		"Berg\n", "\nBerg", "Berg, Anna\n", "Berg\x00", "Berg,\u00a0Anna", "B\u00e9rg", "\xff", "Berg; Lee",
		strings.Repeat("A", 5000), strings.Repeat(" ", 5000), strings.Repeat(", ", 5000),
		"Berg, " + strings.Repeat("A ", 5000) + "A", "Berg, " + strings.Repeat("A", 5000), strings.Repeat("van ", 5000) + "Berg",
		"Berg, " + strings.Repeat("A", 5000) + ", Jr", "Berg, , " + strings.Repeat("A", 5000),
	} {
		if n, ok := impl.ParseInverse(s); ok || !sameName(n, impl.Name{}) {
			t.Errorf("ParseInverse(%q) = %q, %v", s, n, ok)
		}
	}
}

// namesOver returns all valid names whose words are among those given.
func namesOver(words []string) []impl.Name {
	givens := [][]string{{}}
	for range 3 {
		for _, g := range slices.Clone(givens) {
			for _, w := range words {
				givens = append(givens, append(slices.Clone(g), w))
			}
		}
	}
	particles := append([]string{""}, words...)
	for _, a := range words {
		for _, b := range words {
			particles = append(particles, a+" "+b)
		}
	}
	var all []impl.Name
	for _, g := range givens {
		for _, p := range particles {
			for _, f := range words {
				for _, s := range append([]string{""}, words...) {
					n := impl.Name{Given: g, Particle: p, Family: f, Suffix: s}
					if impl.IsValidName(n) {
						all = append(all, n)
					}
				}
			}
		}
	}
	return all
}

// lettersAdjoin reports whether a text has a word of more than one letter.
func lettersAdjoin(s string) bool {
	for i := 1; i < len(s); i++ {
		if strings.Contains("aB", s[i-1:i]) && strings.Contains("aB", s[i:i+1]) {
			return true
		}
	}
	return false
}

// shortForms returns the inverse forms of all names whose words are `a` and `B`.
func shortForms(t *testing.T) map[string]impl.Name {
	forms := map[string]impl.Name{}
	for _, n := range namesOver([]string{"a", "B"}) {
		s, ok := impl.InverseForm(n)
		if !ok {
			t.Fatalf("InverseForm(%q) failed", n)
		}
		forms[s] = n
	}
	return forms
}

// checkParsed checks that of the texts whose words have one letter exactly the forms are parsed.
func checkParsed(t *testing.T, forms map[string]impl.Name, texts []string) {
	t.Helper()
	for _, s := range texts {
		if lettersAdjoin(s) {
			continue
		}
		want, is := forms[s]
		if n, ok := impl.ParseInverse(s); ok != is || !sameName(n, want) {
			t.Fatalf("ParseInverse(%q) = %q, %v, not %q, %v", s, n, ok, want, is)
		}
	}
}

func TestParseInverseAcceptsExactlyTheInverseForms(t *testing.T) {
	checkParsed(t, shortForms(t), stringsOver("aB, ", 8))
}

func TestParseInverseOfTextsNextToInverseForms(t *testing.T) {
	forms := shortForms(t)
	for form := range forms {
		near := []string{form}
		for i := range len(form) + 1 {
			for _, c := range []string{"a", "B", ",", " ", ", "} {
				near = append(near, form[:i]+c+form[i:])
				if i < len(form) {
					near = append(near, form[:i]+form[i+1:], form[:i]+c+form[i+1:])
				}
			}
		}
		checkParsed(t, forms, near)
	}
}

func TestInvalidNamesInEveryFunction(t *testing.T) {
	good := name("Anna", "van", "Berg", "Jr")
	for _, bad := range invalidNames() {
		if impl.IsValidName(bad) {
			t.Errorf("IsValidName(%.60q)", bad)
		}
		for _, of := range []func(impl.Name) (string, bool){
			impl.FullForm, impl.InverseForm, impl.InitialsOf, impl.ShortForm,
		} {
			if s, ok := of(bad); ok || s != "" {
				t.Errorf("a form of %.60q: %q, %v", bad, s, ok)
			}
		}
		for _, pair := range [][2]impl.Name{{bad, good}, {good, bad}, {bad, bad}} {
			if x, ok := impl.CompareNames(pair[0], pair[1]); ok || x != 0 {
				t.Errorf("CompareNames(%.60q) = %d, %v", pair, x, ok)
			}
			if yes, ok := impl.MayBeSame(pair[0], pair[1]); ok || yes {
				t.Errorf("MayBeSame(%.60q) = %v, %v", pair, yes, ok)
			}
			if yes, ok := impl.SamePeople(pair[:1], pair[1:]); ok || yes {
				t.Errorf("SamePeople(%.60q) = %v, %v", pair, yes, ok)
			}
		}
		for _, list := range [][]impl.Name{{bad}, {bad, good}, {good, bad}, {good, good, good, bad}} {
			for limit := 1; limit <= impl.MaxNames; limit++ {
				if s, ok := impl.JoinNames(list, limit); ok || s != "" {
					t.Errorf("JoinNames(%.60q, %d) = %q, %v", list, limit, s, ok)
				}
			}
		}
	}
}

// orderOf compares names by its own reading of the chapter: everything but the last step without
// regard to case.
func orderOf(t *testing.T, a, b impl.Name) int {
	fullA, _ := impl.FullForm(a)
	fullB, _ := impl.FullForm(b)
	inverseA, _ := impl.InverseForm(a)
	inverseB, okay := impl.InverseForm(b)
	if !okay {
		t.Fatalf("%q is not valid", b)
	}
	for _, step := range [][2]string{
		{strings.ToLower(a.Family), strings.ToLower(b.Family)},
		{a.Particle, b.Particle},
		{strings.ToLower(fullA), strings.ToLower(fullB)},
		{inverseA, inverseB},
	} {
		if step[0] != step[1] {
			if step[0] < step[1] {
				return -1
			}
			return 1
		}
	}
	return 0
}

func TestCompareNamesStepByStep(t *testing.T) {
	for _, c := range []struct {
		what       string
		less, more impl.Name
	}{
		{"Family first", name("Zoe", "van", "Berg", "Sr"), name("Anna", "", "Lee", "")},
		{"Family in any case", name("", "", "BERG", ""), name("", "", "Berga", "")},
		{"Family in any case, in the middle", name("Zoe", "", "Mcadam", ""), name("Anna", "", "McBee", "")},
		{"case of a Family before the Particle", name("", "a", "Berg", ""), name("", "b", "BERG", "")},
		{"case of a Family before the Given words", name("A", "", "Berg", ""), name("B", "", "BERG", "")},
		{"a Family that the other one continues", name("Z", "", "Berg", ""), name("A", "", "Berger", "")},
		{"an apostrophe before a hyphen", name("", "", "A'b", ""), name("", "", "A-b", "")},
		{"no Particle before any", name("Zoe", "", "Berg", ""), name("Anna", "de", "Berg", "")},
		{"Particle before the Given words", name("Zoe", "de", "Berg", ""), name("Anna", "van", "Berg", "")},
		{"a Particle that the other one continues", name("Zoe", "van", "Berg", ""), name("Anna", "van der", "Berg", "")},
		{"Given words", name("Anna", "", "Berg", ""), name("Bert", "", "Berg", "")},
		{"Given words in any case", name("ANNA", "", "Berg", ""), name("Annb", "", "Berg", "")},
		{"Given words before the Suffix", name("Anna", "", "Berg", "Sr"), name("Bert", "", "Berg", "Jr")},
		{"a space before letters", name("An Zoe", "", "Berg", ""), name("Ana", "", "Berg", "")},
		{"the Family in the full form", name("Anna", "", "Berg", ""), name("Anna Maria", "", "Berg", "")},
		{"the Family in the full form before a later word", name("Anna Abe", "", "Berg", ""), name("Anna", "", "Berg", "")},
		{"no Given words: the Family begins the full form", name("Anna", "", "Berg", ""), name("", "", "Berg", "")},
		{"no Suffix before any", name("Anna", "", "Berg", ""), name("Anna", "", "Berg", "Jr")},
		{"Suffix in any case", name("Anna", "", "Berg", "Jr"), name("Anna", "", "Berg", "jra")},
		{"case of the Family last", name("Anna", "", "BERG", ""), name("Anna", "", "Berg", "")},
		{"case of the Given words last", name("ANna", "", "Berg", ""), name("Anna", "", "Berg", "")},
		{"case of the Suffix last", name("Anna", "", "Berg", "Jr"), name("Anna", "", "Berg", "jr")},
		{"Family before Given words in the inverse form", name("Anna", "", "BErg", ""), name("ANNA", "", "Berg", "")},
		{"the same full form", name("", "", "Berg", "Berg"), name("Berg", "", "Berg", "")},
	} {
		if x, ok := impl.CompareNames(c.less, c.more); !ok || x != -1 {
			t.Errorf("%s: CompareNames(%q, %q) = %d, %v", c.what, c.less, c.more, x, ok)
		}
		if x, ok := impl.CompareNames(c.more, c.less); !ok || x != 1 {
			t.Errorf("%s: CompareNames(%q, %q) = %d, %v", c.what, c.more, c.less, x, ok)
		}
	}
}

func TestCompareNamesFromBothSides(t *testing.T) {
	all := namesOver([]string{"a", "A", "B", "Ab"})
	// The pairs are too many to try them all.
	for i := 0; i < len(all); i += 7 {
		for j := 0; j < len(all); j += 11 {
			a, b := all[i], all[j]
			want := orderOf(t, a, b)
			x, ok := impl.CompareNames(a, b)
			y, fine := impl.CompareNames(b, a)
			if !ok || !fine || x != want || y != -want {
				t.Fatalf("CompareNames(%q, %q) = %d, %v and %d, %v, not %d", a, b, x, ok, y, fine, want)
			}
			if (x == 0) != sameName(a, b) {
				t.Fatalf("CompareNames(%q, %q) = %d", a, b, x)
			}
		}
	}
	for _, n := range manyNames() {
		if x, ok := impl.CompareNames(n, n); !ok || x != 0 {
			t.Fatalf("CompareNames of %q and itself = %d, %v", n, x, ok)
		}
	}
}

func TestMayBeSame(t *testing.T) {
	for _, c := range []struct {
		a, b impl.Name
		same bool
	}{
		{name("Anna", "van", "Berg", "Jr"), name("Anna", "van", "Berg", "Jr"), true},
		{name("Anna", "van", "Berg", "Jr"), name("A", "van", "Berg", "Jr"), true},
		{name("", "", "Berg", ""), name("Anna Maria", "", "Berg", ""), true},
		{name("", "", "Berg", ""), name("", "", "Berg", ""), true},
		{name("A", "", "Berg", ""), name("A", "", "Berg", ""), true},
		{name("A", "", "Berg", ""), name("B", "", "Berg", ""), false},
		{name("A", "", "Berg", ""), name("Bert", "", "Berg", ""), false},
		{name("An", "", "Berg", ""), name("Anna", "", "Berg", ""), false},
		{name("Anna", "", "Berg", ""), name("ANNA", "", "Berg", ""), false},
		{name("Anna", "", "Berg", ""), name("Anne", "", "Berg", ""), false},
		{name("J", "", "Berg", ""), name("Jean-Paul", "", "Berg", ""), true},
		{name("J-P", "", "Berg", ""), name("Jean-Paul", "", "Berg", ""), false},
		{name("Anna M", "", "Berg", ""), name("A Maria", "", "Berg", ""), true},
		{name("A M", "", "Berg", ""), name("Anna Maria Zoe", "", "Berg", ""), true},
		{name("A M", "", "Berg", ""), name("Anna Zoe", "", "Berg", ""), false},
		{name("A M Z", "", "Berg", ""), name("Anna Maria Bea", "", "Berg", ""), false},
		{name("A M Z", "", "Berg", ""), name("Anna Maria Zoe", "", "Berg", ""), true},
		{name("Maria", "", "Berg", ""), name("Anna Maria", "", "Berg", ""), false},
		{name("A", "", "Berg", ""), name("A", "", "BERG", ""), false},
		{name("A", "", "B", ""), name("A", "", "Berg", ""), false},
		{name("A", "", "Berg", ""), name("A", "van", "Berg", ""), false},
		{name("A", "van", "Berg", ""), name("A", "van der", "Berg", ""), false},
		{name("A", "v", "Berg", ""), name("A", "van", "Berg", ""), false},
		{name("A", "", "Berg", ""), name("A", "", "Berg", "Jr"), false},
		{name("A", "", "Berg", "J"), name("A", "", "Berg", "Jr"), false},
		{name("A", "", "Berg", "jr"), name("A", "", "Berg", "Jr"), false},
		{name("", "", "Berg", "Jr"), name("Anna", "", "Berg", "Jr"), true},
		{name("Jr", "", "Berg", ""), name("", "", "Berg", "Jr"), false},
	} {
		for _, pair := range [][2]impl.Name{{c.a, c.b}, {c.b, c.a}} {
			if yes, ok := impl.MayBeSame(pair[0], pair[1]); !ok || yes != c.same {
				t.Errorf("MayBeSame(%q, %q) = %v, %v", pair[0], pair[1], yes, ok)
			}
			if yes, ok := impl.SamePeople(pair[:1], pair[1:]); !ok || yes != c.same {
				t.Errorf("SamePeople(%q, %q) = %v, %v", pair[0], pair[1], yes, ok)
			}
		}
	}
}

func TestJoinNamesAroundItsLimit(t *testing.T) {
	list := []impl.Name{
		name("Anna", "", "Lee", ""), name("Bert", "van der", "Berg", "Jr"), name("", "", "Smith", ""), name("Jean-paul", "", "X", ""),
	}
	whole := []string{
		"",
		"A. Lee",
		"A. Lee and B. van der Berg",
		"A. Lee, B. van der Berg and Smith",
		"A. Lee, B. van der Berg, Smith and J.-P. X",
	}
	for count := range len(list) + 1 {
		for limit := 1; limit <= impl.MaxNames; limit++ {
			want := whole[count]
			if count > limit {
				want = "A. Lee et al."
			}
			if s, ok := impl.JoinNames(list[:count], limit); !ok || s != want {
				t.Errorf("%d names, limit %d: %q, %v, not %q", count, limit, s, ok, want)
			}
		}
	}
	if s, ok := impl.JoinNames(list[2:], 1); !ok || s != "Smith et al." {
		t.Errorf("a first name without Given words: %q, %v", s, ok)
	}
}

func TestJoinNamesOfNoNames(t *testing.T) {
	for limit := 1; limit <= impl.MaxNames; limit++ {
		for _, list := range [][]impl.Name{nil, {}} {
			if s, ok := impl.JoinNames(list, limit); !ok || s != "" {
				t.Errorf("limit %d: %q, %v", limit, s, ok)
			}
		}
	}
}

func TestJoinNamesWithOtherLimits(t *testing.T) {
	lee := name("Anna", "", "Lee", "")
	for _, limit := range []int{0, -1, impl.MaxNames + 1, 100, 1<<32 + 1, math.MaxInt, math.MinInt} {
		for _, list := range [][]impl.Name{nil, {lee}, {lee, lee}, {lee, lee, lee, lee}} {
			if s, ok := impl.JoinNames(list, limit); ok || s != "" {
				t.Errorf("%d names, limit %d: %q, %v", len(list), limit, s, ok)
			}
		}
	}
}

func TestListsThatAreTooLong(t *testing.T) {
	lee := name("Anna", "", "Lee", "")
	for _, count := range []int{impl.MaxNames + 1, impl.MaxNames + 2, 1000} {
		long := slices.Repeat([]impl.Name{lee}, count)
		for limit := 1; limit <= impl.MaxNames; limit++ {
			if s, ok := impl.JoinNames(long, limit); ok || s != "" {
				t.Errorf("JoinNames of %d names = %q, %v", count, s, ok)
			}
		}
		for _, pair := range [][2][]impl.Name{{long, long}, {long, long[:1]}, {long[:1], long}, {long, nil}, {nil, long}} {
			if yes, ok := impl.SamePeople(pair[0], pair[1]); ok || yes {
				t.Errorf("SamePeople of %d and %d names = %v, %v", len(pair[0]), len(pair[1]), yes, ok)
			}
		}
	}
}

func TestSamePeople(t *testing.T) {
	anna, a := name("Anna", "", "Lee", ""), name("A", "", "Lee", "")
	bert, b := name("Bert", "", "Berg", ""), name("B", "", "Berg", "")
	for _, c := range []struct {
		a, b []impl.Name
		same bool
	}{
		{nil, nil, true},
		{nil, []impl.Name{}, true},
		{nil, []impl.Name{anna}, false},
		{[]impl.Name{anna}, []impl.Name{a}, true},
		{[]impl.Name{anna}, []impl.Name{b}, false},
		{[]impl.Name{anna, bert}, []impl.Name{a, b}, true},
		{[]impl.Name{anna, b}, []impl.Name{a, bert}, true},
		{[]impl.Name{anna, bert}, []impl.Name{b, a}, false},
		{[]impl.Name{anna, bert}, []impl.Name{anna}, false},
		{[]impl.Name{anna, anna}, []impl.Name{anna, bert}, false},
		{[]impl.Name{anna, anna, anna}, []impl.Name{a, a, bert}, false},
		{[]impl.Name{anna, bert, anna, bert}, []impl.Name{a, b, a, b}, true},
		{[]impl.Name{anna, bert, anna, bert}, []impl.Name{a, b, a, a}, false},
		{[]impl.Name{anna, bert, anna, bert}, []impl.Name{a, b, a}, false},
	} {
		if yes, ok := impl.SamePeople(c.a, c.b); !ok || yes != c.same {
			t.Errorf("SamePeople(%q, %q) = %v, %v", c.a, c.b, yes, ok)
		}
		if yes, ok := impl.SamePeople(c.b, c.a); !ok || yes != c.same {
			t.Errorf("SamePeople(%q, %q) = %v, %v", c.b, c.a, yes, ok)
		}
	}
}

func TestInvalidNamesInListsOfOtherLengths(t *testing.T) {
	good, bad := name("Anna", "", "Lee", ""), name("anna", "", "Lee", "")
	for _, pair := range [][2][]impl.Name{
		{{bad}, nil}, {{good, bad}, {good}}, {{good, good, good, bad}, {good, good, good, good}}, {{good, bad}, {bad}},
		// The names before the invalid one already settle the answer, which does not matter.
		{{good, bad}, {name("Bert", "", "Berg", ""), good}},
	} {
		if yes, ok := impl.SamePeople(pair[0], pair[1]); ok || yes {
			t.Errorf("SamePeople(%q) = %v, %v", pair, yes, ok)
		}
		if yes, ok := impl.SamePeople(pair[1], pair[0]); ok || yes {
			t.Errorf("SamePeople(%q) the other way = %v, %v", pair, yes, ok)
		}
	}
}

func TestNamesBeyondTheLengthAreNeitherReadNorWritten(t *testing.T) {
	words := []string{"Anna", "Maria", "no word", "", "x"}
	n := impl.Name{Given: words[:2], Family: "Berg"}
	names := []impl.Name{n, name("Bert", "", "Lee", ""), {}, {}, {}, {}}
	if s, ok := impl.FullForm(n); !ok || s != "Anna Maria Berg" {
		t.Errorf("FullForm = %q, %v", s, ok)
	}
	if s, ok := impl.JoinNames(names[:2], 2); !ok || s != "A. M. Berg and B. Lee" {
		t.Errorf("JoinNames = %q, %v", s, ok)
	}
	impl.IsValidName(n)
	impl.InverseForm(n)
	impl.InitialsOf(n)
	impl.ShortForm(n)
	impl.CompareNames(n, names[1])
	impl.MayBeSame(n, names[1])
	impl.SamePeople(names[:2], names[:2])
	if !slices.Equal(words, []string{"Anna", "Maria", "no word", "", "x"}) {
		t.Errorf("the Given words were changed: %q", words)
	}
	want := []impl.Name{n, name("Bert", "", "Lee", ""), {}, {}, {}, {}}
	if !reflect.DeepEqual(names, want) {
		t.Errorf("the names were changed: %q", names)
	}
}

func TestParsedNamesShareNoMemory(t *testing.T) {
	first, _ := impl.ParseInverse("Berg, Anna Maria")
	second, _ := impl.ParseInverse("Berg, Anna Maria")
	first.Given[0] = "Changed"
	_ = append(first.Given[:1], "Changed")
	if third, ok := impl.ParseInverse("Berg, Anna Maria"); !ok || !sameName(second, third) || second.Given[0] != "Anna" {
		t.Errorf("two results share memory: %q, %q", second, third)
	}
}
