package tests

import (
	"bytes"
	"math"
	"slices"
	"strconv"
	"strings"
	"testing"

	"loop.example/g00896/impl"
)

// stringsOver returns all strings of at most length bytes over an alphabet.
func stringsOver(alphabet string, length int) []string {
	all := []string{""}
	last := all
	for range length {
		var longer []string
		for _, s := range last {
			for i := range len(alphabet) {
				longer = append(longer, s+alphabet[i:i+1])
			}
		}
		all = append(all, longer...)
		last = longer
	}
	return all
}

// checksumOf follows the definition with numbers that never wrap, whatever the program does.
func checksumOf(s string) int {
	sum := uint64(7)
	for _, c := range []byte(s) {
		sum = (41*sum + uint64(c) + 1) % 999979
	}
	return int(sum)
}

func TestLimitsOfStrings(t *testing.T) {
	if impl.MaxString != 4000 || impl.MaxDecimal != 999999 {
		t.Error("limits", impl.MaxString, impl.MaxDecimal)
	}
}

func TestEveryDecimalIsParsedBack(t *testing.T) {
	for n := -impl.MaxDecimal; n <= impl.MaxDecimal; n++ {
		s, ok := impl.FormatInt(n)
		if !ok || s != strconv.Itoa(n) {
			t.Fatalf("FormatInt(%d) = %q, %v", n, s, ok)
		}
		if m, ok := impl.ParseInt(s); !ok || m != n {
			t.Fatalf("ParseInt(%q) = %d, %v", s, m, ok)
		}
	}
}

func TestFormatIntOutsideItsRange(t *testing.T) {
	for _, n := range []int{
		impl.MaxDecimal + 1, -impl.MaxDecimal - 1, 10 * impl.MaxDecimal,
		1 << 32, 1<<32 + 5, -1 << 32, math.MaxInt, math.MinInt,
	} {
		if s, ok := impl.FormatInt(n); ok || s != "" {
			t.Errorf("FormatInt(%d) = %q, %v", n, s, ok)
		}
	}
}

func TestParseIntRefusesOtherStrings(t *testing.T) {
	for _, s := range []string{
		"", "-", "+", "--1", "-+1", "+-1", "+1", "+0", "-0", "-00",
		"00", "01", "-01", "0000001", "0999999",
		"1000000", "-1000000", "9999999", "4294967297", "-4294967297",
		"9223372036854775807", "9223372036854775808", "-9223372036854775808",
		"18446744073709551617", strings.Repeat("9", 5000), strings.Repeat("0", 5000),
		" 1", "1 ", "1\n", "\x001", "1\x00", "1-", "1x", "x1", "x",
		"1_0", "0x1", "0b1", "1e3", "1.0", "1,0", "\u0661", "\xff",
	} {
		if n, ok := impl.ParseInt(s); ok || n != 0 {
			t.Errorf("ParseInt(%q) = %d, %v", s, n, ok)
		}
	}
}

func TestParseIntAcceptsOnlyWhatFormatIntWrites(t *testing.T) {
	for _, s := range stringsOver("+-019 _", 4) {
		n, ok := impl.ParseInt(s)
		if !ok {
			if m, err := strconv.Atoi(s); n != 0 || err == nil && strconv.Itoa(m) == s {
				t.Errorf("ParseInt(%q) = %d, %v", s, n, ok)
			}
			continue
		}
		if written, fine := impl.FormatInt(n); !fine || written != s {
			t.Errorf("ParseInt(%q) = %d, which is written %q", s, n, written)
		}
	}
}

func TestSplitString(t *testing.T) {
	for _, c := range []struct {
		s, sep string
		want   []string
	}{
		{"a,,b", ",", []string{"a", "", "b"}},
		{"", ",", []string{""}},
		{",", ",", []string{"", ""}},
		{",a", ",", []string{"", "a"}},
		{"a,", ",", []string{"a", ""}},
		{"abc", ",", []string{"abc"}},
		{"a,b;c", ";", []string{"a,b", "c"}},
		{"a\x00b", "\x00", []string{"a", "b"}},
		{"a\xffb\xff", "\xff", []string{"a", "b", ""}},
		{"\u00e9\u00e8", "\xc3", []string{"", "\xa9", "\xa8"}},
		{"a\nb", "\n", []string{"a", "b"}},
	} {
		if l, ok := impl.SplitString(c.s, c.sep); !ok || !slices.Equal(l, c.want) {
			t.Errorf("SplitString(%q, %q) = %q, %v", c.s, c.sep, l, ok)
		}
	}
}

func TestSplitStringsAreJoinedBack(t *testing.T) {
	for _, s := range stringsOver("a,;\xff", 6) {
		for _, sep := range []string{",", ";", "\xff", "x"} {
			parts, ok := impl.SplitString(s, sep)
			if !ok || len(parts) != strings.Count(s, sep)+1 {
				t.Fatalf("SplitString(%q, %q) = %q, %v", s, sep, parts, ok)
			}
			if joined, ok := impl.JoinStrings(parts, sep); !ok || joined != s {
				t.Fatalf("JoinStrings(%q, %q) = %q, %v, not %q", parts, sep, joined, ok, s)
			}
		}
	}
}

func TestJoinedStringsAreSplitBack(t *testing.T) {
	elements := []string{"", "a", "bc", ",", "\xff", "\u00e9"}
	lists := [][]string{{}}
	for range 3 {
		for _, list := range slices.Clone(lists) {
			for _, e := range elements {
				lists = append(lists, append(slices.Clone(list), e))
			}
		}
	}
	for _, list := range lists {
		if len(list) == 0 {
			continue
		}
		s, ok := impl.JoinStrings(list, ";")
		if !ok {
			t.Fatalf("JoinStrings(%q) failed", list)
		}
		if parts, ok := impl.SplitString(s, ";"); !ok || !slices.Equal(parts, list) {
			t.Fatalf("SplitString(%q) = %q, %v, not %q", s, parts, ok, list)
		}
	}
}

func TestSeparatorInsideAnElement(t *testing.T) {
	for _, list := range [][]string{
		{";"}, {"a;b"}, {";a"}, {"a;"}, {";;"}, {"", ";"}, {";", ""},
		{"a;b", "c", "d"}, {"a", "b;c", "d"}, {"a", "b", "c;d"}, {"a", "b", "c;"},
	} {
		if s, ok := impl.JoinStrings(list, ";"); ok || s != "" {
			t.Errorf("JoinStrings(%q) = %q, %v", list, s, ok)
		}
		if s, ok := impl.JoinStrings(list, ","); !ok || s != strings.Join(list, ",") {
			t.Errorf("JoinStrings(%q) with another separator = %q, %v", list, s, ok)
		}
	}
	// The separator is a byte, so it is inside a longer rune as well.
	if s, ok := impl.JoinStrings([]string{"\u00e9"}, "\xa9"); ok || s != "" {
		t.Errorf("separator inside a rune: %q, %v", s, ok)
	}
}

func TestSeparatorsThatAreNotOneByte(t *testing.T) {
	for _, sep := range []string{"", ",,", ", ", "\u00e9", "abc", strings.Repeat(",", 5000)} {
		for _, s := range []string{"", "a", "a,b", "a,,b", "\u00e9"} {
			if l, ok := impl.SplitString(s, sep); ok || len(l) != 0 {
				t.Errorf("SplitString(%q, %q) = %q, %v", s, sep, l, ok)
			}
		}
		for _, list := range [][]string{nil, {""}, {"a"}, {"a", "b"}} {
			if s, ok := impl.JoinStrings(list, sep); ok || s != "" {
				t.Errorf("JoinStrings(%q, %q) = %q, %v", list, sep, s, ok)
			}
		}
	}
}

func TestJoinStringsOfNoParts(t *testing.T) {
	for _, list := range [][]string{nil, {}, make([]string, 0, 3)} {
		if s, ok := impl.JoinStrings(list, ","); ok || s != "" {
			t.Errorf("JoinStrings of no parts = %q, %v", s, ok)
		}
	}
	if s, ok := impl.JoinStrings([]string{""}, ","); !ok || s != "" {
		t.Errorf("JoinStrings of one empty part = %q, %v", s, ok)
	}
}

func TestSplitStringAtItsLimit(t *testing.T) {
	for _, c := range []string{"a", ","} {
		s := strings.Repeat(c, impl.MaxString)
		l, ok := impl.SplitString(s, ",")
		if !ok || len(l) != strings.Count(s, ",")+1 || strings.Join(l, ",") != s {
			t.Errorf("MaxString bytes %q: %d elements, %v", c, len(l), ok)
		}
		if l, ok := impl.SplitString(s+c, ","); ok || len(l) != 0 {
			t.Errorf("one byte more %q: %d elements, %v", c, len(l), ok)
		}
	}
}

func TestJoinStringsAtItsLimit(t *testing.T) {
	long := strings.Repeat("a", impl.MaxString)
	half := long[:impl.MaxString/2]
	for _, c := range []struct {
		list []string
		fits bool
	}{
		{[]string{long}, true},
		{[]string{long + "a"}, false},
		{[]string{long, ""}, false},
		{[]string{"", long}, false},
		{[]string{long[1:], ""}, true},
		{[]string{"", long[1:]}, true},
		{[]string{half, half[1:]}, true},
		{[]string{half, half}, false},
		{[]string{half[1:], half}, true},
		{make([]string, impl.MaxString+1), true},
		{make([]string, impl.MaxString+2), false},
		{[]string{long, long, long}, false},
	} {
		s, ok := impl.JoinStrings(c.list, ",")
		if ok != c.fits || ok && s != strings.Join(c.list, ",") || !ok && s != "" {
			t.Errorf("%d parts: %d bytes, %v", len(c.list), len(s), ok)
		}
	}
}

func TestSplitAndJoinKeepTheirArguments(t *testing.T) {
	room := []string{"a", "b", "c;d"}
	before := slices.Clone(room)
	if s, ok := impl.JoinStrings(room[:2], ";"); !ok || s != "a;b" {
		t.Errorf("JoinStrings read beyond the length: %q, %v", s, ok)
	}
	impl.JoinStrings(room, ";")
	if !slices.Equal(room, before) {
		t.Errorf("JoinStrings changed its argument: %q", room)
	}
	first, _ := impl.SplitString("a,b", ",")
	first[0] = "changed"
	if again, _ := impl.SplitString("a,b", ","); again[0] != "a" {
		t.Errorf("two results share memory: %q", again)
	}
}

func TestLessString(t *testing.T) {
	all := stringsOver("\x00aB\x7f\x80\xff", 3)
	for _, a := range all {
		for _, b := range all {
			want := bytes.Compare([]byte(a), []byte(b)) < 0
			if impl.LessString(a, b) != want {
				t.Fatalf("LessString(%q, %q) = %v", a, b, !want)
			}
		}
	}
	long := strings.Repeat("a", impl.MaxString+1)
	if !impl.LessString(long, long+"a") || impl.LessString(long, long) || impl.LessString(long+"a", long) {
		t.Error("long strings")
	}
}

func TestChecksum(t *testing.T) {
	for s, want := range map[string]int{
		"":      7,
		"a":     385,
		"ab":    41*385 + 98 + 1,
		"\x00":  41*7 + 0 + 1,
		"\xff":  41*7 + 255 + 1,
		"abcd":  705751,
		"a#385": checksumOf("a#385"),
	} {
		if n, ok := impl.Checksum(s); !ok || n != want {
			t.Errorf("Checksum(%q) = %d, %v, not %d", s, n, ok, want)
		}
	}
	for _, s := range stringsOver("\x00#\xff", 6) {
		if n, ok := impl.Checksum(s); !ok || n != checksumOf(s) {
			t.Fatalf("Checksum(%q) = %d, %v", s, n, ok)
		}
	}
}

func TestChecksumAtItsLimit(t *testing.T) {
	for _, c := range []string{"\x00", "a", "\xff"} {
		s := strings.Repeat(c, impl.MaxString)
		if n, ok := impl.Checksum(s); !ok || n != checksumOf(s) {
			t.Errorf("MaxString bytes %q: %d, %v", c, n, ok)
		}
		if n, ok := impl.Checksum(s + c); ok || n != 0 {
			t.Errorf("one byte more %q: %d, %v", c, n, ok)
		}
	}
}

func TestChecksummedStringsAreVerifiedBack(t *testing.T) {
	for _, s := range append(stringsOver("a0-\x00\xff\n", 4), "a longer text, with signs") {
		sealed, ok := impl.AppendChecksum(s)
		if !ok || sealed != s+"#"+strconv.Itoa(checksumOf(s)) {
			t.Fatalf("AppendChecksum(%q) = %q, %v", s, sealed, ok)
		}
		if back, ok := impl.VerifyChecksum(sealed); !ok || back != s {
			t.Fatalf("VerifyChecksum(%q) = %q, %v", sealed, back, ok)
		}
	}
}

func TestStringsThatContainTheMark(t *testing.T) {
	for _, s := range []string{"#", "a#", "#a", "a#b", "##", "a#385"} {
		if sealed, ok := impl.AppendChecksum(s); ok || sealed != "" {
			t.Errorf("AppendChecksum(%q) = %q, %v", s, sealed, ok)
		}
		sealed := s + "#" + strconv.Itoa(checksumOf(s))
		if back, ok := impl.VerifyChecksum(sealed); ok || back != "" {
			t.Errorf("VerifyChecksum(%q) = %q, %v", sealed, back, ok)
		}
	}
}

func TestVerifyChecksumRefusesOtherStrings(t *testing.T) {
	for _, s := range []string{
		"", "#", "#0", "7", "a", "a#", "#a", "#8", "#07", "#7#", "#+7", "#-7", "# 7", "#7 ",
		"a#384", "a#386", "b#385", "a385", "a#0385", "a#+385", "a#-385", "a#385 ", "a# 385",
		"a#385#385", "a##385", "a#385#1", "a#1000364", "a#385\n", "\na#385", "A#385",
	} {
		if back, ok := impl.VerifyChecksum(s); ok || back != "" {
			t.Errorf("VerifyChecksum(%q) = %q, %v", s, back, ok)
		}
	}
	if back, ok := impl.VerifyChecksum("#7"); !ok || back != "" {
		t.Errorf("the empty string: %q, %v", back, ok)
	}
}

func TestAppendChecksumAtItsLimit(t *testing.T) {
	exact, over := 0, 0
	for length := impl.MaxString - 10; length <= impl.MaxString+1; length++ {
		for c := byte('a'); c <= 'z'; c++ {
			s := strings.Repeat(string(c), length)
			want := s + "#" + strconv.Itoa(checksumOf(s))
			fits := len(want) <= impl.MaxString
			sealed, ok := impl.AppendChecksum(s)
			if ok != fits || ok && sealed != want || !ok && sealed != "" {
				t.Errorf("AppendChecksum of %d bytes %q: %d bytes, %v", length, c, len(sealed), ok)
			}
			back, ok := impl.VerifyChecksum(want)
			if ok != fits || ok && back != s || !ok && back != "" {
				t.Errorf("VerifyChecksum of %d bytes: %d bytes, %v", len(want), len(back), ok)
			}
			switch len(want) {
			case impl.MaxString:
				exact++
			case impl.MaxString + 1:
				over++
			}
		}
	}
	if exact == 0 || over == 0 {
		t.Error("the limit was not tried", exact, over)
	}
}

func TestEverySingleChangedByteIsDetected(t *testing.T) {
	for _, s := range []string{
		"", "a", "0", "ab", "385", "\x00", "\xff\xfe", "a\nb",
		"put knuth1984 book The TeXbook", strings.Repeat("z", 100),
	} {
		sealed, ok := impl.AppendChecksum(s)
		if !ok {
			t.Fatalf("AppendChecksum(%q) failed", s)
		}
		for i := range len(sealed) {
			for c := range 256 {
				if sealed[i] == byte(c) {
					continue
				}
				changed := sealed[:i] + string([]byte{byte(c)}) + sealed[i+1:]
				if back, ok := impl.VerifyChecksum(changed); ok || back != "" {
					t.Fatalf("VerifyChecksum(%q) = %q, %v", changed, back, ok)
				}
			}
		}
	}
}

func TestAChangedByteOfALongStringIsDetected(t *testing.T) {
	s := strings.Repeat("citation", impl.MaxString/8-1)
	sealed, ok := impl.AppendChecksum(s)
	if !ok {
		t.Fatal("AppendChecksum failed")
	}
	for i := range len(sealed) {
		changed := []byte(sealed)
		changed[i] ^= byte(1 + i%255)
		if back, ok := impl.VerifyChecksum(string(changed)); ok || back != "" {
			t.Fatalf("a change at %d was not detected", i)
		}
	}
}
