package tests

import (
	"fmt"
	"math/rand"
	"regexp"
	"slices"
	"strconv"
	"strings"
	"testing"

	"loop.example/g00896/impl"
)

const affixInPattern = `[A-Za-z](?:[A-Za-z ]{0,18}[A-Za-z])?`

var (
	affixPattern = regexp.MustCompile(`\A(?:` + affixInPattern + `)?\z`)
	itemPattern  = regexp.MustCompile(`\A(?:(` + affixInPattern + `) )?@([a-z][a-z0-9]{0,9})(?:, ([^()]*))?(?: \((` + affixInPattern + `)\))?\z`)
	// plainNumbersPattern finds the longest sequences of numbers that are marked as plain ones.
	plainNumbersPattern = regexp.MustCompile(`#[0-9]+(?:, #[0-9]+)*`)
	digitsPattern       = regexp.MustCompile(`[0-9]+`)
)

// cited returns an item whose Locator has a text, if that is not empty.
func cited(key, prefix, locator, suffix string) impl.ClusterItem {
	item := impl.ClusterItem{Key: key, Prefix: prefix, Suffix: suffix}
	if locator != "" {
		item.Locator, _ = pagesIn(locator)
	}
	return item
}

func sameItem(a, b impl.ClusterItem) bool {
	return a.Key == b.Key && a.Prefix == b.Prefix && slices.Equal(a.Locator, b.Locator) && a.Suffix == b.Suffix
}

func sameItems(a, b []impl.ClusterItem) bool { return slices.EqualFunc(a, b, sameItem) }

// isItem reports whether an item is valid, whatever the program does.
func isItem(item impl.ClusterItem) bool {
	if len(item.Locator) > 0 {
		// The text of an invalid range is read as another one, or as none.
		if list, ok := pagesIn(pagesTextOf(item.Locator)); !ok || !slices.Equal(list, item.Locator) {
			return false
		}
	}
	return keyPattern.MatchString(item.Key) && affixPattern.MatchString(item.Prefix) && affixPattern.MatchString(item.Suffix)
}

// isCluster is what IsValidCluster has to return.
func isCluster(list []impl.ClusterItem) bool {
	return len(list) > 0 && len(list) <= 6 && !slices.ContainsFunc(list, func(item impl.ClusterItem) bool { return !isItem(item) })
}

// clusterTextOf writes a valid cluster, whatever the program does.
func clusterTextOf(list []impl.ClusterItem) string {
	text := ""
	for _, item := range list {
		text += "; " + strings.TrimPrefix(item.Prefix+" ", " ") + "@" + item.Key
		if len(item.Locator) > 0 {
			text += ", " + pagesTextOf(item.Locator)
		}
		text += strings.ReplaceAll(" ("+item.Suffix+")", " ()", "")
	}
	return "[" + text[2:] + "]"
}

// itemIn reads the text of an item by the pattern, whatever the program does.
func itemIn(s string) (impl.ClusterItem, bool) {
	found := itemPattern.FindStringSubmatchIndex(s)
	if found == nil {
		return impl.ClusterItem{}, false
	}
	part := func(i int) string {
		if found[2*i] < 0 {
			return ""
		}
		return s[found[2*i]:found[2*i+1]]
	}
	item := impl.ClusterItem{Prefix: part(1), Key: part(2), Suffix: part(4)}
	if found[6] >= 0 {
		list, ok := pagesIn(part(3))
		if !ok {
			return impl.ClusterItem{}, false
		}
		item.Locator = list
	}
	return item, true
}

// clusterIn is what ParseCluster has to return.
func clusterIn(s string) ([]impl.ClusterItem, bool) {
	if len(s) < 2 || s[0] != '[' || s[len(s)-1] != ']' || strings.Count(s, "; ") > 5 {
		return nil, false
	}
	list := []impl.ClusterItem{}
	for _, text := range strings.Split(s[1:len(s)-1], "; ") {
		item, ok := itemIn(text)
		if !ok {
			return nil, false
		}
		list = append(list, item)
	}
	return list, true
}

// clusterOf reads a cluster by the pattern; it is for texts that are known to be clusters.
func clusterOf(t *testing.T, s string) []impl.ClusterItem {
	t.Helper()
	list, ok := clusterIn(s)
	if !ok {
		t.Fatalf("%q is no cluster", s)
	}
	return list
}

// isKeyOrder reports whether a list is an order, whatever the program does.
func isKeyOrder(order []string) bool {
	different := map[string]bool{}
	for _, key := range order {
		different[key] = true
	}
	return areKeysOf(order, 20) && len(different) == len(order)
}

// sortedItemsOf is what SortItems has to return: the items of the first key, of the second one, and
// so on, which have to be all items.
func sortedItemsOf(list []impl.ClusterItem, order []string) ([]impl.ClusterItem, bool) {
	sorted := []impl.ClusterItem{}
	if !isCluster(list) || !isKeyOrder(order) {
		return nil, false
	}
	for _, key := range order {
		for _, item := range list {
			if item.Key == key {
				sorted = append(sorted, item)
			}
		}
	}
	if len(sorted) < len(list) {
		return nil, false
	}
	return sorted, true
}

func isBareItem(item impl.ClusterItem) bool { return item.Prefix+item.Suffix == "" }

// mergedItemsOf is what MergeItems has to return: every first item is joined with the later ones,
// one by one, and these are left out.
func mergedItemsOf(list []impl.ClusterItem) ([]impl.ClusterItem, bool) {
	if !isCluster(list) {
		return nil, false
	}
	merged := []impl.ClusterItem{}
	for i, item := range list {
		same := func(other impl.ClusterItem) bool {
			return isBareItem(item) && isBareItem(other) && other.Key == item.Key
		}
		if slices.ContainsFunc(list[:i], same) {
			continue
		}
		for _, later := range list[i+1:] {
			if !same(later) {
				continue
			}
			both := slices.Concat(item.Locator, later.Locator)
			switch {
			case len(item.Locator) == 0 || len(later.Locator) == 0:
				item.Locator = nil
			case len(both) > 8:
				return nil, false
			default:
				item.Locator = mergedOf(both)
			}
		}
		merged = append(merged, item)
	}
	return merged, true
}

// aloneText writes an item with a mark for its entry, whatever the program does.
func aloneText(item impl.ClusterItem, mark string) string {
	text := item.Prefix + " " + mark
	if len(item.Locator) > 0 {
		words := map[bool]string{true: "pp.", false: "p."}
		text += ", " + words[len(pageSet(item.Locator)) > 1] + " " + pagesTextOf(item.Locator)
	}
	return strings.Trim(text+" "+item.Suffix, " ")
}

// numericTextOf is what NumericText has to return: plain numbers are marked, and then replaced by
// the texts of their sequences.
func numericTextOf(list []impl.ClusterItem, order []string) (string, bool) {
	sorted, ok := sortedItemsOf(list, order)
	if !ok {
		return "", false
	}
	texts := []string{}
	for _, item := range sorted {
		number := strconv.Itoa(slices.Index(order, item.Key) + 1)
		if isBareItem(item) && len(item.Locator) == 0 {
			texts = append(texts, "#"+number)
		} else {
			texts = append(texts, aloneText(item, number))
		}
	}
	text := plainNumbersPattern.ReplaceAllStringFunc(strings.Join(texts, ", "), func(sequence string) string {
		numbers := digitsPattern.FindAllString(sequence, -1)
		return numbersTextOf(func(n int) bool { return slices.Contains(numbers, strconv.Itoa(n)) })
	})
	return "[" + text + "]", true
}

// labelTextOf is what LabelText has to return for a valid library.
func labelTextOf(list []impl.ClusterItem, l impl.Library) (string, bool) {
	if !isCluster(list) {
		return "", false
	}
	labels := map[string]string{}
	for i, label := range labelsIn(l) {
		labels[l.Entries[i].Key] = label
	}
	texts := []string{}
	for _, item := range list {
		label, has := labels[item.Key]
		if !has {
			return "", false
		}
		texts = append(texts, aloneText(item, label))
	}
	return "[" + strings.Join(texts, "; ") + "]", true
}

// clusterKeysOf is what ClusterKeys has to return.
func clusterKeysOf(clusters [][]impl.ClusterItem) ([]string, bool) {
	citations := [][]string{}
	for _, list := range clusters {
		if !isCluster(list) {
			return nil, false
		}
		citations = append(citations, keysOfItems(list))
	}
	return firstCitedOf(citations)
}

func keysOfItems(list []impl.ClusterItem) []string {
	keys := []string{}
	for _, item := range list {
		keys = append(keys, item.Key)
	}
	return keys
}

// checkItems checks a list of items that a function has returned.
func checkItems(t *testing.T, what string, got []impl.ClusterItem, ok bool, want []impl.ClusterItem, fine bool) {
	t.Helper()
	if ok != fine || !sameItems(got, want) {
		t.Fatalf("%.300s: %.500v, %v, not %.500v, %v", what, got, ok, want, fine)
	}
}

// checkWritten checks IsValidCluster and FormatCluster, and that what is written is read back.
func checkWritten(t *testing.T, list []impl.ClusterItem) {
	t.Helper()
	if !isCluster(list) {
		checkNoCluster(t, list)
		return
	}
	want := clusterTextOf(list)
	text, ok := impl.FormatCluster(list)
	if !ok || text != want || !impl.IsValidCluster(list) {
		t.Fatalf("FormatCluster(%v) = %q, %v, not %q", list, text, ok, want)
	}
	parsed, ok := impl.ParseCluster(text)
	checkItems(t, "ParseCluster of "+text, parsed, ok, list, true)
}

// checkClusterText checks ParseCluster, and that the text is that of the cluster.
func checkClusterText(t *testing.T, s string) {
	t.Helper()
	want, fine := clusterIn(s)
	list, ok := impl.ParseCluster(s)
	checkItems(t, "ParseCluster of "+s, list, ok, want, fine)
	if !ok {
		return
	}
	if text, ok := impl.FormatCluster(list); !ok || text != s {
		t.Fatalf("FormatCluster(%v) = %q, %v, not %q", list, text, ok, s)
	}
}

// checkMergedItems checks MergeItems, and promise 15 for it.
func checkMergedItems(t *testing.T, list []impl.ClusterItem) {
	t.Helper()
	want, fine := mergedItemsOf(list)
	merged, ok := impl.MergeItems(list)
	checkItems(t, "MergeItems of "+clusterTextOf(list), merged, ok, want, fine)
	if !ok {
		return
	}
	keys, _ := impl.ClusterKeys([][]impl.ClusterItem{list})
	kept, ok := impl.ClusterKeys([][]impl.ClusterItem{merged})
	checkSameKeys(t, "the keys of the merged "+clusterTextOf(list), kept, ok, keys, true)
	again, ok := impl.MergeItems(merged)
	checkItems(t, "MergeItems of what is merged", again, ok, merged, true)
}

// checkDropped checks DropItems.
func checkDropped(t *testing.T, list []impl.ClusterItem, key string) {
	t.Helper()
	want := slices.DeleteFunc(slices.Clone(list), func(item impl.ClusterItem) bool { return item.Key == key })
	dropped, ok := impl.DropItems(list, key)
	checkItems(t, "DropItems of "+key+" from "+clusterTextOf(list), dropped, ok, want, len(want) > 0)
}

// checkClusterKeys checks ClusterKeys.
func checkClusterKeys(t *testing.T, clusters [][]impl.ClusterItem) {
	t.Helper()
	want, fine := clusterKeysOf(clusters)
	keys, ok := impl.ClusterKeys(clusters)
	checkSameKeys(t, "ClusterKeys of "+fmt.Sprint(clusters), keys, ok, want, fine)
}

// checkCluster checks all functions of a valid cluster alone.
func checkCluster(t *testing.T, list []impl.ClusterItem) {
	t.Helper()
	checkWritten(t, list)
	checkClusterText(t, clusterTextOf(list))
	checkMergedItems(t, list)
	checkClusterKeys(t, [][]impl.ClusterItem{list})
	for _, key := range append(keysOfItems(list), "other", "", "No key", list[0].Key+"x", list[0].Key[1:]) {
		checkDropped(t, list, key)
	}
}

// checkSortedItems checks the functions of a cluster and an order.
func checkSortedItems(t *testing.T, list []impl.ClusterItem, order []string) {
	t.Helper()
	what := fmt.Sprintf("%.300v in the order %.200q", list, order)
	want, fine := sortedItemsOf(list, order)
	sorted, ok := impl.SortItems(list, order)
	checkItems(t, "SortItems of "+what, sorted, ok, want, fine)
	text, ok := impl.NumericText(list, order)
	wanted, fine := numericTextOf(list, order)
	checkSameText(t, "NumericText of "+what, "", text, ok, wanted, fine)
}

// checkLabelled checks LabelText for a valid library.
func checkLabelled(t *testing.T, list []impl.ClusterItem, l impl.Library) {
	t.Helper()
	want, fine := labelTextOf(list, l)
	text, ok := impl.LabelText(list, l)
	checkSameText(t, fmt.Sprintf("LabelText of %.300v for %.300s", list, textOfLibrary(l)), "", text, ok, want, fine)
}

// checkNoCluster checks that a list is no cluster for any function.
func checkNoCluster(t *testing.T, list []impl.ClusterItem) {
	t.Helper()
	what := fmt.Sprintf("%.300q", fmt.Sprint(list[:min(20, len(list))]))
	if impl.IsValidCluster(list) {
		t.Errorf("IsValidCluster(%s)", what)
	}
	keys := []string{"a", "b", "c"}
	l := libraryOf(keys...)
	text, ok := impl.FormatCluster(list)
	checkSameText(t, "FormatCluster", what, text, ok, "", false)
	text, ok = impl.NumericText(list, keys)
	checkSameText(t, "NumericText", what, text, ok, "", false)
	text, ok = impl.LabelText(list, l)
	checkSameText(t, "LabelText", what, text, ok, "", false)
	items, ok := impl.SortItems(list, keys)
	checkItems(t, "SortItems of "+what, items, ok, nil, false)
	items, ok = impl.MergeItems(list)
	checkItems(t, "MergeItems of "+what, items, ok, nil, false)
	for _, key := range []string{"a", "b", "other", ""} {
		items, ok = impl.DropItems(list, key)
		checkItems(t, "DropItems of "+what, items, ok, nil, false)
	}
	one := []impl.ClusterItem{{Key: "a"}}
	for _, clusters := range [][][]impl.ClusterItem{{list}, {one, list}, {list, one}, {one, list, one}} {
		found, ok := impl.ClusterKeys(clusters)
		checkSameKeys(t, "ClusterKeys of "+what, found, ok, nil, false)
	}
}

// plainItems returns items that have nothing but a Key.
func plainItems(keys ...string) []impl.ClusterItem {
	list := []impl.ClusterItem{}
	for _, key := range keys {
		list = append(list, impl.ClusterItem{Key: key})
	}
	return list
}

func TestLimitsOfClusters(t *testing.T) {
	if impl.MaxItems != 6 {
		t.Error("limit", impl.MaxItems)
	}
	item := impl.ClusterItem{Key: "a", Prefix: "see", Locator: []impl.PageRange{onePage("", 5)}, Suffix: "passim"}
	if !sameItem(item, cited("a", "see", "5", "passim")) {
		t.Error("item", item)
	}
}

func TestTextsOfClusters(t *testing.T) {
	twenty := "abcde fghij KLMNOPQR"
	for text, list := range map[string][]impl.ClusterItem{
		"[see @berg99, 12-15; @doe (passim)]":   {cited("berg99", "see", "12-15", ""), cited("doe", "", "", "passim")},
		"[@a]":                                  {cited("a", "", "", "")},
		"[see @a]":                              {cited("a", "see", "", "")},
		"[@a, 5]":                               {cited("a", "", "5", "")},
		"[@a (n)]":                              {cited("a", "", "", "n")},
		"[x @a, A5-A7]":                         {cited("a", "x", "A5-A7", "")},
		"[x @a (n)]":                            {cited("a", "x", "", "n")},
		"[@a, 5, 3 (n)]":                        {cited("a", "", "5, 3", "n")},
		"[see also @a9, 1-2, A3, A3 (in part)]": {cited("a9", "see also", "1-2, A3, A3", "in part")},
		"[@a; @a]":                              {cited("a", "", "", ""), cited("a", "", "", "")},
		"[@abcdefghij; @a123456789; Z @z]":      {cited("abcdefghij", "", "", ""), cited("a123456789", "", "", ""), cited("z", "Z", "", "")},
		"[a  b   c @d (e    f)]":                {cited("d", "a  b   c", "", "e    f")},
		"[" + twenty + " @b (" + twenty + ")]":  {cited("b", twenty, "", twenty)},
		"[" + twenty + " @b, 99999 (" + twenty + "); @c]":                            {cited("b", twenty, "99999", twenty), cited("c", "", "", "")},
		"[@b, 1, 2, 3, 4, 5, 6, 7, 8]":                                               {cited("b", "", "1, 2, 3, 4, 5, 6, 7, 8", "")},
		"[@b, 99999, Z1-Z99999, 9-10 (x)]":                                           {cited("b", "", "99999, Z1-Z99999, 9-10", "x")},
		"[@f; @e; @d; @c; @b; @a]":                                                   plainItems("f", "e", "d", "c", "b", "a"),
		"[page @p, 5 (p); pp @pp, 5-6 (pages); p @p]":                                {cited("p", "page", "5", "p"), cited("pp", "pp", "5-6", "pages"), cited("p", "p", "", "")},
		"[x" + strings.Repeat(" ", 18) + "y @b (x" + strings.Repeat(" ", 18) + "y)]": {cited("b", "x"+strings.Repeat(" ", 18)+"y", "", "x"+strings.Repeat(" ", 18)+"y")},
	} {
		if written, ok := impl.FormatCluster(list); !ok || written != text {
			t.Errorf("FormatCluster(%v) = %q, %v, not %q", list, written, ok, text)
		}
		parsed, ok := impl.ParseCluster(text)
		checkItems(t, "ParseCluster of "+text, parsed, ok, list, true)
		checkCluster(t, list)
	}
}

// itemsWithParts returns items with and without Prefix, Locator and Suffix in every combination.
func itemsWithParts() []impl.ClusterItem {
	all := []impl.ClusterItem{}
	for set := range 8 {
		parts := [3]string{}
		for i, part := range []string{"see", "3, 1-2", "passim"} {
			if set>>i&1 == 1 {
				parts[i] = part
			}
		}
		all = append(all, cited("ab"[set%2:set%2+1], parts[0], parts[1], parts[2]))
	}
	return all
}

func TestEveryCombinationOfParts(t *testing.T) {
	items := itemsWithParts()
	l := labelled(bookOf("Lee", 1999, ""), bookOf("Lee", 1999, ""), bookOf("Ash", 1999, ""))
	l.Entries[1].Key = "b"
	l.Entries[2].Key = "c"
	for _, s := range stringsOver("01234567", 3)[1:] {
		list := []impl.ClusterItem{}
		for i := range len(s) {
			list = append(list, items[s[i]-'0'])
		}
		checkCluster(t, list)
		checkSortedItems(t, list, []string{"a", "b"})
		checkSortedItems(t, list, []string{"c", "b", "a"})
		checkLabelled(t, list, l)
		for len(list) < 6 {
			list = append(list, items[(len(list)*3+len(s))%8])
		}
		checkCluster(t, list)
		checkSortedItems(t, list, []string{"b", "c", "a"})
		checkLabelled(t, list, l)
	}
}

// checkAffix checks a Prefix and a Suffix.
func checkAffix(t *testing.T, s string) {
	t.Helper()
	for _, item := range []impl.ClusterItem{cited("a", s, "", ""), cited("a", "", "", s), cited("a", s, "5", s)} {
		if impl.IsValidCluster([]impl.ClusterItem{item}) != affixPattern.MatchString(s) {
			t.Fatalf("%.60q in %.100v", s, item)
		}
		checkWritten(t, []impl.ClusterItem{item})
	}
}

func TestPrefixesAndSuffixes(t *testing.T) {
	for _, s := range stringsOver("aZ 1", 5) {
		checkAffix(t, s)
	}
	for c := range 256 {
		one := string([]byte{byte(c)})
		for _, s := range []string{one, "a" + one, one + "a", "a" + one + "b", "see" + one + "also", strings.Repeat("x", 19) + one, one + strings.Repeat("x", 19), strings.Repeat("x", 20) + one} {
			checkAffix(t, s)
		}
	}
	for length := range 40 {
		checkAffix(t, strings.Repeat("x", length))
		checkAffix(t, strings.Repeat(" ", length))
		checkAffix(t, "x"+strings.Repeat(" ", length)+"y")
		checkAffix(t, "x"+strings.Repeat(" ", length))
		checkAffix(t, strings.Repeat(" ", length)+"x")
	}
	for _, s := range []string{"\u00e9", "a\u00e9", "a\u00a0b", "see-also", "don't", "cf.", "a_b", "see @", "(x)", "a;b", "[", "]", "a, b", strings.Repeat("x", 100000), strings.Repeat("x ", 10) + "y", strings.Repeat("x ", 9) + "yz"} {
		checkAffix(t, s)
	}
}

func TestKeysOfItems(t *testing.T) {
	for _, s := range append(append(invalidKeys(), stringsOver("az09A- @", 3)...), "abcdefghij", "a123456789", "abcdefghijk") {
		for _, item := range []impl.ClusterItem{cited(s, "", "", ""), cited(s, "see", "5", "passim")} {
			for _, list := range [][]impl.ClusterItem{{item}, {cited("a", "", "", ""), item}, {item, cited("a", "", "", "")}} {
				if impl.IsValidCluster(list) != keyPattern.MatchString(s) {
					t.Errorf("the Key %q: %v", s, list)
				}
				checkWritten(t, list)
			}
		}
	}
	for c := range 256 {
		one := string([]byte{byte(c)})
		for _, s := range []string{one, "a" + one, one + "a", "ab" + one + "c"} {
			checkWritten(t, plainItems(s))
			checkWritten(t, []impl.ClusterItem{cited(s, "x", "5", "y")})
		}
	}
}

func TestLocatorsOfItems(t *testing.T) {
	fine := onePage("", 7)
	for _, r := range invalidRanges() {
		for _, locator := range [][]impl.PageRange{{r}, {fine, r}, {r, fine}, {fine, fine, fine, fine, fine, fine, fine, r}} {
			for _, prefix := range []string{"", "see"} {
				item := impl.ClusterItem{Key: "a", Prefix: prefix, Locator: locator}
				checkNoCluster(t, []impl.ClusterItem{item})
				checkNoCluster(t, []impl.ClusterItem{cited("a", "", "7", ""), item, cited("b", "", "", "")})
			}
		}
	}
	for length := range 30 {
		locator := slices.Repeat([]impl.PageRange{onePage("", 7), pages("A", 2, 3)}, length)[:length]
		list := []impl.ClusterItem{cited("b", "", "", ""), {Key: "a", Locator: locator}}
		if impl.IsValidCluster(list) != (length <= 8) {
			t.Errorf("%d ranges", length)
		}
		checkWritten(t, list)
	}
	checkNoCluster(t, []impl.ClusterItem{{Key: "a", Locator: make([]impl.PageRange, 100000)}})
	for i, r := range manyRanges() {
		checkWritten(t, []impl.ClusterItem{{Key: "a", Locator: []impl.PageRange{r}}, {Key: "b", Locator: []impl.PageRange{fine, r}, Suffix: "x"}})
		if i%10 == 0 && r.To-r.From < 1000 {
			checkCluster(t, []impl.ClusterItem{{Key: "a", Locator: []impl.PageRange{r}}, {Key: "a", Locator: []impl.PageRange{fine, r}}})
		}
	}
}

func TestEmptyLocators(t *testing.T) {
	list := []impl.ClusterItem{{Key: "a", Locator: []impl.PageRange{}}, {Key: "b", Prefix: "see", Locator: []impl.PageRange{}, Suffix: "x"}, {Key: "a", Locator: []impl.PageRange{pages("?", 3, 2)}[:0]}}
	checkCluster(t, list)
	checkSortedItems(t, list, []string{"a", "b"})
	if text, ok := impl.FormatCluster(list); !ok || text != "[@a; see @b (x); @a]" {
		t.Error(text, ok)
	}
	if text, ok := impl.NumericText(list, []string{"b", "a"}); !ok || text != "[see 1 x, 2]" {
		t.Error(text, ok)
	}
	checkLabelled(t, list, libraryOf("a", "b"))
}

func TestNumbersOfItems(t *testing.T) {
	for length := range 20 {
		list := plainItems(manyKeys(length)...)
		if impl.IsValidCluster(list) != (length >= 1 && length <= 6) {
			t.Errorf("%d items", length)
		}
		checkWritten(t, list)
		if length > 0 {
			checkClusterText(t, clusterTextOf(list))
		}
		equal := slices.Repeat(plainItems("a"), length)
		checkWritten(t, equal)
		if length > 6 {
			checkNoCluster(t, list)
			checkNoCluster(t, equal)
		}
	}
	checkNoCluster(t, nil)
	checkNoCluster(t, []impl.ClusterItem{})
	checkNoCluster(t, plainItems("a", "b")[:0])
	checkNoCluster(t, make([]impl.ClusterItem, 1))
	checkNoCluster(t, make([]impl.ClusterItem, 100000))
	checkNoCluster(t, slices.Repeat(plainItems("a"), 100000))
	for i := range 6 {
		list := plainItems("a", "b", "c", "a", "b", "c")
		list[i] = impl.ClusterItem{}
		checkNoCluster(t, list)
		list[i] = cited("a", "", "", "x ")
		checkNoCluster(t, list)
	}
}

func TestTextsWithoutClusters(t *testing.T) {
	for _, s := range []string{
		"", "[", "]", "[]", "][", "[[", "]]", "[ ]", "[;]", "[; ]", "[@]", "@", "@a", "[@a", "@a]", " [@a]", "[@a] ", "[@a]]", "[[@a]", "[[@a]]", "[@a]\n", "[@a]x", "x[@a]", "(@a)", "{@a}", "[@a)", "[@a]; [@b]", "[@a];", "[@a][@b]", "[@a\x00]", "\xff",
		"[@doe; ]", "[; @doe]", "[@a; ; @b]", "[@a;; @b]", "[@a;  @b]", "[@a ; @b]", "[@a;@b]", "[@a, @b]", "[@a,@b]", "[@a @b]", "[@a\t; @b]", "[@a;\n@b]", "[@a| @b]", "[@a: @b]", "[@a and @b]", "[@a; @b;]", "[@a; @b; ]",
		"[ @a]", "[@a ]", "[@ a]", "[  @a]", "[see  @a]", "[see@a]", "[ see @a]", "[see @a ]", "[see @ a]", "[see, @a]", "[see. @a]", "[s1 @a]", "[see a]", "[see]", "[a]", "[@@a]", "[see @@a]", "[@a@]", "[@a@b]", "[see @see @a]", "[@A]", "[@1a]", "[@a-b]", "[@abcdefghijk]", "[@\u00e9]",
		"[@a ()]", "[@a ( )]", "[@a (x]", "[@a x)]", "[@a x]", "[@a (x) ]", "[@a  (x)]", "[@a(x)]", "[@a ( x)]", "[@a (x )]", "[@a (x))]", "[@a ((x))]", "[@a ((x)]", "[@a (x) (y)]", "[@a (x)(y)]", "[@a (x1)]", "[@a (x, y)]", "[@a (x;y)]", "[@a (x; y)]", "[@a (x)y]", "[(x) @a]", "[@a (see @b)]", "[@a [x]]", "[@a (x), 5]", "[@a (x, 5)]", "[@a (5)]", "[@a )]", "[@a (]", "[@a)]", "[@a(]",
		"[@a,]", "[@a, ]", "[@a, , 5]", "[@a,5]", "[@a 5]", "[@a,  5]", "[@a , 5]", "[@a, 5 ]", "[@a, 5,]", "[@a, 5, ]", "[@a, 05]", "[@a, 0]", "[@a, -5]", "[@a, +5]", "[@a, 5-]", "[@a, 5-5]", "[@a, 5-3]", "[@a, 5-A7]", "[@a, A5-7]", "[@a, A5-B7]", "[@a, a5]", "[@a, AA5]", "[@a, A]", "[@a, p. 5]", "[@a, pp. 5-7]", "[@a, 12-5]", "[@a, 321-8]", "[@a, 5 - 7]", "[@a, 5\u20137]", "[@a, 5,7]", "[@a, 5;7]", "[@a, 5; 7]", "[@a, 100000]", "[@a, 5-100000]", "[@a, 99999999999999999999]", "[@a, x]", "[@a, 5(x)]", "[@a, 5  (x)]", "[@a, 5, (x)]", "[@a,  (x)]", "[@a, (x)]", "[@a, 5 ()]", "[@a, 5 x]", "[@a, 5 (x", "[5 @a]", "[@, 5]", "[@ (x)]", "[see @, 5 (x)]", "[, 5 @a]",
		"[@a, 1, 2, 3, 4, 5, 6, 7, 8, 9]", "[@a, 1, 2, 3, 4, 5, 6, 7, 8; @b, 1, 2, 3, 4, 5, 6, 7, 8, 9]", "[@a; @b; @c; @d; @e; @f; @g]", "[@a; @a; @a; @a; @a; @a; ]", "[" + strings.Repeat("@a; ", 7) + "@a]",
		"[abcdefghij klmnopqrst @a]", "[@a (abcdefghij klmnopqrst)]", "[abcdefghijklmnopqrstu @a]", "[@a (abcdefghijklmnopqrstu)]",
		strings.Repeat("[", 100000), strings.Repeat("]", 100000), "[" + strings.Repeat("@a; ", 100000) + "@a]", "[" + strings.Repeat("x", 100000) + " @a]", "[@" + strings.Repeat("a", 100000) + "]", "[@a, " + strings.Repeat("1, ", 100000) + "1]", "[@a, " + strings.Repeat("1", 100000) + "]", "[@a (" + strings.Repeat("x", 100000) + ")]", "[" + strings.Repeat("@", 100000) + "]", "[@a" + strings.Repeat(" (x)", 100000) + "]", "[" + strings.Repeat("; ", 100000) + "]", "[@a" + strings.Repeat(" ", 100000) + "]",
	} {
		list, ok := impl.ParseCluster(s)
		checkItems(t, "ParseCluster of "+s, list, ok, nil, false)
		checkClusterText(t, s)
	}
}

func TestAllShortTextsOfClusters(t *testing.T) {
	for _, s := range sequences([]string{"@a", "; ", "x ", ", 5", " (", ")", ", A1-A2"}, 5) {
		checkClusterText(t, "["+s+"]")
	}
	for _, s := range sequences([]string{"[", "]", "@a", ";", " ", ","}, 6) {
		checkClusterText(t, s)
	}
	for _, s := range stringsOver("@a1 (),;", 5) {
		checkClusterText(t, "["+s+"]")
	}
	for _, s := range stringsOver("@a5 ()", 5) {
		checkClusterText(t, "[@b"+s+"]")
		checkClusterText(t, "[@b, 5"+s+"]")
	}
}

func TestTextsNextToClusters(t *testing.T) {
	for _, s := range []string{
		"[@a]", "[see @berg99, 12-15; @doe (passim)]", "[x y @a, A1, 3-9 (n m); @b, 5]", "[@abcdefghij, 99999 (abcdefghij klmnopqr)]", "[@f; @e; @d; @c; @b; @a]", "[abcdefghij klmnopqrs @a, 1, 2, 3, 4, 5, 6, 7, 8]",
	} {
		for _, near := range nearTexts(s) {
			checkClusterText(t, near)
		}
	}
}

func TestSortItems(t *testing.T) {
	for _, c := range []struct{ list, order, want string }{
		{"[@a]", "a", "[@a]"},
		{"[@a; @b]", "a b", "[@a; @b]"},
		{"[@a; @b]", "b a", "[@b; @a]"},
		{"[see @berg99, 12-15; @doe (passim)]", "doe berg99", "[@doe (passim); see @berg99, 12-15]"},
		{"[@a (x); @b; @a (y); see @a; @b, 3]", "b a", "[@b; @b, 3; @a (x); @a (y); see @a]"},
		{"[@a (x); @b; @a (y); see @a; @b, 3]", "z a y b x", "[@a (x); @a (y); see @a; @b; @b, 3]"},
		{"[@a, 9; @a, 3; @a, 5; @a; @a (x); z @a]", "a", "[@a, 9; @a, 3; @a, 5; @a; @a (x); z @a]"},
		{"[@f; @e; @d; @c; @b; @a]", "a b c d e f", "[@a; @b; @c; @d; @e; @f]"},
		{"[@a10; @a9; @a1]", "a9 a10 a1", "[@a9; @a10; @a1]"},
		{"[@a; @b]", "a", ""},
		{"[@a; @b]", "b", ""},
		{"[@a; @b]", "a c", ""},
		{"[@a; @b]", "ab b", ""},
		{"[@a; @b]", "", ""},
		{"[@a]", "", ""},
	} {
		list := clusterOf(t, c.list)
		order := strings.Fields(c.order)
		want, fine := clusterIn(c.want)
		sorted, ok := impl.SortItems(list, order)
		checkItems(t, "SortItems of "+c.list+" in the order "+c.order, sorted, ok, want, fine)
		checkSortedItems(t, list, order)
	}
}

func TestSortItemsInLongOrders(t *testing.T) {
	keys := manyKeys(25)
	for length := range 26 {
		order := keys[:length]
		for _, list := range [][]impl.ClusterItem{
			plainItems("k19", "k3", "k19", "k0"), plainItems("k20", "k3"), plainItems("k0"), plainItems("k3", "k2", "k1", "k0"), {cited("k9", "see", "5", ""), cited("k2", "", "", "x"), cited("k9", "", "", "")}, plainItems("k24"),
		} {
			checkSortedItems(t, list, order)
		}
		_, ok := impl.SortItems(plainItems("k0"), order)
		_, fine := impl.NumericText(plainItems("k0"), order)
		if ok != (length >= 1 && length <= 20) || fine != ok {
			t.Errorf("an order of %d keys: %v, %v", length, ok, fine)
		}
	}
	backward := slices.Clone(keys[:20])
	slices.Reverse(backward)
	if text, ok := impl.NumericText(plainItems("k0", "k1", "k2", "k19"), backward); !ok || text != "[1, 18-20]" {
		t.Error("NumericText in a long order", text, ok)
	}
	checkSortedItems(t, plainItems("k0"), manyKeys(100000))
	checkSortedItems(t, plainItems("a"), slices.Repeat([]string{"a"}, 100000))
}

func TestOtherOrders(t *testing.T) {
	list := plainItems("b", "a")
	bad := [][]string{{"a", "a"}, {"a", "b", "a"}, {"b", "a", "b"}, {"a", "b", "c", "c"}, {"c", "c", "a", "b"}, {"a", "b", "c", "d", "e", "c"}, {"b", "b", "a", "a"}}
	for _, s := range append(invalidKeys(), "") {
		bad = append(bad, []string{s}, []string{"a", "b", s}, []string{s, "a", "b"}, []string{"a", s, "b"})
	}
	for _, i := range []int{0, 7, 18} {
		order := append([]string{"a", "b"}, manyKeys(18)...)
		order[19] = order[i]
		bad = append(bad, order)
	}
	for _, order := range bad {
		sorted, ok := impl.SortItems(list, order)
		checkItems(t, fmt.Sprintf("SortItems in the order %.100q", order), sorted, ok, nil, false)
		text, ok := impl.NumericText(list, order)
		checkSameText(t, "NumericText", fmt.Sprintf("%.100q", order), text, ok, "", false)
		checkSortedItems(t, plainItems("c"), order)
	}
	for c := range 256 {
		one := string([]byte{byte(c)})
		for _, s := range []string{one, "a" + one, one + "a", "ab" + one + "c"} {
			checkSortedItems(t, list, []string{"a", s, "b"})
			checkSortedItems(t, list, []string{"b", "a", s})
		}
	}
}

func TestMergeItems(t *testing.T) {
	for list, want := range map[string]string{
		"[@a]":                   "[@a]",
		"[@a; @b]":               "[@a; @b]",
		"[@b; @a]":               "[@b; @a]",
		"[@a; @a]":               "[@a]",
		"[@a, 3; @b; @a, 5]":     "[@a, 3, 5; @b]",
		"[@a, 1-3; @b; @a, 2-5]": "[@a, 1-5; @b]",
		// Equal, touching and overlapping ranges, in either order.
		"[@a, 5; @a, 5]":                        "[@a, 5]",
		"[@a, 5; @a, 6]":                        "[@a, 5-6]",
		"[@a, 6; @a, 5]":                        "[@a, 5-6]",
		"[@a, 5; @a, 7]":                        "[@a, 5, 7]",
		"[@a, 7; @a, 5]":                        "[@a, 5, 7]",
		"[@a, 1-9; @a, 3-4]":                    "[@a, 1-9]",
		"[@a, 3-4; @a, 1-9]":                    "[@a, 1-9]",
		"[@a, 1-4; @a, 5-9; @a, 10]":            "[@a, 1-10]",
		"[@a, 10; @a, 1-4; @a, 5-9]":            "[@a, 1-10]",
		"[@a, 5; @a, A5]":                       "[@a, 5, A5]",
		"[@a, B1, A5; @a, 5, A6]":               "[@a, 5, A5-A6, B1]",
		"[@a, 1-2; @b, 1; @a, 4; @b, 2; @a, 3]": "[@a, 1-4; @b, 1-2]",
		// Only items that are joined are merged; the others keep their ranges as they are.
		"[@a, 5, 3]":               "[@a, 5, 3]",
		"[@a, 5, 5; @b, 5, 4]":     "[@a, 5, 5; @b, 5, 4]",
		"[see @a, 5, 3; @a, 2, 1]": "[see @a, 5, 3; @a, 2, 1]",
		// An item without a Locator cites the whole entry, and so does every item that it is joined with.
		"[@a; @a, 5]":                         "[@a]",
		"[@a, 5; @a]":                         "[@a]",
		"[@a, 5; @a; @a, 5]":                  "[@a]",
		"[@a; @a, 5; @a, 6]":                  "[@a]",
		"[@a, 5; @a, 6; @a]":                  "[@a]",
		"[@b; @a, 5; @c; @a; @b, 5]":          "[@b; @a; @c]",
		"[@a; @a, 1, 3, 5, 7, 9, 11, 13, 15]": "[@a]",
		"[@a, 1, 3, 5, 7, 9, 11, 13, 15; @a]": "[@a]",
		"[@a, 1, 3, 5, 7, 9, 11, 13, 15; @a; @a, 1, 3, 5, 7, 9, 11, 13, 15]": "[@a]",
		// An item with a Prefix or a Suffix stays alone, and stands in the way of no other.
		"[see @a; see @a]":                       "[see @a; see @a]",
		"[@a (x); @a (x)]":                       "[@a (x); @a (x)]",
		"[see @a, 5; @a, 5]":                     "[see @a, 5; @a, 5]",
		"[@a, 5; see @a, 5]":                     "[@a, 5; see @a, 5]",
		"[@a, 5; @a, 5 (x)]":                     "[@a, 5; @a, 5 (x)]",
		"[@a (x); @a]":                           "[@a (x); @a]",
		"[@a, 5; see @a, 7; @a, 6]":              "[@a, 5-6; see @a, 7]",
		"[see @a, 7; @a, 5; @a (x); @a, 6]":      "[see @a, 7; @a, 5-6; @a (x)]",
		"[see @a (x); @a; x @a; @a (x); @a; @a]": "[see @a (x); @a; x @a; @a (x)]",
		// The Keys keep the order of their first items.
		"[@c; @a; @b; @a; @c; @b]":                    "[@c; @a; @b]",
		"[@c, 1; @a, 1; @b, 1; @a, 2; @c, 2; @b, 2]":  "[@c, 1-2; @a, 1-2; @b, 1-2]",
		"[see @c; @a; @c; @a; @b; @c]":                "[see @c; @a; @c; @b]",
		"[@a; @ab; @a1; @ab]":                         "[@a; @ab; @a1]",
		"[@a, 1; @a, 3; @a, 5; @a, 7; @a, 9; @a, 11]": "[@a, 1, 3, 5, 7, 9, 11]",
		"[@a, 1; @a, 2; @a, 3; @a, 4; @a, 5; @a, 6]":  "[@a, 1-6]",
		// Exactly MaxRanges ranges, and one more.
		"[@a, 1, 3, 5, 7; @a, 9, 11, 13, 15]":             "[@a, 1, 3, 5, 7, 9, 11, 13, 15]",
		"[@a, 1, 3, 5, 7; @a, 9, 11, 13, 15, 17]":         "",
		"[@a, 1, 3, 5, 7, 9, 11, 13; @a, 15]":             "[@a, 1, 3, 5, 7, 9, 11, 13, 15]",
		"[@a, 1, 3, 5, 7, 9, 11, 13, 15; @a, 1]":          "",
		"[@a, 1; @a, 1, 3, 5, 7, 9, 11, 13]":              "[@a, 1, 3, 5, 7, 9, 11, 13]",
		"[@a, 1; @a, 1, 3, 5, 7, 9, 11, 13, 15]":          "",
		"[@a, 5, 5, 5, 5; @a, 5, 5, 5, 5]":                "[@a, 5]",
		"[@a, 5, 5, 5, 5, 5; @a, 5, 5, 5, 5]":             "",
		"[@b; @a, 1, 3, 5, 7; @b; @a, 9, 11, 13, 15, 17]": "",
		"[@a, 1, 3, 5, 7; see @a, 9, 11, 13, 15, 17]":     "[@a, 1, 3, 5, 7; see @a, 9, 11, 13, 15, 17]",
		"[@a, 1, 3, 5, 7; @b, 9, 11, 13, 15, 17]":         "[@a, 1, 3, 5, 7; @b, 9, 11, 13, 15, 17]",
		// The ranges are counted each time that two items are joined.
		"[@a, 1, 2, 3, 4; @a, 5, 6, 7, 8; @a, 9, 10, 11, 12]":                 "[@a, 1-12]",
		"[@a, 1, 2, 3, 4; @a, 5, 6, 7, 8; @a, 9, 11, 13, 15, 17, 19, 21]":     "[@a, 1-9, 11, 13, 15, 17, 19, 21]",
		"[@a, 1, 2, 3, 4; @a, 5, 6, 7, 8; @a, 9, 11, 13, 15, 17, 19, 21, 23]": "",
		"[@a, 1, 3, 5; @a, 7, 9, 11; @a, 13, 15]":                             "[@a, 1, 3, 5, 7, 9, 11, 13, 15]",
		"[@a, 1, 3, 5; @a, 7, 9, 11; @a, 13, 15, 17]":                         "",
		"[@a, 1, 3, 5; @a, 7, 9, 11; @a, 2, 4]":                               "[@a, 1-5, 7, 9, 11]",
		"[@a, 1, 3, 5, 7, 9; @a, 1, 3, 5, 7, 9; @a]":                          "",
		"[@a, 1, 3, 5, 7, 9; @a; @a, 1, 3, 5, 7, 9]":                          "[@a]",
	} {
		wanted, fine := clusterIn(want)
		merged, ok := impl.MergeItems(clusterOf(t, list))
		if fine != (want != "") {
			t.Fatalf("%q is no cluster", want)
		}
		checkItems(t, "MergeItems of "+list, merged, ok, wanted, fine)
		checkMergedItems(t, clusterOf(t, list))
	}
}

func TestMergeItemsWithManyRanges(t *testing.T) {
	for first := range 9 {
		for second := range 9 {
			for _, step := range []int{1, 2} {
				locator := func(from, number int) []impl.PageRange {
					list := []impl.PageRange{}
					for i := range number {
						list = append(list, onePage("", 1+(from+i)*step))
					}
					return list
				}
				list := []impl.ClusterItem{{Key: "a", Locator: locator(0, first)}, cited("b", "", "", ""), {Key: "a", Locator: locator(first, second)}}
				checkCluster(t, list)
				if _, ok := impl.MergeItems(list); ok != (first == 0 || second == 0 || first+second <= 8) {
					t.Errorf("%d and %d ranges: %v", first, second, ok)
				}
				for third := range 4 {
					checkMergedItems(t, append(slices.Clone(list), impl.ClusterItem{Key: "a", Locator: locator(first+second, third)}))
				}
			}
		}
	}
}

func TestNumericText(t *testing.T) {
	for _, c := range []struct{ list, order, want string }{
		{"[@a]", "a", "[1]"},
		{"[@b]", "a b", "[2]"},
		{"[@c; @a; @b; @b, 3]", "a b c", "[1, 2, 2, p. 3, 3]"},
		{"[@c; @a; @b]", "a b c", "[1-3]"},
		{"[@b; @a]", "a b", "[1, 2]"},
		{"[@c; @a]", "a b c", "[1, 3]"},
		// Sequences at the beginning, in the middle and at the end.
		{"[@c; @b; @a; @d (x); @e; @f]", "a b c d e f", "[1-3, 4 x, 5, 6]"},
		{"[@a, 5; @b; @c; @d; see @e; @f]", "a b c d e f", "[1, p. 5, 2-4, see 5, 6]"},
		{"[see @a; @b, 5-6; @f; @e; @d; @c]", "a b c d e f", "[see 1, 2, pp. 5-6, 3-6]"},
		{"[see @a; @b; @c; @d; @e; @f (x)]", "a b c d e f", "[see 1, 2-5, 6 x]"},
		{"[see @a; @b; @c (x)]", "a b c", "[see 1, 2, 3 x]"},
		{"[@a; @b, 5; @c]", "a b c", "[1, 2, p. 5, 3]"},
		{"[@a; @b; @c, 5; @d; @e; @f]", "a b c d e f", "[1, 2, 3, p. 5, 4-6]"},
		{"[@a; @b; @c; see @d]", "a b c d", "[1-3, see 4]"},
		// An item that is not plain parts a sequence even if its number is in it.
		{"[@a; @b; @b, 5; @c]", "a b c", "[1, 2, 2, p. 5, 3]"},
		{"[@a; @b, 5; @b; @c]", "a b c", "[1, 2, p. 5, 2, 3]"},
		{"[@a; @b; @b, 5; @b; @c; @d]", "a b c d", "[1, 2, 2, p. 5, 2-4]"},
		{"[@b (x); @a; @b; @c]", "a b c", "[1, 2 x, 2, 3]"},
		// Equal numbers.
		{"[@a; @a]", "a", "[1]"},
		{"[@b; @b; @b; @b; @b; @b]", "a b", "[2]"},
		{"[@b; @a; @b; @a]", "a b", "[1, 2]"},
		{"[@c; @b; @a; @c; @b; @a]", "a b c", "[1-3]"},
		{"[@a; see @a; @a]", "a", "[1, see 1, 1]"},
		{"[@a; @a, 5; @a, 5; @a]", "a", "[1, 1, p. 5, 1, p. 5, 1]"},
		// The other parts, in every combination.
		{"[see @a]", "a", "[see 1]"},
		{"[@a (passim)]", "a", "[1 passim]"},
		{"[@a, 5]", "a", "[1, p. 5]"},
		{"[@a, 5-6]", "a", "[1, pp. 5-6]"},
		{"[@a, 5, 5]", "a", "[1, p. 5, 5]"},
		{"[@a, A5, 5]", "a", "[1, pp. A5, 5]"},
		{"[see @a, 5]", "a", "[see 1, p. 5]"},
		{"[see @a (passim)]", "a", "[see 1 passim]"},
		{"[@a, 5-6 (passim)]", "a", "[1, pp. 5-6 passim]"},
		{"[see  also @a, 5, 3 (in  part)]", "a", "[see  also 1, pp. 5, 3 in  part]"},
		{"[see @berg99, 12-15; @doe (passim)]", "doe berg99", "[1 passim, see 2, pp. 12-15]"},
		{"[see @berg99, 12-15; @doe (passim)]", "x berg99 doe", "[see 2, pp. 12-15, 3 passim]"},
		// Numbers are compared by their values, and only neighbors are written as one.
		{"[@j; @i; @k]", "a b c d e f g h i j k", "[9-11]"},
		{"[@j; @b; @a]", "a b c d e f g h i j k", "[1, 2, 10]"},
		{"[@a; @c; @e; @g; @i; @k]", "a b c d e f g h i j k", "[1, 3, 5, 7, 9, 11]"},
		{"[@a; @b; @c; @e; @f; @g]", "a b c d e f g h", "[1-3, 5-7]"},
		{"[@a; @b; @d; @e]", "a b c d e f g h", "[1, 2, 4, 5]"},
		{"[@a; @b]", "a", ""},
		{"[@a]", "", ""},
		{"[@a]", "A", ""},
		{"[@a]", "a a", ""},
	} {
		list := clusterOf(t, c.list)
		order := strings.Fields(c.order)
		text, ok := impl.NumericText(list, order)
		checkSameText(t, "NumericText in the order "+c.order, c.list, text, ok, c.want, c.want != "")
		checkSortedItems(t, list, order)
	}
}

// citedLibrary is a library with two entries that have the same base label.
func citedLibrary() impl.Library {
	l := labelled(bookOf("Lee, Ann", 1999, ""), bookOf("Berg", 2001, ""), bookOf("Lee, Bo", 1999, ""), bookOf("", 0, ""), bookOf("Ash; Hall", 2001, ""))
	for i, key := range []string{"a", "b", "c", "d", "e"} {
		l.Entries[i].Key = key
	}
	return l
}

func TestLabelText(t *testing.T) {
	l := citedLibrary()
	for list, want := range map[string]string{
		"[@b]":                     "[Ber01]",
		"[@a]":                     "[Lee99a]",
		"[@c]":                     "[Lee99b]",
		"[@d]":                     "[Anon??]",
		"[@e; @b]":                 "[AH01; Ber01]",
		"[@b; @e]":                 "[Ber01; AH01]",
		"[@c; @b; @a]":             "[Lee99b; Ber01; Lee99a]",
		"[@a; @a; @a]":             "[Lee99a; Lee99a; Lee99a]",
		"[@a; @b; @c; @d; @e; @a]": "[Lee99a; Ber01; Lee99b; Anon??; AH01; Lee99a]",
		"[see @b]":                 "[see Ber01]",
		"[@b (passim)]":            "[Ber01 passim]",
		"[@b, 5]":                  "[Ber01, p. 5]",
		"[@b, 5-6]":                "[Ber01, pp. 5-6]",
		"[@b, 5, 5]":               "[Ber01, p. 5, 5]",
		"[see @b, 5]":              "[see Ber01, p. 5]",
		"[@b, A5, 3 (x)]":          "[Ber01, pp. A5, 3 x]",
		"[see @b (x)]":             "[see Ber01 x]",
		"[see  also @a, 5 (in  part); @d; @c, 1-3]": "[see  also Lee99a, p. 5 in  part; Anon??; Lee99b, pp. 1-3]",
		"[@f]":          "",
		"[@a; @f]":      "",
		"[@f; @a]":      "",
		"[@a; @aa; @b]": "",
		"[@lee99a]":     "",
	} {
		text, ok := impl.LabelText(clusterOf(t, list), l)
		checkSameText(t, "LabelText", list, text, ok, want, want != "")
		checkLabelled(t, clusterOf(t, list), l)
		checkLabelled(t, clusterOf(t, list), without(l, "c"))
		checkLabelled(t, clusterOf(t, list), impl.Library{})
	}
	if text, ok := impl.LabelText(plainItems("a"), without(l, "c")); !ok || text != "[Lee99]" {
		t.Error("a label without a letter:", text, ok)
	}
}

func TestLabelTextOfInvalidLibraries(t *testing.T) {
	bad := invalidLibraries()
	for _, e := range invalidEntries() {
		bad = append(bad, impl.Library{Entries: []impl.Entry{e}})
	}
	for _, l := range bad {
		keys := []string{"a", "lee"}
		for _, e := range l.Entries[:min(3, len(l.Entries))] {
			keys = append(keys, e.Key)
		}
		for _, key := range keys {
			text, ok := impl.LabelText(plainItems(key), l)
			checkSameText(t, "LabelText", fmt.Sprintf("%.100q of %.300q", key, fmt.Sprint(l)), text, ok, "", false)
		}
	}
}

func TestClusterKeys(t *testing.T) {
	for _, c := range []struct{ clusters, want string }{
		{"", ""},
		{"[@a]", "a"},
		{"[@b; @a]", "b a"},
		{"[@b; @a; @b]", "b a"},
		{"[@c; @a]|[@b; @a]", "c a b"},
		{"[@c; @a; @b; @b, 3]|[see @berg99, 12-15; @doe (passim)]", "c a b berg99 doe"},
		{"[@z]|[@z]|[@z]", "z"},
		{"[@z]|[@y; @z]|[@x; @y; @z]", "z y x"},
		{"[see @a (x)]|[@a, 5]|[@b]|[@a]", "a b"},
		{"[@a; @a1; @a12]|[@a1; @b]", "a a1 a12 b"},
	} {
		clusters := [][]impl.ClusterItem{}
		for _, text := range strings.Split(c.clusters, "|") {
			if text != "" {
				clusters = append(clusters, clusterOf(t, text))
			}
		}
		keys, ok := impl.ClusterKeys(clusters)
		checkSameKeys(t, "ClusterKeys of "+c.clusters, keys, ok, strings.Fields(c.want), true)
		checkClusterKeys(t, clusters)
	}
	keys, ok := impl.ClusterKeys(nil)
	checkSameKeys(t, "ClusterKeys of nothing", keys, ok, nil, true)
}

func TestNumbersOfClusters(t *testing.T) {
	all := [][]impl.ClusterItem{}
	for chunk := range slices.Chunk(manyKeys(150), 6) {
		all = append(all, plainItems(chunk...))
	}
	for number := range 26 {
		checkClusterKeys(t, all[:number])
		checkClusterKeys(t, slices.Repeat([][]impl.ClusterItem{plainItems("a")}, number))
		if _, ok := impl.ClusterKeys(all[:number]); ok != (number <= 20) {
			t.Errorf("%d clusters: %v", number, ok)
		}
	}
	keys, ok := impl.ClusterKeys(all[:20])
	checkSameKeys(t, "20 clusters", keys, ok, manyKeys(120), true)
	bad := [][]impl.ClusterItem{nil, {}, {{}}, plainItems("a", "A"), plainItems(manyKeys(7)...), {cited("a", " ", "", "")}, {cited("a", "", "", "1")}, {{Key: "a", Locator: make([]impl.PageRange, 1)}}}
	for _, list := range bad {
		for i := range 20 {
			clusters := slices.Clone(all[:20])
			clusters[i] = list
			keys, ok := impl.ClusterKeys(clusters)
			checkSameKeys(t, fmt.Sprintf("%v as the cluster %d", list, i), keys, ok, nil, false)
		}
	}
	for _, clusters := range [][][]impl.ClusterItem{make([][]impl.ClusterItem, 100000), slices.Repeat(all[:1], 100000)} {
		keys, ok := impl.ClusterKeys(clusters)
		checkSameKeys(t, "100000 clusters", keys, ok, nil, false)
	}
}

func TestDropItems(t *testing.T) {
	for _, c := range []struct{ list, key, want string }{
		{"[@a; @b]", "a", "[@b]"},
		{"[@a; @b]", "b", "[@a]"},
		{"[@a; @b]", "c", "[@a; @b]"},
		{"[@c; @a; @b; @b, 3]", "b", "[@c; @a]"},
		{"[see @a; @b; @a (x); @c, 5, 3; @a, 5]", "a", "[@b; @c, 5, 3]"},
		{"[see @a; @b; @a (x); @c, 5, 3; @a, 5]", "b", "[see @a; @a (x); @c, 5, 3; @a, 5]"},
		{"[see @a; @b; @a (x); @c, 5, 3; @a, 5]", "d", "[see @a; @b; @a (x); @c, 5, 3; @a, 5]"},
		{"[@a; @ab; @a1]", "a", "[@ab; @a1]"},
		{"[@a; @ab; @a1]", "ab", "[@a; @a1]"},
		{"[@a; @a; @a; @a; @a; @b]", "a", "[@b]"},
		{"[@a]", "b", "[@a]"},
		// A string that is no key is no Key of an item either.
		{"[@a]", "", "[@a]"},
		{"[@a]", "A", "[@a]"},
		{"[@a]", "@a", "[@a]"},
		{"[@a]", "a ", "[@a]"},
		{"[@a]", strings.Repeat("a", 100000), "[@a]"},
		{"[@a]", "a", ""},
		{"[@a; see @a; @a (x); @a, 5; @a; @a]", "a", ""},
	} {
		want, fine := clusterIn(c.want)
		dropped, ok := impl.DropItems(clusterOf(t, c.list), c.key)
		checkItems(t, "DropItems of "+c.key+" from "+c.list, dropped, ok, want, fine)
		checkDropped(t, clusterOf(t, c.list), c.key)
	}
}

// randomItem returns an item of one of a few keys, which often has nothing else.
func randomItem(r *rand.Rand, keys []string) impl.ClusterItem {
	item := impl.ClusterItem{Key: keys[r.Intn(len(keys))]}
	affixes := []string{"see", "cf", "see also", "a  b", "x", "abcdefghij KLMNOPQRS", "no"}
	if r.Intn(5) == 0 {
		item.Prefix = affixes[r.Intn(len(affixes))]
	}
	if r.Intn(5) == 0 {
		item.Suffix = affixes[r.Intn(len(affixes))]
	}
	if r.Intn(2) == 0 {
		ranges := smallRanges(9)
		for range 1 + r.Intn(1+r.Intn(8)) {
			item.Locator = append(item.Locator, ranges[r.Intn(len(ranges))])
		}
	}
	return item
}

// randomCluster returns a cluster of items of a few keys.
func randomCluster(r *rand.Rand, keys []string) []impl.ClusterItem {
	list := []impl.ClusterItem{}
	for range 1 + r.Intn(6) {
		list = append(list, randomItem(r, keys))
	}
	return list
}

// randomOrder returns an order that often has some keys.
func randomOrder(r *rand.Rand, keys []string) []string {
	order := slices.Concat(keys, manyKeys(r.Intn(21-len(keys))))
	r.Shuffle(len(order), func(i, j int) { order[i], order[j] = order[j], order[i] })
	return order[min(len(order), r.Intn(12)/11):]
}

func TestManyClusters(t *testing.T) {
	r := rand.New(rand.NewSource(150))
	for range 20000 {
		keys := someKeys[:1+r.Intn(len(someKeys))]
		list := randomCluster(r, keys)
		checkCluster(t, list)
		checkSortedItems(t, list, randomOrder(r, keys))
	}
	for range 3000 {
		clusters := [][]impl.ClusterItem{}
		for range r.Intn(21 + r.Intn(2)) {
			clusters = append(clusters, randomCluster(r, someKeys[r.Intn(4):4+r.Intn(6)]))
		}
		checkClusterKeys(t, clusters)
	}
	for range 3000 {
		l := randomLabels(r)
		keys := keysOf(l)
		if len(keys) == 0 || r.Intn(10) == 0 {
			keys = someKeys
		}
		checkLabelled(t, randomCluster(r, keys), l)
	}
}

func TestManyPlainClusters(t *testing.T) {
	keys := []string{"a", "b", "c", "d"}
	for _, s := range stringsOver("0123", 6)[1:] {
		list := []impl.ClusterItem{}
		for i := range len(s) {
			list = append(list, impl.ClusterItem{Key: keys[s[i]-'0']})
		}
		checkSortedItems(t, list, keys)
		checkMergedItems(t, list)
		if len(s) < 6 {
			continue
		}
		for i := range list {
			list[i].Locator = []impl.PageRange{onePage("", 5)}
			checkSortedItems(t, list, keys)
			list[i].Locator = nil
		}
	}
}

func TestAllShortClusters(t *testing.T) {
	items := []impl.ClusterItem{
		cited("a", "", "", ""), cited("b", "", "", ""), cited("c", "", "", ""), cited("a", "", "1-2", ""), cited("b", "", "3", ""), cited("a", "", "2, 4", ""), cited("b", "x", "", ""), cited("a", "", "", "y"), cited("c", "x", "5", "y"),
	}
	l := citedLibrary()
	orders := permutations([]string{"a", "b", "c"})
	for _, s := range stringsOver("012345678", 4)[1:] {
		list := []impl.ClusterItem{}
		for i := range len(s) {
			list = append(list, items[s[i]-'0'])
		}
		checkCluster(t, list)
		checkSortedItems(t, list, orders[(len(s)+int(s[0]-'0'))%len(orders)])
		if len(s) < 4 {
			checkLabelled(t, list, l)
			for _, order := range orders {
				checkSortedItems(t, list, order)
			}
		}
	}
}

// damagedCluster returns a list of items that may be no cluster.
func damagedCluster(r *rand.Rand) []impl.ClusterItem {
	list := randomCluster(r, []string{"a", "b", "c"})
	texts := []string{"", " ", "a", "A", "a1", "a b", " a", "a ", "1", "-", "abcdefghij", "abcdefghijk", "abcdefghij klmnopqrs", "abcdefghij klmnopqrst", "a;b", "\x00", "\u00e9"}
	item := &list[r.Intn(len(list))]
	text := texts[r.Intn(len(texts))]
	switch r.Intn(5) {
	case 0:
		item.Key = text
	case 1:
		item.Prefix = text
	case 2:
		item.Suffix = text
	case 3:
		item.Locator = append(item.Locator, pages([]string{"", "A", "a", "AB"}[r.Intn(4)], r.Intn(3), r.Intn(4)))
	case 4:
		list = slices.Repeat(list, r.Intn(4))
	}
	return list
}

func TestManyDamagedClusters(t *testing.T) {
	r := rand.New(rand.NewSource(151))
	for range 20000 {
		list := damagedCluster(r)
		checkWritten(t, list)
		checkSortedItems(t, list, []string{"c", "b", "a"})
		checkLabelled(t, list, citedLibrary())
		checkClusterKeys(t, [][]impl.ClusterItem{plainItems("a"), list})
		want, fine := mergedItemsOf(list)
		merged, ok := impl.MergeItems(list)
		checkItems(t, fmt.Sprintf("MergeItems of %v", list), merged, ok, want, fine)
	}
}

func TestManyDamagedTextsOfClusters(t *testing.T) {
	r := rand.New(rand.NewSource(152))
	for range 30000 {
		text := []byte(clusterTextOf(randomCluster(r, someKeys)))
		for range 1 + r.Intn(3) {
			i, c := r.Intn(len(text)), "[]@;, ()ax15A-"[r.Intn(14)]
			switch r.Intn(4) {
			case 0:
				text[i] = c
			case 1:
				text = slices.Insert(text, i, c)
			case 2:
				text = append(slices.Delete(text, i, i+1), ']')
			case 3:
				j := r.Intn(len(text))
				text[i], text[j] = text[j], text[i]
			}
		}
		checkClusterText(t, string(text))
	}
}

// memoryOfItems counts, for all memory that lists of items reach, how often it is reached.
func memoryOfItems(lists ...[]impl.ClusterItem) map[any]int {
	memory := map[any]int{}
	for _, list := range lists {
		list = list[:cap(list)]
		for i := range list {
			memory[&list[i]]++
			locator := list[i].Locator[:cap(list[i].Locator)]
			for j := range locator {
				memory[&locator[j]]++
			}
		}
	}
	return memory
}

// sharingItems returns a cluster all of whose Locators share their memory, with room behind the
// ends that holds invalid values.
func sharingItems() []impl.ClusterItem {
	locator := append(make([]impl.PageRange, 0, 8), pages("", 5, 6), onePage("", 3), pages("?", 2, 1), pages("?", 0, 0))[:2]
	room := make([]impl.ClusterItem, 0, 9)
	for i, key := range []string{"b", "a", "b", "c", "a", "No key", "", "-"} {
		room = append(room, impl.ClusterItem{Key: key, Locator: locator[:2-i/3]})
	}
	room[3].Prefix = "see"
	return room[:5]
}

// wholeItems writes out all memory that a list of items reaches.
func wholeItems(list []impl.ClusterItem) string {
	text := ""
	for _, item := range list[:cap(list)] {
		text += fmt.Sprintf("%#v %#v\n", item, item.Locator[:cap(item.Locator)])
	}
	return text
}

func TestClustersKeepTheirArguments(t *testing.T) {
	list, others := sharingItems(), sharingItems()
	l := libraryOf("a", "b", "c")
	order := append(make([]string, 0, 5), "c", "a", "b", "a", "No key")[:3]
	before, library := wholeItems(list), whole(l)
	for range 2 {
		checkCluster(t, list)
		checkSortedItems(t, list, order)
		checkLabelled(t, list, l)
		checkClusterKeys(t, [][]impl.ClusterItem{list, others, list[:1], nil}[:3])
	}
	if got := wholeItems(list); got != before || wholeItems(others) != before {
		t.Errorf("%s has become %s", before, got)
	}
	if whole(l) != library || !slices.Equal(order[:5], []string{"c", "a", "b", "a", "No key"}) {
		t.Error("an argument has changed", l, order[:5])
	}
}

func TestItemsShareNoMemory(t *testing.T) {
	for _, given := range [][]impl.ClusterItem{sharingItems(), sharingItems()[:1], sharingItems()[1:2], sharingItems()[3:4], clusterOf(t, "[@a, 1-2; @b, 3; @c (x)]"), clusterOf(t, "[@a; @b]")} {
		before := wholeItems(given)
		for what, result := range map[string]func() ([]impl.ClusterItem, bool){
			"SortItems":             func() ([]impl.ClusterItem, bool) { return impl.SortItems(given, []string{"b", "a", "c"}) },
			"SortItems as they are": func() ([]impl.ClusterItem, bool) { return impl.SortItems(given, []string{"a", "b", "c"}) },
			"MergeItems":            func() ([]impl.ClusterItem, bool) { return impl.MergeItems(given) },
			"DropItems":             func() ([]impl.ClusterItem, bool) { return impl.DropItems(given, "z") },
			"DropItems of nothing":  func() ([]impl.ClusterItem, bool) { return impl.DropItems(given, "") },
			"ParseCluster":          func() ([]impl.ClusterItem, bool) { return impl.ParseCluster("[@a, 5; @b, 5; @c, 1, 3]") },
		} {
			first, ok := result()
			want := clusterTextOf(first)
			taken := memoryOfItems(given)
			for place, count := range memoryOfItems(first) {
				if count > 1 || taken[place] > 0 {
					t.Errorf("%s: %v is shared", what, place)
				}
			}
			// Nothing that is done to one result is seen in the arguments or in the next result.
			for i := range first[:cap(first)] {
				item := &first[:cap(first)][i]
				for j := range item.Locator[:cap(item.Locator)] {
					item.Locator[:cap(item.Locator)][j] = pages("spoilt", -7, -8)
				}
				*item = impl.ClusterItem{Key: "spoilt"}
			}
			again, fine := result()
			if !ok || !fine || clusterTextOf(again) != want || wholeItems(given) != before {
				t.Errorf("%s: %v, %v, not %s", what, again, fine, want)
			}
		}
	}
}

func TestListsOfClusterKeysAreNew(t *testing.T) {
	clusters := [][]impl.ClusterItem{plainItems("b", "a"), plainItems("a", "c")}
	for range 3 {
		keys, ok := impl.ClusterKeys(clusters)
		checkSameKeys(t, "ClusterKeys", keys, ok, []string{"b", "a", "c"}, true)
		for i := range keys[:cap(keys)] {
			keys[:cap(keys)][i] = "spoilt"
		}
	}
}
