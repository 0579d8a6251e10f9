package tests

import (
	"math"
	"math/rand/v2"
	"slices"
	"strconv"
	"strings"
	"testing"

	"loop.example/palim/impl"
)

// mostCount is the greatest Count of a valid entry.
const mostCount = 1000

// entry is an entry with these fields.
func entry(sum int, at int, count int) impl.DdtEntry {
	return impl.DdtEntry{Sum: sum, At: at, Count: count}
}

// entries is a list of entries.
func entries(list ...impl.DdtEntry) []impl.DdtEntry { return list }

// manyEntries is n entries, at the sectors first, first+2, and so on.
func manyEntries(n int, first int) []impl.DdtEntry {
	var list []impl.DdtEntry
	for i := range n {
		list = append(list, entry(100+i, first+2*i, 1+i))
	}
	return list
}

// longestEntries is DdtMax entries whose numbers have as many digits as valid ones can have together.
func longestEntries() []impl.DdtEntry {
	var list []impl.DdtEntry
	for at := impl.DiskMaxAt - impl.DdtMax; at < impl.DiskMaxAt; at++ {
		list = append(list, entry(impl.SumMod-1, at, mostCount))
	}
	return list
}

// textOf is the text of a list, whether it is valid or not.
func textOf(list []impl.DdtEntry) string {
	text := ""
	for i, e := range list {
		if i > 0 {
			text += " "
		}
		text += strconv.Itoa(e.Sum) + "." + strconv.Itoa(e.At) + "." + strconv.Itoa(e.Count)
	}
	return text
}

// goodLists is valid lists, those at the limits among them, by their texts.
func goodLists() map[string][]impl.DdtEntry {
	lists := map[string][]impl.DdtEntry{
		"":                       nil,
		"7.1.1":                  entries(entry(7, 1, 1)),
		"0.1.1":                  entries(entry(0, 1, 1)),
		"65520.119.1000":         entries(entry(impl.SumMod-1, impl.DiskMaxAt-1, mostCount)),
		"10.100.999":             entries(entry(10, 100, 999)),
		"7.1.1 635.2.2":          entries(entry(7, 1, 1), entry(635, 2, 2)),
		"7.1.1 7.2.1":            entries(entry(7, 1, 1), entry(7, 2, 1)),
		"9.3.1000 9.20.1 0.21.5": entries(entry(9, 3, mostCount), entry(9, 20, 1), entry(0, 21, 5)),
		"65520.1.1 0.119.1000":   entries(entry(impl.SumMod-1, 1, 1), entry(0, impl.DiskMaxAt-1, mostCount)),
	}
	for _, list := range [][]impl.DdtEntry{manyEntries(impl.DdtMax-1, 1), manyEntries(impl.DdtMax, 5), longestEntries()} {
		lists[textOf(list)] = list
	}
	return lists
}

// badLists is lists that break one condition each.
func badLists() map[string][]impl.DdtEntry {
	lists := map[string][]impl.DdtEntry{
		"one entry too many":  manyEntries(impl.DdtMax+1, 1),
		"many too many":       slices.Repeat(entries(entry(7, 1, 1)), 1000),
		"sectors equal":       entries(entry(7, 1, 1), entry(7, 1, 1)),
		"equal, other sums":   entries(entry(7, 1, 1), entry(8, 1, 1)),
		"equal at the end":    append(manyEntries(3, 1), entry(7, 5, 1)),
		"sectors descending":  entries(entry(7, 2, 1), entry(7, 1, 1)),
		"descending at last":  append(manyEntries(5, 1), entry(7, 2, 1)),
		"all sectors reverse": entries(entry(1, 9, 1), entry(2, 8, 1), entry(3, 7, 1)),
		"zero value":          entries(impl.DdtEntry{}),
	}
	for name, e := range map[string]impl.DdtEntry{
		"sum -1":               entry(-1, 4, 1),
		"sum SumMod":           entry(impl.SumMod, 4, 1),
		"least sum":            entry(math.MinInt, 4, 1),
		"greatest sum":         entry(math.MaxInt, 4, 1),
		"sector 0":             entry(7, 0, 1),
		"sector -1":            entry(7, -1, 1),
		"sector DiskMaxAt":     entry(7, impl.DiskMaxAt, 1),
		"least sector":         entry(7, math.MinInt, 1),
		"greatest sector":      entry(7, math.MaxInt, 1),
		"count 0":              entry(7, 4, 0),
		"count -1":             entry(7, 4, -1),
		"count 1001":           entry(7, 4, mostCount+1),
		"least count":          entry(7, 4, math.MinInt),
		"greatest count":       entry(7, 4, math.MaxInt),
		"all fields too small": entry(-1, 0, 0),
	} {
		lists[name] = entries(e)
		lists[name+", among others"] = entries(entry(7, 2, 1), e, entry(7, 6, 1))
		lists[name+", the first"] = entries(e, entry(7, 119, 1))
		lists[name+", the last"] = entries(entry(7, 1, 1), entry(8, 2, 1), e)
	}
	return lists
}

func TestDdtLimits(t *testing.T) {
	if impl.DdtMax != 48 {
		t.Error(impl.DdtMax)
	}
}

func TestDdtOkAndText(t *testing.T) {
	for text, list := range goodLists() {
		if !impl.DdtOk(list) || impl.DdtText(list) != text {
			t.Errorf("%v: %v %q", list, impl.DdtOk(list), impl.DdtText(list))
		}
	}
	for name, list := range badLists() {
		if impl.DdtOk(list) || impl.DdtText(list) != "" {
			t.Errorf("%s: %v %q", name, impl.DdtOk(list), impl.DdtText(list))
		}
	}
	if !impl.DdtOk([]impl.DdtEntry{}) || impl.DdtText([]impl.DdtEntry{}) != "" {
		t.Error("an empty list differs from a nil one")
	}
}

// Each field is accepted from its least to its greatest number and no further.
func TestDdtOkLimits(t *testing.T) {
	for sum := -200; sum < impl.SumMod+200; sum++ {
		if impl.DdtOk(entries(entry(sum, 4, 1))) != (sum >= 0 && sum < impl.SumMod) {
			t.Error("sum", sum)
		}
	}
	for at := -200; at < impl.DiskMaxAt+200; at++ {
		if impl.DdtOk(entries(entry(7, at, 1))) != (at >= 1 && at < impl.DiskMaxAt) {
			t.Error("sector", at)
		}
	}
	for count := -200; count < mostCount+200; count++ {
		if impl.DdtOk(entries(entry(7, 4, count))) != (count >= 1 && count <= mostCount) {
			t.Error("count", count)
		}
	}
	for n := range 60 {
		if impl.DdtOk(manyEntries(n, 1)) != (n <= impl.DdtMax) {
			t.Error(n, "entries")
		}
	}
}

func TestDdtReadsWhatWasWritten(t *testing.T) {
	for text, list := range goodLists() {
		if x, ok := impl.DdtRead(text); !slices.Equal(x, list) || !ok {
			t.Errorf("%q: %v %v", text, x, ok)
		}
	}
	r := rand.New(rand.NewPCG(5, 1))
	for range 2000 {
		list := someEntries(r, r.IntN(impl.DdtMax+1))
		if x, ok := impl.DdtRead(impl.DdtText(list)); !slices.Equal(x, list) || !ok {
			t.Fatalf("%v: %v %v", list, x, ok)
		}
	}
}

// someEntries is n valid entries.
func someEntries(r *rand.Rand, n int) []impl.DdtEntry {
	var list []impl.DdtEntry
	for _, k := range r.Perm(impl.DiskMaxAt - 1)[:n] {
		list = append(list, entry(r.IntN(impl.SumMod), 1+k, 1+r.IntN(mostCount)))
	}
	slices.SortFunc(list, func(a impl.DdtEntry, b impl.DdtEntry) int { return a.At - b.At })
	return list
}

// ddtRefused fails unless DdtRead answers an empty list and false.
func ddtRefused(t *testing.T, text string) {
	t.Helper()
	if list, ok := impl.DdtRead(text); ok || len(list) != 0 {
		t.Errorf("DdtRead of %.60q: %v, %v", text, list, ok)
	}
}

func TestDdtReadRefusesOtherTexts(t *testing.T) {
	for _, text := range []string{
		" ", "  ", ".", "..", "...", ". . .", "-", "0", "\n", "\x00", "a", "a.b.c", "7.1.x", "null",
		"7", "7.1", "7.1.", "7..1", ".1.1", "7.1.1.", "7.1.1.1", ".7.1.1", "7..1.1", "7.1..1", "7.1.1.0 8.2.1",
		"7.1.1 8", "7.1.1 8.2", "7.1.1 8.2.", "7.1.1 8.2.1.", "7.1.1 8.2.1.1", "7.1 8.2.1", "7.1.1.8.2.1", "7.1.18.2.1",
		" 7.1.1", "7.1.1 ", "7.1.1  8.2.1", "  7.1.1 8.2.1", "7.1.1 8.2.1  ", "7 .1.1", "7. 1.1", "7.1 .1", "7.1. 1", "7 1 1",
		"7.1.1\t8.2.1", "7.1.1\n8.2.1", "7.1.1,8.2.1", "7.1.1, 8.2.1", "7.1.1\n", "\n7.1.1", "7.1.1\x00", "7.1.1\xc2\xa08.2.1",
		"07.1.1", "7.01.1", "7.1.01", "00.1.1", "7.001.1", "7.1.001", "7.1.1 08.2.1", "7.1.1 8.02.1", "7.1.1 8.2.01", strings.Repeat("0", 900) + "7.1.1",
		"+7.1.1", "7.+1.1", "7.1.+1", "-7.1.1", "7.-1.1", "7.1.-1", "-0.1.1", "+0.1.1", "7.1.1 +8.2.1", "7.1.1 8.+2.1", "7.1.1 8.2.+1",
		"65521.1.1", "65528.1.1", "100000.1.1", "7.0.1", "7.120.1", "7.121.1", "7.1.0", "7.1.1001", "7.1.10000", "7.1.1 8.2.0", "7.1.1 8.2.1001", "7.0.1 8.2.1",
		"7.1.1 8.1.1", "7.1.1 7.1.1", "7.2.1 7.1.1", "7.1.1 8.3.1 9.2.1", "7.2.1 8.1.1 9.3.1", "7.10.1 8.9.1",
		"18446744073709551623.1.1", "7.18446744073709551617.1", "7.1.18446744073709551617", "4294967303.1.1", "7.4294967297.1", "7.1.4294967297", "9223372036854775808.1.1",
		strings.Repeat("9", 900) + ".1.1", "7." + strings.Repeat("9", 900) + ".1", "7.1." + strings.Repeat("9", 900),
		"0x7.1.1", "7.0x1.1", "7.1.0x1", "7.1.1e0", "1_0.1.1", "7.1.1f", "\xd9\xa7.1.1", "\xef\xbc\x97.1.1", "7\xff.1.1",
		"7:1:1", "7,1,1", "7.1.1;8.2.1", strings.Repeat("7.", 400), strings.Repeat(".", 900), strings.Repeat(" ", 900),
	} {
		ddtRefused(t, text)
	}
	for text := range goodLists() {
		ddtRefused(t, text+" ")
		ddtRefused(t, " "+text)
		ddtRefused(t, text+".")
		ddtRefused(t, "0"+text)
	}
}

// A text in the form of a list that is not valid is not read.
func TestDdtReadRefusesListsThatAreNotValid(t *testing.T) {
	for name, list := range badLists() {
		if got, ok := impl.DdtRead(textOf(list)); ok || len(got) != 0 {
			t.Errorf("%s: %v %v", name, got, ok)
		}
	}
}

// No text of a valid list has as many as 1000 bytes, so those of 1000 and more are all refused, whatever they contain.
func TestDdtReadOfLongTexts(t *testing.T) {
	if longest := impl.DdtText(longestEntries()); len(longest) > 1000 || len(longest) != 691 {
		t.Fatal("the longest text has bytes:", len(longest))
	}
	for _, n := range []int{999, 1000, 1001, 1002, 100000} {
		for _, filler := range []string{" ", "0", "7.1.1 ", "7.", ".", "x", "\x00"} {
			long := strings.Repeat(filler, n)[:n]
			ddtRefused(t, long)
			ddtRefused(t, "7.1.1 "+long[6:])
			ddtRefused(t, long[6:]+" 7.1.1")
		}
		zeros := strings.Repeat("0", n-len("7.1.1"))
		ddtRefused(t, zeros+"7.1.1")
		ddtRefused(t, "7."+zeros+"1.1")
		ddtRefused(t, "7.1."+zeros+"1")
	}
}

// What is read of a text that was changed anywhere is what that text tells, or nothing.
func TestDdtReadOfChangedTexts(t *testing.T) {
	for _, text := range []string{"", "7.1.1", "65520.119.1000", "9.3.1000 9.20.1 0.21.5", "7.1.1 635.2.2"} {
		for _, s := range changedTexts(text) {
			list, ok := impl.DdtRead(s)
			if ok && (!impl.DdtOk(list) || textOf(list) != s) || !ok && len(list) != 0 {
				t.Errorf("%q: %v %v", s, list, ok)
			}
		}
	}
}

func TestDdtCount(t *testing.T) {
	for _, list := range goodLists() {
		for at := -2; at < impl.DiskMaxAt+2; at++ {
			want := 0
			for _, e := range list {
				if e.At == at {
					want = e.Count
				}
			}
			if n := impl.DdtCount(list, at); n != want {
				t.Errorf("%v, sector %d: %d", list, at, n)
			}
		}
		for _, at := range []int{math.MinInt, math.MaxInt} {
			if n := impl.DdtCount(list, at); n != 0 {
				t.Errorf("%v, sector %d: %d", list, at, n)
			}
		}
	}
}

// ddtCase is an entry that is added or dropped, and the list afterwards.
type ddtCase struct {
	name string
	list []impl.DdtEntry
	sum  int
	at   int
	want []impl.DdtEntry
}

func TestDdtAdds(t *testing.T) {
	two := entries(entry(7, 3, 1), entry(9, 5, 4))
	top := impl.SumMod - 1
	for _, c := range []ddtCase{
		{"to no entry", nil, 7, 3, entries(entry(7, 3, 1))},
		{"to an empty list", []impl.DdtEntry{}, 7, 3, entries(entry(7, 3, 1))},
		{"the least sum and sector", nil, 0, 1, entries(entry(0, 1, 1))},
		{"the greatest sum and sector", nil, top, impl.DiskMaxAt - 1, entries(entry(top, impl.DiskMaxAt-1, 1))},
		{"once more", two, 7, 3, entries(entry(7, 3, 2), entry(9, 5, 4))},
		{"once more, the last", two, 9, 5, entries(entry(7, 3, 1), entry(9, 5, 5))},
		{"up to the greatest count", entries(entry(7, 3, 999)), 7, 3, entries(entry(7, 3, 1000))},
		{"before the others", two, 8, 2, entries(entry(8, 2, 1), entry(7, 3, 1), entry(9, 5, 4))},
		{"between the others", two, 8, 4, entries(entry(7, 3, 1), entry(8, 4, 1), entry(9, 5, 4))},
		{"behind the others", two, 8, 6, entries(entry(7, 3, 1), entry(9, 5, 4), entry(8, 6, 1))},
		{"a sum that another entry has", two, 7, 4, entries(entry(7, 3, 1), entry(7, 4, 1), entry(9, 5, 4))},
		{"a sum that the entry behind has", two, 9, 4, entries(entry(7, 3, 1), entry(9, 4, 1), entry(9, 5, 4))},
		{"the last that fits", manyEntries(impl.DdtMax-1, 1), 5, 119, append(manyEntries(impl.DdtMax-1, 1), entry(5, 119, 1))},
	} {
		if x, ok := impl.DdtAdd(c.list, c.sum, c.at); !ok || !slices.Equal(x, c.want) || !impl.DdtOk(x) {
			t.Errorf("%s: %v %v", c.name, x, ok)
		}
	}
	full := manyEntries(impl.DdtMax, 5)
	for i, e := range full {
		want := slices.Clone(full)
		want[i].Count++
		if x, ok := impl.DdtAdd(full, e.Sum, e.At); !ok || !slices.Equal(x, want) {
			t.Errorf("sector %d of a full list: %v %v", e.At, x, ok)
		}
	}
}

func TestDdtAddRefuses(t *testing.T) {
	two := entries(entry(7, 3, 1), entry(9, 5, mostCount))
	cases := []ddtCase{
		{"another sum", two, 8, 3, two},
		{"the sum of another entry", two, 9, 3, two},
		{"the greatest count", two, 9, 5, two},
		{"the greatest count and another sum", two, 7, 5, two},
		{"a full list", manyEntries(impl.DdtMax, 5), 100, 1, manyEntries(impl.DdtMax, 5)},
		{"a full list, between", manyEntries(impl.DdtMax, 5), 100, 6, manyEntries(impl.DdtMax, 5)},
		{"a full list, behind", manyEntries(impl.DdtMax, 5), 100, 119, manyEntries(impl.DdtMax, 5)},
		{"a full list, another sum", manyEntries(impl.DdtMax, 5), 101, 5, manyEntries(impl.DdtMax, 5)},
	}
	for _, list := range [][]impl.DdtEntry{nil, two, manyEntries(impl.DdtMax, 5)} {
		for _, sum := range []int{-1, impl.SumMod, impl.SumMod + 7, 7 - impl.SumMod, math.MinInt, math.MaxInt} {
			cases = append(cases, ddtCase{"sum " + strconv.Itoa(sum), list, sum, 4, list}, ddtCase{"sum " + strconv.Itoa(sum), list, sum, 3, list})
		}
		for _, at := range []int{0, -1, impl.DiskMaxAt, math.MinInt, math.MaxInt} {
			cases = append(cases, ddtCase{"sector " + strconv.Itoa(at), list, 7, at, list}, ddtCase{"no entry", list, -1, at, list})
		}
	}
	for _, c := range cases {
		if x, ok := impl.DdtAdd(c.list, c.sum, c.at); ok || !slices.Equal(x, c.want) {
			t.Errorf("%s: %v %v", c.name, x, ok)
		}
	}
}

func TestDdtDrops(t *testing.T) {
	three := entries(entry(7, 3, 2), entry(9, 5, 1), entry(7, 8, mostCount))
	for _, c := range []ddtCase{
		{"of two", three, 0, 3, entries(entry(7, 3, 1), entry(9, 5, 1), entry(7, 8, mostCount))},
		{"the last pointer", three, 0, 5, entries(entry(7, 3, 2), entry(7, 8, mostCount))},
		{"of the most", three, 0, 8, entries(entry(7, 3, 2), entry(9, 5, 1), entry(7, 8, 999))},
		{"the last pointer of the first", entries(entry(7, 3, 1), entry(9, 5, 1)), 0, 3, entries(entry(9, 5, 1))},
		{"the last pointer of the last", entries(entry(7, 3, 1), entry(9, 5, 1)), 0, 5, entries(entry(7, 3, 1))},
		{"the last entry", entries(entry(7, 3, 1)), 0, 3, nil},
		{"the least sector", entries(entry(0, 1, 1)), 0, 1, nil},
		{"the greatest sector", entries(entry(0, 1, 1), entry(4, 119, 2)), 0, 119, entries(entry(0, 1, 1), entry(4, 119, 1))},
		{"of a full list", manyEntries(impl.DdtMax, 5), 0, 5, manyEntries(impl.DdtMax, 5)[1:]},
	} {
		if x, ok := impl.DdtDrop(c.list, c.at); !ok || !slices.Equal(x, c.want) || !impl.DdtOk(x) {
			t.Errorf("%s: %v %v", c.name, x, ok)
		}
	}
}

func TestDdtDropRefuses(t *testing.T) {
	for _, list := range goodLists() {
		for _, at := range []int{0, -1, 2, 4, 6, 119, impl.DiskMaxAt, math.MinInt, math.MaxInt} {
			if slices.ContainsFunc(list, func(e impl.DdtEntry) bool { return e.At == at }) {
				continue
			}
			if x, ok := impl.DdtDrop(list, at); ok || !slices.Equal(x, list) {
				t.Errorf("sector %d: %v %v", at, x, ok)
			}
		}
	}
}

// A list that is not valid has no entry, for any function, although one of it would do.
func TestListsThatAreNotValid(t *testing.T) {
	d, _ := impl.BlkWrite(impl.DiskOpen(12), 2, "x")
	sum := impl.SumOf("x")
	lists := badLists()
	lists["a good entry, a bad one"] = entries(entry(sum, 2, 1), entry(7, 4, 0))
	lists["a bad entry, a good one"] = entries(entry(7, 1, 0), entry(sum, 2, 1))
	lists["a good entry twice"] = entries(entry(sum, 2, 1), entry(sum, 2, 1))
	lists["a good entry, too many others"] = append(entries(entry(sum, 2, 1)), manyEntries(impl.DdtMax, 5)...)
	for name, list := range lists {
		if at := impl.DdtFind(d, list, "x"); at != 0 {
			t.Errorf("%s: found in %d", name, at)
		}
		for _, at := range []int{1, 2, 3, 4, 119, 0, -1, math.MaxInt} {
			for _, s := range []int{7, sum, -1} {
				if x, ok := impl.DdtAdd(list, s, at); ok || len(x) != 0 {
					t.Errorf("%s: sum %d added at %d: %v %v", name, s, at, x, ok)
				}
			}
			if x, ok := impl.DdtDrop(list, at); ok || len(x) != 0 {
				t.Errorf("%s: dropped at %d: %v %v", name, at, x, ok)
			}
			if n := impl.DdtCount(list, at); n != 0 {
				t.Errorf("%s: %d at %d", name, n, at)
			}
		}
	}
}

// findCase is a disk and a list, and the sector in which "abc" is found.
type findCase struct {
	name string
	d    impl.Disk
	list []impl.DdtEntry
	want int
}

func TestDdtFinds(t *testing.T) {
	sum := impl.SumOf("abc")
	twin := otherText(t, sum, "abc")
	one := entries(entry(sum, 1, 1))
	all := entries(entry(sum, 1, 1), entry(sum, 2, 3), entry(sum, 3, mostCount))
	both := func(texts ...string) impl.Disk { return diskOf(texts, texts) }
	for _, c := range []findCase{
		{"stored", both("", "abc"), one, 1},
		{"in the last sector of the largest disk", both(append(make([]string, 119), "abc")...), entries(entry(sum, 119, 1)), 119},
		{"stored late", diskOf([]string{"", ""}, []string{"", ""}, late(0, 1, "abc"), late(1, 1, "abc")), one, 1},
		{"damaged on side 0", diskOf([]string{"", "abd"}, []string{"", "abc"}), one, 1},
		{"damaged on side 1", diskOf([]string{"", "abc"}, []string{"", "abd"}), one, 1},
		{"damaged on both sides", both("", "abd"), one, 0},
		{"overwritten late on side 0", diskOf([]string{"", "abc"}, []string{"", "abc"}, late(0, 1, "")), one, 1},
		{"overwritten late on both sides", diskOf([]string{"", "abc"}, []string{"", "abc"}, late(0, 1, ""), late(1, 1, "")), one, 0},
		{"no entry", both("", "abc"), nil, 0},
		{"another sum", both("", "abc"), entries(entry(sum+1, 1, 1)), 0},
		{"an entry of another sector", both("", "abc", "x"), entries(entry(sum, 2, 1)), 0},
		{"past the end", both("abc"), one, 0},
		{"sector 0 only", both("abc", ""), one, 0},
		{"its sum, another text", both("", twin), one, 0},
		{"its sum, another text on side 0", diskOf([]string{"", twin}, []string{"", "abc"}), one, 0},
		{"its sum, another text on side 1", diskOf([]string{"", "abc"}, []string{"", twin}), one, 1},
		{"behind another text of its sum", both("", twin, "abc"), entries(entry(sum, 1, 1), entry(sum, 2, 1)), 2},
		{"before another text of its sum", both("", "abc", twin), entries(entry(sum, 1, 1), entry(sum, 2, 1)), 1},
		{"the first of several", both("", "abc", "abc", "abc"), all, 1},
		{"the first that is not damaged", both("", "x", "abc", "abc"), all, 2},
		{"behind others", both("", "", twin, "abc"), all, 3},
		{"among other sums", both("", "a", "abc", "c"), entries(entry(impl.SumOf("a"), 1, 1), entry(sum, 2, 1), entry(impl.SumOf("c"), 3, 1)), 2},
		{"with an entry past the end", both("", "abc"), entries(entry(sum, 1, 1), entry(sum, 119, 1)), 1},
	} {
		if at := impl.DdtFind(c.d, c.list, "abc"); at != c.want {
			t.Errorf("%s: %d", c.name, at)
		}
	}
}

func TestDdtFindsAtTheLimits(t *testing.T) {
	most := strings.Repeat("m", impl.DiskMaxText)
	zero := otherText(t, 0, "")
	top := otherText(t, impl.SumMod-1, "")
	d := diskOf([]string{"x", "", most, zero, top}, []string{"x", "", most, zero, top})
	var list []impl.DdtEntry
	for at, text := range d.Sides[0][1:] {
		list = append(list, entry(impl.SumOf(text), at+1, 1))
	}
	for at, text := range d.Sides[0][1:] {
		if x := impl.DdtFind(d, list, text); x != at+1 {
			t.Errorf("%.20q: %d", text, x)
		}
	}
	for _, text := range []string{"x", most + "m", strings.Repeat("m", 5000), "nowhere"} {
		if at := impl.DdtFind(d, list, text); at != 0 {
			t.Errorf("%.20q: %d", text, at)
		}
	}
	full := impl.DiskOpen(impl.DiskMaxAt)
	list = nil
	for i := range impl.DdtMax {
		list = append(list, entry(impl.SumOf("abc"), i+1, 1))
	}
	full, _ = impl.BlkWrite(full, impl.DdtMax, "abc")
	if at := impl.DdtFind(full, list, "abc"); at != impl.DdtMax {
		t.Error("the last entry of a full list:", at)
	}
}

func TestDdtFindsNothingOnDisksThatAreNotValid(t *testing.T) {
	for name, d := range badDisks() {
		for _, text := range []string{"", "abc"} {
			if at := impl.DdtFind(d, entries(entry(impl.SumOf(text), 1, 1), entry(7, 2, 1)), text); at != 0 {
				t.Errorf("%s: %q in %d", name, text, at)
			}
		}
	}
}

// sameCounts checks a list against the counts of all sectors.
func sameCounts(t *testing.T, list []impl.DdtEntry, counts [impl.DiskMaxAt]int) {
	t.Helper()
	n := 0
	for at, count := range counts {
		if got := impl.DdtCount(list, at); got != count {
			t.Fatalf("sector %d: %d, not %d: %v", at, got, count, list)
		}
		if count > 0 {
			n++
		}
	}
	if len(list) != n || !impl.DdtOk(list) {
		t.Fatalf("%d entries, not %d: %v", len(list), n, list)
	}
	for _, e := range list {
		if e.Count < 1 {
			t.Fatalf("a count of %d: %v", e.Count, list)
		}
	}
}

// Promise 6: adding a pointer and dropping it leaves the list as it was, and so does dropping and adding.
func TestAddingAndDroppingLeavesTheCounts(t *testing.T) {
	r := rand.New(rand.NewPCG(5, 6))
	for range 300 {
		list := someEntries(r, r.IntN(impl.DdtMax+1))
		for at := range impl.DiskMaxAt + 1 {
			sum := r.IntN(impl.SumMod)
			i := slices.IndexFunc(list, func(e impl.DdtEntry) bool { return e.At == at })
			if i >= 0 {
				sum = list[i].Sum
				dropped, ok := impl.DdtDrop(list, at)
				if !ok || impl.DdtCount(dropped, at) != list[i].Count-1 {
					t.Fatalf("sector %d: %v from %v", at, dropped, list)
				}
				if again, ok := impl.DdtAdd(dropped, sum, at); !ok || !slices.Equal(again, list) {
					t.Fatalf("dropped and added at %d: %v from %v", at, again, list)
				}
			}
			added, ok := impl.DdtAdd(list, sum, at)
			if !ok {
				if !slices.Equal(added, list) {
					t.Fatalf("refused at %d: %v from %v", at, added, list)
				}
				continue
			}
			if again, ok := impl.DdtDrop(added, at); !ok || !slices.Equal(again, list) {
				t.Fatalf("added and dropped at %d: %v from %v", at, again, list)
			}
		}
	}
}

// Promise 6: whatever is added and dropped, the counts are those of the pointers, and none is 0 or negative.
func TestCountsAreThoseOfThePointers(t *testing.T) {
	r := rand.New(rand.NewPCG(5, 60))
	for _, sectors := range []int{5, 60, impl.DiskMaxAt} {
		var list []impl.DdtEntry
		var counts [impl.DiskMaxAt]int
		used := 0
		for step := range 6000 {
			at := r.IntN(sectors+2) - 1
			inside := at >= 1 && at < impl.DiskMaxAt
			// More is added than dropped in one half of each thousand steps, so that lists grow full and empty again.
			if r.IntN(10) < 3+4*(step/500%2) {
				ok := inside && counts[at] > 0
				x, dropped := impl.DdtDrop(list, at)
				if dropped != ok || !ok && !slices.Equal(x, list) {
					t.Fatalf("dropped at %d: %v", at, dropped)
				}
				list = x
				if ok {
					counts[at]--
				}
				if ok && counts[at] == 0 {
					used--
				}
			} else {
				ok := inside && counts[at] < mostCount && (counts[at] > 0 || used < impl.DdtMax)
				x, added := impl.DdtAdd(list, 31*at, at)
				if added != ok || !ok && !slices.Equal(x, list) {
					t.Fatalf("added at %d: %v", at, added)
				}
				list = x
				if ok && counts[at] == 0 {
					used++
				}
				if ok {
					counts[at]++
				}
			}
			sameCounts(t, list, counts)
		}
	}
}

// A block is counted from its first pointer up to the greatest count, and back to no entry.
func TestCountsUpAndDown(t *testing.T) {
	list := entries(entry(3, 2, 1), entry(3, 9, 1))
	for n := range mostCount {
		x, ok := impl.DdtAdd(list, 3, 5)
		if !ok || !slices.Equal(x, entries(entry(3, 2, 1), entry(3, 5, n+1), entry(3, 9, 1))) {
			t.Fatal(n, x, ok)
		}
		list = x
	}
	if x, ok := impl.DdtAdd(list, 3, 5); ok || !slices.Equal(x, list) {
		t.Fatal("beyond the greatest count:", x, ok)
	}
	for n := mostCount - 1; n >= 0; n-- {
		x, ok := impl.DdtDrop(list, 5)
		if !ok || impl.DdtCount(x, 5) != n || !impl.DdtOk(x) {
			t.Fatal(n, x, ok)
		}
		list = x
	}
	if !slices.Equal(list, entries(entry(3, 2, 1), entry(3, 9, 1))) {
		t.Fatal(list)
	}
	if x, ok := impl.DdtDrop(list, 5); ok || !slices.Equal(x, list) {
		t.Fatal("without an entry:", x, ok)
	}
}

// twins is n different texts with the same sum.
func twins(t *testing.T, sum int, n int) []string {
	t.Helper()
	var texts []string
	for k := range 1 << 24 {
		text := string([]byte{byte(k >> 16), byte(k >> 8), byte(k)})
		if impl.SumOf(text) == sum {
			texts = append(texts, text)
		}
		if len(texts) == n {
			return texts
		}
	}
	t.Fatal("too few texts have the sum", sum)
	return nil
}

// Promise 7: texts with the same checksum are blocks of their own, each found by its own text alone.
func TestTextsWithTheSameSumAreTwoBlocks(t *testing.T) {
	texts := twins(t, impl.SumOf("abc"), 5)
	missing := texts[4]
	d, ok := impl.DiskOpen(20), true
	var list []impl.DdtEntry
	for i, text := range texts[:4] {
		if at := impl.DdtFind(d, list, text); at != 0 {
			t.Fatalf("%q is found in %d before it is stored", text, at)
		}
		at := 15 - 3*i
		if d, ok = impl.BlkWrite(d, at, text); !ok {
			t.Fatal("refused")
		}
		if list, ok = impl.DdtAdd(list, impl.SumOf(text), at); !ok || len(list) != i+1 {
			t.Fatal("one block for two texts:", list)
		}
	}
	for i, text := range texts[:4] {
		if at := impl.DdtFind(d, list, text); at != 15-3*i {
			t.Errorf("%q is found in %d", text, at)
		}
	}
	if at := impl.DdtFind(d, list, missing); at != 0 {
		t.Errorf("%q is found in %d", missing, at)
	}
	list, _ = impl.DdtDrop(list, 12)
	for i, text := range texts[:4] {
		at := impl.DdtFind(d, list, text)
		if i == 1 && at != 0 || i != 1 && at != 15-3*i {
			t.Errorf("%q is found in %d after a drop", text, at)
		}
	}
}

// Promise 7: whatever is stored and damaged, a block that is found has the text, and is the first of the list that has it.
func TestFoundBlocksHaveTheText(t *testing.T) {
	r := rand.New(rand.NewPCG(5, 7))
	texts := append(twins(t, 77, 4), twins(t, 78, 2)...)
	texts = append(texts, "", "a", "b")
	for range 400 {
		n := 2 + r.IntN(8)
		d := impl.DiskOpen(n)
		for range r.IntN(3 * n) {
			d, _ = impl.DiskWrite(d, r.IntN(2), r.IntN(n), texts[r.IntN(len(texts))])
			if r.IntN(3) == 0 {
				d = impl.DiskFlush(d)
			}
		}
		var list []impl.DdtEntry
		for at := 1; at < n+2; at++ {
			if r.IntN(3) > 0 {
				list = append(list, entry(impl.SumOf(texts[r.IntN(len(texts))]), at, 1+r.IntN(mostCount)))
			}
		}
		for _, text := range texts {
			want := 0
			for _, e := range slices.Backward(list) {
				if block, code := impl.BlkRead(d, ptr(e.At, e.Sum, 0)); code == impl.BlkFine && block == text {
					want = e.At
				}
			}
			if at := impl.DdtFind(d, list, text); at != want {
				t.Fatalf("%q: %d, not %d: %v %v", text, at, want, list, d)
			}
		}
	}
}

// ddtCalls is each function that returns a list, also where it returns its argument, for the sectors of roomyEntries.
func ddtCalls() map[string]func(list []impl.DdtEntry) []impl.DdtEntry {
	add := func(sum int, at int) func(list []impl.DdtEntry) []impl.DdtEntry {
		return func(list []impl.DdtEntry) []impl.DdtEntry {
			x, _ := impl.DdtAdd(list, sum, at)
			return x
		}
	}
	drop := func(at int) func(list []impl.DdtEntry) []impl.DdtEntry {
		return func(list []impl.DdtEntry) []impl.DdtEntry {
			x, _ := impl.DdtDrop(list, at)
			return x
		}
	}
	return map[string]func(list []impl.DdtEntry) []impl.DdtEntry{
		"add once more":  add(7, 3),
		"add before":     add(8, 2),
		"add between":    add(8, 4),
		"add behind":     add(8, 6),
		"refused sum":    add(8, 3),
		"refused count":  add(9, 5),
		"refused sector": add(8, 0),
		"drop one":       drop(5),
		"drop the last":  drop(3),
		"drop nothing":   drop(4),
	}
}

// roomyEntries is a list with unused capacity, and the whole of its memory.
func roomyEntries() (list []impl.DdtEntry, room []impl.DdtEntry) {
	room = entries(entry(7, 3, 1), entry(9, 5, mostCount), entry(1, 90, 1), entry(2, 91, 1), entry(3, 92, 1))
	return room[:2], room
}

// spoilEntries overwrites a list and its unused capacity.
func spoilEntries(list []impl.DdtEntry) {
	list = list[:cap(list)]
	for i := range list {
		list[i] = entry(-9, -9, -9)
	}
}

func TestListsShareNoMemory(t *testing.T) {
	for name, call := range ddtCalls() {
		list, room := roomyEntries()
		_, want := roomyEntries()
		x := call(list)
		if !slices.Equal(room, want) {
			t.Errorf("%s changes its argument: %v", name, room)
		}
		y := call(list)
		kept := slices.Clone(y)
		spoilEntries(x)
		if !slices.Equal(room, want) || !slices.Equal(y, kept) {
			t.Errorf("%s shares memory: %v %v", name, room, y)
		}
		spoilEntries(room)
		if !slices.Equal(y, kept) {
			t.Errorf("%s shares memory with its argument: %v", name, y)
		}
	}
}

func TestReadingListsLeavesThem(t *testing.T) {
	list, room := roomyEntries()
	_, want := roomyEntries()
	d := diskOf([]string{"", "a", "b", "c"}, []string{"", "a", "b", "c"})
	kept := ownDisk(d)
	impl.DdtOk(list)
	impl.DdtFind(d, list, "c")
	impl.DdtCount(list, 3)
	impl.DdtText(list)
	if !slices.Equal(room, want) || !sameDisk(d, kept) {
		t.Error(room, d)
	}
	x, _ := impl.DdtRead("7.1.1 635.2.2")
	y, _ := impl.DdtRead("7.1.1 635.2.2")
	spoilEntries(x)
	if !slices.Equal(y, entries(entry(7, 1, 1), entry(635, 2, 2))) {
		t.Error("two lists that are read share memory:", y)
	}
}
