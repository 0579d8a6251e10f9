package tests

import (
	"math"
	"math/rand/v2"
	"slices"
	"strings"
	"testing"

	"loop.example/palim/impl"
)

// bookOf is a book with these sets.
func bookOf(sets ...impl.BookSet) impl.Book {
	return impl.Book{Sets: sets}
}

// setOf is a set whose first blocks are these texts.
func setOf(name string, kind int, from string, texts ...string) impl.BookSet {
	set := impl.BookSet{Name: name, Kind: kind, From: from}
	copy(set.Blocks[:], texts)
	return set
}

// volume is a volume whose first blocks are these texts.
func volume(name string, from string, texts ...string) impl.BookSet {
	return setOf(name, impl.BookVolume, from, texts...)
}

// snapshot is a snapshot whose first blocks are these texts.
func snapshot(name string, from string, texts ...string) impl.BookSet {
	return setOf(name, impl.BookSnapshot, from, texts...)
}

// sameBook compares two books without the function under test.
func sameBook(a impl.Book, b impl.Book) bool {
	return slices.Equal(a.Sets, b.Sets)
}

// ownBook is a copy that shares no list with the book.
func ownBook(b impl.Book) impl.Book {
	return bookOf(slices.Clone(b.Sets)...)
}

// with is a copy of the book in which the set of that name is replaced.
func with(b impl.Book, set impl.BookSet) impl.Book {
	b = ownBook(b)
	for i := range b.Sets {
		if b.Sets[i].Name == set.Name {
			b.Sets[i] = set
		}
	}
	return b
}

// smallBook is two volumes, a clone and snapshots of two of them, and room for one more set.
func smallBook() impl.Book {
	return bookOf(
		volume("c", "s", "one", "two", "clone"),
		snapshot("s", "v", "one", "two"),
		volume("v", "", "one", "new", "", "last"),
		volume("w", "", "other"),
		snapshot("x", "w", "past"),
	)
}

// fullBook is smallBook and one more set, of which no other one comes.
func fullBook() impl.Book {
	b := smallBook()
	b.Sets = append(b.Sets, volume("z", "x", "end"))
	return b
}

// longestText is a block of as many bytes as one may have.
func longestText() string {
	return strings.Repeat("m", impl.BookMaxText)
}

// goodBooks is valid books, those at the limits among them.
func goodBooks() map[string]impl.Book {
	longest := longestText()
	long := setOf("v", impl.BookVolume, "")
	for i := range long.Blocks {
		long.Blocks[i] = longest
	}
	return map[string]impl.Book{
		"zero value":        {},
		"empty list":        {Sets: []impl.BookSet{}},
		"one volume":        bookOf(volume("v", "")),
		"one letter, first": bookOf(volume("a", "")),
		"one letter, last":  bookOf(volume("z", "")),
		"six letters":       bookOf(volume("azazaz", "")),
		"names that begin alike": bookOf(
			volume("a", ""), volume("aa", ""), volume("aaaaaa", ""), volume("ab", ""), volume("b", "")),
		"longest blocks": bookOf(long),
		"any bytes":      bookOf(volume("v", "", "\x00", "\xff\xfe", " ", "\n", "a b", "-")),
		"small":          smallBook(),
		"full":           fullBook(),
		"most volumes": bookOf(
			volume("a", ""), volume("b", ""), volume("c", ""), volume("d", ""), volume("e", ""), volume("f", "")),
		"longest line": bookOf(
			volume("a", ""), snapshot("b", "a"), volume("c", "b"), snapshot("d", "c"), volume("e", "d"), snapshot("f", "e")),
		"longest line, backwards": bookOf(
			snapshot("a", "b"), volume("b", "c"), snapshot("c", "d"), volume("d", "e"), snapshot("e", "f"), volume("f", "")),
		"snapshots of one volume": bookOf(
			snapshot("a", "v"), snapshot("b", "v"), snapshot("c", "v"), snapshot("d", "v"), snapshot("e", "v"), volume("v", "")),
		"clones of one snapshot": bookOf(
			volume("a", "s"), volume("b", "s"), volume("c", "s"), snapshot("s", "v"), volume("v", "")),
	}
}

// badBooks is books that break one condition each.
func badBooks() map[string]impl.Book {
	over := longestText() + "o"
	lastLong := volume("v", "")
	lastLong.Blocks[impl.BookBlocks-1] = over
	return map[string]impl.Book{
		"too many sets": bookOf(volume("a", ""), volume("b", ""), volume("c", ""), volume("d", ""),
			volume("e", ""), volume("f", ""), volume("g", "")),
		"far too many sets":                   bookOf(slices.Repeat([]impl.BookSet{volume("v", "")}, 1000)...),
		"no name":                             bookOf(volume("", "")),
		"no name among others":                bookOf(volume("", ""), volume("v", "")),
		"long name":                           bookOf(volume("abcdefg", "")),
		"capital letter":                      bookOf(volume("V", "")),
		"digit in a name":                     bookOf(volume("v1", "")),
		"equal names":                         bookOf(volume("v", ""), volume("v", "")),
		"equal names, other kinds":            bookOf(snapshot("s", "v"), volume("v", ""), snapshot("v", "v")),
		"descending names":                    bookOf(volume("b", ""), volume("a", "")),
		"descending at the end":               bookOf(volume("a", ""), volume("c", ""), volume("b", "")),
		"a name before its start":             bookOf(volume("ab", ""), volume("a", "")),
		"kind 0":                              bookOf(setOf("v", 0, "")),
		"kind 3":                              bookOf(setOf("v", 3, "")),
		"kind -1":                             bookOf(setOf("v", -1, "")),
		"far kind":                            bookOf(setOf("v", math.MaxInt, "")),
		"kind 3 with a From":                  bookOf(setOf("s", 3, "v"), volume("v", "")),
		"long first block":                    bookOf(volume("v", "", over)),
		"long last block":                     bookOf(lastLong),
		"long block of a snapshot":            bookOf(snapshot("s", "v", "", over), volume("v", "")),
		"snapshot without From":               bookOf(snapshot("s", "")),
		"clone of a snapshot without From":    bookOf(volume("c", "s"), snapshot("s", ""), volume("v", "")),
		"snapshot of no set":                  bookOf(snapshot("s", "u"), volume("v", "")),
		"clone of no set":                     bookOf(volume("c", "t"), volume("v", "")),
		"From that is no name":                bookOf(volume("v", "-")),
		"From that is a space":                bookOf(volume("v", " ")),
		"From with more letters":              bookOf(snapshot("s", "vv"), volume("v", "")),
		"snapshot of a snapshot":              bookOf(snapshot("s", "v"), snapshot("t", "s"), volume("v", "")),
		"clone of a volume":                   bookOf(volume("c", "v"), volume("v", "")),
		"volume of itself":                    bookOf(volume("v", "v")),
		"snapshot of itself":                  bookOf(snapshot("s", "s"), volume("v", "")),
		"circle of two":                       bookOf(snapshot("s", "v"), volume("v", "s")),
		"circle of two beside a volume":       bookOf(snapshot("s", "v"), volume("v", "s"), volume("w", "")),
		"circle of four":                      bookOf(volume("a", "d"), snapshot("b", "a"), volume("c", "b"), snapshot("d", "c")),
		"circle of six":                       bookOf(volume("a", "f"), snapshot("b", "a"), volume("c", "b"), snapshot("d", "c"), volume("e", "d"), snapshot("f", "e")),
		"a line that ends in a circle":        bookOf(snapshot("a", "v"), snapshot("s", "v"), volume("v", "s"), volume("w", "")),
		"a line that ends at no set":          bookOf(snapshot("a", "b"), volume("b", "c"), snapshot("c", "d")),
		"a line through one of the same kind": bookOf(snapshot("a", "b"), volume("b", "c"), volume("c", "")),
	}
}

func TestBookLimits(t *testing.T) {
	if impl.BookMaxSets != 6 || impl.BookBlocks != 8 || impl.BookMaxText != 24 {
		t.Error(impl.BookMaxSets, impl.BookBlocks, impl.BookMaxText)
	}
	kinds := []int{impl.BookVolume, impl.BookSnapshot}
	ops := []int{impl.BookMakes, impl.BookKills, impl.BookPuts, impl.BookSnaps, impl.BookClones, impl.BookGoes}
	codes := []int{impl.BookDone, impl.BookNone, impl.BookThere, impl.BookKind, impl.BookFull, impl.BookForm, impl.BookBusy, impl.BookRoom}
	if !slices.Equal(kinds, []int{1, 2}) || !slices.Equal(ops, []int{1, 2, 3, 4, 5, 6}) || !slices.Equal(codes, []int{0, 1, 2, 3, 4, 5, 6, 7}) {
		t.Error(kinds, ops, codes)
	}
}

// badNames is words that are no names.
func badNames() []string {
	return []string{
		"", "abcdefg", "aaaaaaaa", strings.Repeat("a", 5000), "A", "Z", "aB", "Ab", "abcdeF", "0", "a0", "9z", "-", "a-", "_", ".",
		" ", " a", "a ", "a b", "a\n", "\x00", "a\x00", "`", "{", "a`", "{z", "@", "\xff", "a\xff", "\xc3\xa4", "\xe1", "\xef\xbd\x81",
	}
}

func TestBookName(t *testing.T) {
	for _, word := range []string{"a", "z", "m", "ab", "zz", "abc", "abcd", "abcde", "abcdef", "uvwxyz", "zzzzzz", "aaaaaa"} {
		if !impl.BookName(word) {
			t.Errorf("%q", word)
		}
	}
	for _, word := range badNames() {
		if impl.BookName(word) {
			t.Errorf("%.20q", word)
		}
	}
	for b := range 256 {
		letter := b >= 'a' && b <= 'z'
		for i := range 6 {
			word := []byte("kkkkkk")
			word[i] = byte(b)
			if impl.BookName(string(word)) != letter {
				t.Errorf("%q", word)
			}
		}
		if impl.BookName(string([]byte{byte(b)})) != letter {
			t.Errorf("byte %d", b)
		}
	}
}

func TestBookOk(t *testing.T) {
	for name, b := range goodBooks() {
		if !impl.BookOk(b) {
			t.Error(name)
		}
	}
	for name, b := range badBooks() {
		if impl.BookOk(b) {
			t.Error(name)
		}
	}
	for _, name := range badNames() {
		if impl.BookOk(bookOf(volume(name, ""))) {
			t.Errorf("a volume named %.20q", name)
		}
	}
}

// Each block of each set is held to the limit.
func TestBookOkOfEachBlock(t *testing.T) {
	for i := range fullBook().Sets {
		for k := range impl.BookBlocks {
			for extra := range 2 {
				b := fullBook()
				b.Sets[i].Blocks[k] = longestText() + strings.Repeat("o", extra)
				if impl.BookOk(b) != (extra == 0) {
					t.Errorf("set %d, block %d: %d bytes", i, k, len(b.Sets[i].Blocks[k]))
				}
			}
		}
	}
}

func TestBookSame(t *testing.T) {
	books := goodBooks()
	for name, b := range badBooks() {
		books["not valid: "+name] = b
	}
	for name, b := range books {
		if !impl.BookSame(b, ownBook(b)) {
			t.Error(name, "and itself")
		}
		for other, c := range books {
			if impl.BookSame(b, c) != sameBook(b, c) {
				t.Error(name, "and", other)
			}
		}
	}
	if !impl.BookSame(impl.Book{}, impl.Book{Sets: []impl.BookSet{}}) {
		t.Error("a nil list and an empty one")
	}
}

// A book differs from one with another value in any field.
func TestBookSameTellsEachField(t *testing.T) {
	for i := range fullBook().Sets {
		changes := map[string]func(set *impl.BookSet){
			"name":    func(set *impl.BookSet) { set.Name += "n" },
			"no name": func(set *impl.BookSet) { set.Name = "" },
			"kind":    func(set *impl.BookSet) { set.Kind = 3 - set.Kind },
			"kind 0":  func(set *impl.BookSet) { set.Kind = 0 },
			"from":    func(set *impl.BookSet) { set.From += "n" },
		}
		for k := range impl.BookBlocks {
			changes["block "+string(rune('0'+k))] = func(set *impl.BookSet) { set.Blocks[k] += "." }
		}
		for name, change := range changes {
			b := fullBook()
			change(&b.Sets[i])
			if impl.BookSame(b, fullBook()) || impl.BookSame(fullBook(), b) {
				t.Errorf("set %d: %s", i, name)
			}
		}
		b := fullBook()
		b.Sets = slices.Delete(b.Sets, i, i+1)
		if impl.BookSame(b, fullBook()) || impl.BookSame(fullBook(), b) {
			t.Errorf("without set %d", i)
		}
	}
	turned := fullBook()
	slices.Reverse(turned.Sets)
	if impl.BookSame(turned, fullBook()) {
		t.Error("in another order")
	}
}

// doneCase is an operation that is performed, and the book that it leads to.
type doneCase struct {
	name string
	b    impl.Book
	op   impl.BookOp
	want impl.Book
}

// newSetCases is operations that create a set at each place of the order.
func newSetCases() []doneCase {
	base := bookOf(snapshot("f", "m", "p", "q"), volume("m", "", "one", "", "three"))
	f, m := base.Sets[0], base.Sets[1]
	return []doneCase{
		{"make in an empty book", impl.Book{}, impl.BookOp{Kind: impl.BookMakes, A: "v"}, bookOf(volume("v", ""))},
		{"make with other fields", impl.Book{}, impl.BookOp{Kind: impl.BookMakes, A: "v", B: "V V", I: -9, Text: longestText() + "o"}, bookOf(volume("v", ""))},
		{"make first", base, impl.BookOp{Kind: impl.BookMakes, A: "a"}, bookOf(volume("a", ""), f, m)},
		{"make between", base, impl.BookOp{Kind: impl.BookMakes, A: "g"}, bookOf(f, volume("g", ""), m)},
		{"make last", base, impl.BookOp{Kind: impl.BookMakes, A: "mm"}, bookOf(f, m, volume("mm", ""))},
		{"make with six letters", base, impl.BookOp{Kind: impl.BookMakes, A: "zzzzzz"}, bookOf(f, m, volume("zzzzzz", ""))},
		{"make the last set", smallBook(), impl.BookOp{Kind: impl.BookMakes, A: "y"}, bookOf(append(smallBook().Sets, volume("y", ""))...)},
		{"snap first", base, impl.BookOp{Kind: impl.BookSnaps, A: "m", B: "a"}, bookOf(snapshot("a", "m", "one", "", "three"), f, m)},
		{"snap last", base, impl.BookOp{Kind: impl.BookSnaps, A: "m", B: "n", I: 99, Text: longestText() + "o"}, bookOf(f, m, snapshot("n", "m", "one", "", "three"))},
		{"snap a clone", smallBook(), impl.BookOp{Kind: impl.BookSnaps, A: "c", B: "y"}, bookOf(append(smallBook().Sets, snapshot("y", "c", "one", "two", "clone"))...)},
		{"snap the last set", smallBook(), impl.BookOp{Kind: impl.BookSnaps, A: "v", B: "y"}, bookOf(append(smallBook().Sets, snapshot("y", "v", "one", "new", "", "last"))...)},
		{"clone first", base, impl.BookOp{Kind: impl.BookClones, A: "f", B: "a"}, bookOf(volume("a", "f", "p", "q"), f, m)},
		{"clone last", base, impl.BookOp{Kind: impl.BookClones, A: "f", B: "n", I: -1, Text: longestText() + "o"}, bookOf(f, m, volume("n", "f", "p", "q"))},
		{"clone once more", smallBook(), impl.BookOp{Kind: impl.BookClones, A: "s", B: "y"}, bookOf(append(smallBook().Sets, volume("y", "s", "one", "two"))...)},
	}
}

// changeCases is operations that change or remove a set.
func changeCases() []doneCase {
	full := fullBook()
	longest := longestText()
	rest := bookOf(full.Sets[1:]...)
	last := setOf("w", impl.BookVolume, "", "other")
	last.Blocks[impl.BookBlocks-1] = "x"
	return []doneCase{
		{"kill a clone", full, impl.BookOp{Kind: impl.BookKills, A: "c"}, rest},
		{"kill with other fields", full, impl.BookOp{Kind: impl.BookKills, A: "c", B: "none", I: 8, Text: longest + "o"}, rest},
		{"kill a snapshot", rest, impl.BookOp{Kind: impl.BookKills, A: "s"}, bookOf(full.Sets[2:]...)},
		{"kill a volume", bookOf(full.Sets[2:]...), impl.BookOp{Kind: impl.BookKills, A: "v"}, bookOf(full.Sets[3:]...)},
		{"kill the last set", bookOf(volume("v", "", "one")), impl.BookOp{Kind: impl.BookKills, A: "v"}, impl.Book{}},
		{"put into block 0", full, impl.BookOp{Kind: impl.BookPuts, A: "w", I: 0, Text: "x"}, with(full, volume("w", "", "x"))},
		{"put into the last block", full, impl.BookOp{Kind: impl.BookPuts, A: "w", I: impl.BookBlocks - 1, Text: "x"}, with(full, last)},
		{"put into a clone", full, impl.BookOp{Kind: impl.BookPuts, A: "c", I: 1, Text: "x"}, with(full, volume("c", "s", "one", "x", "clone"))},
		{"put into a volume with a snapshot", full, impl.BookOp{Kind: impl.BookPuts, A: "v", I: 1, Text: "\x00\xff"}, with(full, volume("v", "", "one", "\x00\xff", "", "last"))},
		{"put nothing", full, impl.BookOp{Kind: impl.BookPuts, A: "w"}, with(full, volume("w", ""))},
		{"put the longest text", full, impl.BookOp{Kind: impl.BookPuts, A: "w", Text: longest}, with(full, volume("w", "", longest))},
		{"put what is there", full, impl.BookOp{Kind: impl.BookPuts, A: "w", Text: "other"}, full},
		{"put with a B", full, impl.BookOp{Kind: impl.BookPuts, A: "w", B: "x", Text: "y"}, with(full, volume("w", "", "y"))},
		{"reset a volume", full, impl.BookOp{Kind: impl.BookGoes, A: "v", B: "s"}, with(full, volume("v", "", "one", "two"))},
		{"reset the other volume", full, impl.BookOp{Kind: impl.BookGoes, A: "w", B: "x"}, with(full, volume("w", "", "past"))},
		{"reset with other fields", full, impl.BookOp{Kind: impl.BookGoes, A: "w", B: "x", I: 8, Text: longest + "o"}, with(full, volume("w", "", "past"))},
		{"reset a clone", bookOf(volume("c", "s", "x"), snapshot("s", "v"), snapshot("t", "c", "y"), volume("v", "")),
			impl.BookOp{Kind: impl.BookGoes, A: "c", B: "t"},
			bookOf(volume("c", "s", "y"), snapshot("s", "v"), snapshot("t", "c", "y"), volume("v", ""))},
	}
}

func TestBookDoes(t *testing.T) {
	for _, c := range append(newSetCases(), changeCases()...) {
		if x, code := impl.BookDo(c.b, c.op); code != impl.BookDone || !sameBook(x, c.want) {
			t.Errorf("%s: %d %v", c.name, code, x)
		}
	}
}

// refusal is an operation that is refused in fullBook, with its code.
type refusal struct {
	op   impl.BookOp
	code int
}

// newSetRefusals is, for a new set that the fields would give, the codes of its name in fullBook.
func newSetRefusals(op func(name string) impl.BookOp) []refusal {
	list := []refusal{{op("y"), impl.BookFull}, {op("abcdef"), impl.BookFull}}
	for _, set := range fullBook().Sets {
		list = append(list, refusal{op(set.Name), impl.BookThere})
	}
	for _, name := range badNames() {
		list = append(list, refusal{op(name), impl.BookForm})
	}
	return list
}

// putRefusals is writes that are refused in fullBook.
func putRefusals() []refusal {
	over := longestText() + "o"
	var list []refusal
	for _, set := range []string{"v", "c", "s"} {
		for _, i := range []int{-1, impl.BookBlocks, impl.BookBlocks + 1, math.MinInt, math.MaxInt} {
			list = append(list, refusal{impl.BookOp{Kind: impl.BookPuts, A: set, I: i, Text: "x"}, impl.BookForm})
			list = append(list, refusal{impl.BookOp{Kind: impl.BookPuts, A: set, I: i, Text: over}, impl.BookForm})
		}
		for i := range impl.BookBlocks {
			list = append(list, refusal{impl.BookOp{Kind: impl.BookPuts, A: set, I: i, Text: over}, impl.BookForm})
		}
		list = append(list, refusal{impl.BookOp{Kind: impl.BookPuts, A: set, Text: strings.Repeat("x", 5000)}, impl.BookForm})
	}
	for i := range impl.BookBlocks {
		list = append(list, refusal{impl.BookOp{Kind: impl.BookPuts, A: "s", I: i, Text: "x"}, impl.BookKind})
	}
	list = append(list, refusal{impl.BookOp{Kind: impl.BookPuts, A: "s", Text: "one"}, impl.BookKind})
	list = append(list, refusal{impl.BookOp{Kind: impl.BookPuts, A: "x", Text: longestText()}, impl.BookKind})
	return list
}

// setRefusals is operations that are refused in fullBook for the sets that they name, or for their kind.
func setRefusals() []refusal {
	var list []refusal
	for _, kind := range []int{0, -1, 7, 8, math.MinInt, math.MaxInt} {
		for _, a := range []string{"v", "s", "none", "", "V"} {
			list = append(list, refusal{impl.BookOp{Kind: kind, A: a, B: "s", Text: "x"}, impl.BookForm})
		}
	}
	for _, a := range append(badNames(), "a", "y", "vv", "none") {
		for _, b := range []string{"y", "s", "", "V"} {
			for kind := impl.BookKills; kind <= impl.BookGoes; kind++ {
				list = append(list, refusal{impl.BookOp{Kind: kind, A: a, B: b, I: -1, Text: longestText() + "o"}, impl.BookNone})
			}
		}
	}
	for _, a := range []string{"s", "v", "w", "x"} {
		list = append(list, refusal{impl.BookOp{Kind: impl.BookKills, A: a}, impl.BookBusy})
	}
	for _, b := range append(badNames(), "v", "s", "y") {
		list = append(list, refusal{impl.BookOp{Kind: impl.BookSnaps, A: "s", B: b}, impl.BookKind})
		list = append(list, refusal{impl.BookOp{Kind: impl.BookClones, A: "v", B: b}, impl.BookKind})
		list = append(list, refusal{impl.BookOp{Kind: impl.BookClones, A: "c", B: b}, impl.BookKind})
	}
	return list
}

// resetRefusals is every reset that is refused in fullBook.
func resetRefusals() []refusal {
	var list []refusal
	for _, a := range fullBook().Sets {
		for _, b := range append(badNames(), "a", "y", "vv", "none") {
			list = append(list, refusal{impl.BookOp{Kind: impl.BookGoes, A: a.Name, B: b}, impl.BookNone})
		}
		for _, b := range fullBook().Sets {
			if a.Name == "v" && b.Name == "s" || a.Name == "w" && b.Name == "x" {
				continue
			}
			list = append(list, refusal{impl.BookOp{Kind: impl.BookGoes, A: a.Name, B: b.Name}, impl.BookKind})
		}
	}
	return list
}

// refusals is operations that are refused in fullBook.
func refusals() []refusal {
	return slices.Concat(putRefusals(), setRefusals(), resetRefusals(),
		newSetRefusals(func(name string) impl.BookOp { return impl.BookOp{Kind: impl.BookMakes, A: name, B: "y"} }),
		newSetRefusals(func(name string) impl.BookOp { return impl.BookOp{Kind: impl.BookSnaps, A: "v", B: name} }),
		newSetRefusals(func(name string) impl.BookOp { return impl.BookOp{Kind: impl.BookSnaps, A: "c", B: name} }),
		newSetRefusals(func(name string) impl.BookOp { return impl.BookOp{Kind: impl.BookClones, A: "s", B: name} }))
}

// Promise 4: a refused operation changes nothing. Each has the first of the codes that apply.
func TestBookRefuses(t *testing.T) {
	for _, c := range refusals() {
		b := fullBook()
		x, code := impl.BookDo(b, c.op)
		if code != c.code || !sameBook(x, fullBook()) || !sameBook(b, fullBook()) {
			t.Errorf("%.200q: %d, not %d: %v", c.op.A+" "+c.op.B, code, c.code, x)
			t.Errorf("kind %d, block %d, %d bytes", c.op.Kind, c.op.I, len(c.op.Text))
		}
	}
}

// The codes of a new set are the same below BookMaxSets sets, up to the last one.
func TestBookRefusesNamesBelowTheMostSets(t *testing.T) {
	b := smallBook()
	for kind, a := range map[int]string{impl.BookSnaps: "v", impl.BookClones: "s"} {
		for _, name := range badNames() {
			if x, code := impl.BookDo(b, impl.BookOp{Kind: kind, A: a, B: name}); code != impl.BookForm || !sameBook(x, b) {
				t.Errorf("kind %d, %.20q: %d %v", kind, name, code, x)
			}
		}
		for _, set := range b.Sets {
			if x, code := impl.BookDo(b, impl.BookOp{Kind: kind, A: a, B: set.Name}); code != impl.BookThere || !sameBook(x, b) {
				t.Errorf("kind %d, %q: %d %v", kind, set.Name, code, x)
			}
		}
	}
	for _, name := range badNames() {
		if x, code := impl.BookDo(b, impl.BookOp{Kind: impl.BookMakes, A: name}); code != impl.BookForm || !sameBook(x, b) {
			t.Errorf("make %.20q: %d %v", name, code, x)
		}
	}
	for _, set := range b.Sets {
		if x, code := impl.BookDo(b, impl.BookOp{Kind: impl.BookMakes, A: set.Name}); code != impl.BookThere || !sameBook(x, b) {
			t.Errorf("make %q: %d %v", set.Name, code, x)
		}
	}
}

// An empty book has no set to do anything with.
func TestBookDoOfAnEmptyBook(t *testing.T) {
	for kind := impl.BookKills; kind <= impl.BookGoes; kind++ {
		if x, code := impl.BookDo(impl.Book{}, impl.BookOp{Kind: kind}); code != impl.BookNone || len(x.Sets) != 0 {
			t.Errorf("kind %d: %d %v", kind, code, x)
		}
	}
	if x, code := impl.BookDo(impl.Book{}, impl.BookOp{}); code != impl.BookForm || len(x.Sets) != 0 {
		t.Error(code, x)
	}
}

func TestBookGet(t *testing.T) {
	b := fullBook()
	for _, set := range b.Sets {
		for i, want := range set.Blocks {
			if text, code := impl.BookGet(b, set.Name, i); text != want || code != impl.BookDone {
				t.Errorf("%s %d: %q %d", set.Name, i, text, code)
			}
		}
	}
	for _, name := range append(badNames(), "a", "y", "none", "v", "s") {
		for _, i := range []int{-1, impl.BookBlocks, impl.BookBlocks + 1, math.MinInt, math.MaxInt} {
			if text, code := impl.BookGet(b, name, i); text != "" || code != impl.BookForm {
				t.Errorf("%.20q %d: %q %d", name, i, text, code)
			}
		}
	}
	for _, name := range append(badNames(), "a", "y", "vv", "none") {
		for _, i := range []int{0, impl.BookBlocks - 1} {
			if text, code := impl.BookGet(b, name, i); text != "" || code != impl.BookNone {
				t.Errorf("%.20q %d: %q %d", name, i, text, code)
			}
		}
	}
	if text, code := impl.BookGet(impl.Book{}, "v", 0); text != "" || code != impl.BookNone {
		t.Error("an empty book:", text, code)
	}
}

func TestBookTexts(t *testing.T) {
	last := volume("v", "")
	last.Blocks[impl.BookBlocks-1] = "last"
	full := volume("v", "", "h", "g", "f", "e", "d", "c", "b", "a")
	for name, c := range map[string]struct {
		b    impl.Book
		want []string
	}{
		"zero value":         {impl.Book{}, nil},
		"empty blocks":       {bookOf(volume("v", ""), volume("w", "")), nil},
		"one text":           {bookOf(volume("v", "", "", "x")), []string{"x"}},
		"last block":         {bookOf(last), []string{"last"}},
		"descending":         {bookOf(full), []string{"a", "b", "c", "d", "e", "f", "g", "h"}},
		"twice in a set":     {bookOf(volume("v", "", "x", "a", "x", "", "x")), []string{"a", "x"}},
		"in several sets":    {bookOf(snapshot("s", "v", "x", "b"), volume("v", "", "b", "x"), volume("w", "", "x")), []string{"b", "x"}},
		"byte order":         {bookOf(volume("v", "", "b", "\xff", "a", "B", "\x00", "ab", "aa", "\xc3\xa4")), []string{"\x00", "B", "a", "aa", "ab", "b", "\xc3\xa4", "\xff"}},
		"only in a snapshot": {bookOf(snapshot("s", "v", "old"), volume("v", "")), []string{"old"}},
		"full":               {fullBook(), []string{"clone", "end", "last", "new", "one", "other", "past", "two"}},
		"longest":            {bookOf(volume("v", "", longestText())), []string{longestText()}},
	} {
		if list := impl.BookTexts(c.b); !slices.Equal(list, c.want) {
			t.Errorf("%s: %q", name, list)
		}
	}
}

// As many texts as there are blocks at most are all told.
func TestBookTextsOfAllBlocks(t *testing.T) {
	b := fullBook()
	var want []string
	for i := range b.Sets {
		for k := range b.Sets[i].Blocks {
			text := string([]byte{byte('z' - i), byte('9' - k)})
			b.Sets[i].Blocks[k] = text
			want = append(want, text)
		}
	}
	slices.Sort(want)
	if list := impl.BookTexts(b); len(list) != impl.BookMaxSets*impl.BookBlocks || !slices.Equal(list, want) {
		t.Error(list)
	}
}

// filled is a copy of the book in which no set has only empty blocks, so that there is something to tell of it.
func filled(b impl.Book) impl.Book {
	b = ownBook(b)
	for i := range b.Sets {
		b.Sets[i].Blocks[0] += "x"
	}
	return b
}

func TestBooksThatAreNotValid(t *testing.T) {
	for name, b := range badBooks() {
		b = filled(b)
		for kind := -1; kind <= 7; kind++ {
			for _, op := range []impl.BookOp{{Kind: kind}, {Kind: kind, A: "v", B: "s"}, {Kind: kind, A: "n", B: "o"}, {Kind: kind, A: "s", B: "n", I: 8}, {Kind: kind, A: "V"}} {
				if x, code := impl.BookDo(b, op); len(x.Sets) != 0 || code != impl.BookForm {
					t.Errorf("%s, %+v: %d %v", name, op, code, x)
				}
			}
		}
		for _, set := range []string{"v", "s", "a", "none", ""} {
			for _, i := range []int{0, impl.BookBlocks - 1, -1, impl.BookBlocks} {
				if text, code := impl.BookGet(b, set, i); text != "" || code != impl.BookForm {
					t.Errorf("%s, %q %d: %q %d", name, set, i, text, code)
				}
			}
		}
		if list := impl.BookTexts(b); len(list) != 0 {
			t.Errorf("%s: %q", name, list)
		}
	}
}

// setNamed is the set of that name, and whether there is one.
func setNamed(b impl.Book, name string) (impl.BookSet, bool) {
	i := slices.IndexFunc(b.Sets, func(set impl.BookSet) bool { return set.Name == name })
	if i < 0 {
		return impl.BookSet{}, false
	}
	return b.Sets[i], true
}

// validByHand says whether a book is valid, by a way of its own: the sets that lead to a volume without From are gathered, starting there.
func validByHand(b impl.Book) bool {
	var led []string
	for range b.Sets {
		for _, set := range b.Sets {
			from, there := setNamed(b, set.From)
			root := set.Kind == impl.BookVolume && set.From == ""
			if root || there && slices.Contains(led, set.From) && from.Kind+set.Kind == impl.BookVolume+impl.BookSnapshot {
				led = append(led, set.Name)
			}
		}
	}
	for i, set := range b.Sets {
		long := slices.ContainsFunc(set.Blocks[:], func(text string) bool { return len(text) > impl.BookMaxText })
		kind := set.Kind == impl.BookVolume || set.Kind == impl.BookSnapshot
		if long || !kind || !impl.BookName(set.Name) || !slices.Contains(led, set.Name) || i > 0 && b.Sets[i-1].Name >= set.Name {
			return false
		}
	}
	return len(b.Sets) <= impl.BookMaxSets
}

// Every way in which three sets can come from each other, or from none.
func TestBookOkOfEveryThreeSets(t *testing.T) {
	froms := []string{"", "a", "b", "c", "d"}
	n, valid := 2*len(froms), 0
	for k := range n * n * n {
		b := bookOf()
		for _, name := range froms[1:4] {
			b.Sets = append(b.Sets, setOf(name, 1+k%2, froms[k/2%len(froms)]))
			k /= n
		}
		if impl.BookOk(b) != validByHand(b) {
			t.Errorf("%v: %v", b, impl.BookOk(b))
		}
		if impl.BookOk(b) {
			valid++
		}
	}
	// Three volumes; a snapshot beside a volume (3 names of it, 2 origins); two snapshots of one volume; and a line of three.
	if valid != 1+6+3+6 {
		t.Error(valid)
	}
}

// someOp is an operation, most of the time on names that are or may be there.
func someOp(r *rand.Rand, b impl.Book) impl.BookOp {
	names := []string{"a", "b", "c", "d", "e", "f", "g", "zzzzzz", "", "V", "abcdefg"}
	pick := func() string {
		if len(b.Sets) > 0 && r.IntN(3) > 0 {
			return b.Sets[r.IntN(len(b.Sets))].Name
		}
		return names[r.IntN(len(names))]
	}
	// Few sets are removed, so that the book is full at times.
	kinds := []int{0, impl.BookKills, impl.BookPuts, impl.BookPuts, impl.BookPuts, impl.BookGoes, impl.BookGoes, 7}
	for _, kind := range []int{impl.BookMakes, impl.BookSnaps, impl.BookClones} {
		kinds = append(kinds, kind, kind, kind)
	}
	i, text := r.IntN(impl.BookBlocks+2)-1, someText(r, r.IntN(impl.BookMaxText+2))
	return impl.BookOp{Kind: kinds[r.IntN(len(kinds))], A: pick(), B: pick(), I: i, Text: text}
}

// changedByHand is the name of the only set that an operation may create, remove or change.
func changedByHand(op impl.BookOp) string {
	if op.Kind == impl.BookSnaps || op.Kind == impl.BookClones {
		return op.B
	}
	return op.A
}

// without is the sets but the one of that name.
func without(b impl.Book, name string) []impl.BookSet {
	return slices.DeleteFunc(slices.Clone(b.Sets), func(set impl.BookSet) bool { return set.Name == name })
}

// Promise 4: every operation leaves a valid book valid, and a refused one changes nothing; one that is performed changes one set.
func TestOperationsLeaveBooksValid(t *testing.T) {
	r := rand.New(rand.NewPCG(4, 4))
	seen := map[[2]int]int{}
	for range 200 {
		b := impl.Book{}
		for range 150 {
			op := someOp(r, b)
			old := ownBook(b)
			x, code := impl.BookDo(b, op)
			seen[[2]int{op.Kind, code}]++
			if !impl.BookOk(x) || !validByHand(x) || !sameBook(b, old) {
				t.Fatalf("%#v leads from %#v to %#v", op, old, x)
			}
			if code != impl.BookDone && !sameBook(x, old) {
				t.Fatalf("%#v, refused with %d, leads from %#v to %#v", op, code, old, x)
			}
			if name := changedByHand(op); !slices.Equal(without(x, name), without(old, name)) {
				t.Fatalf("%#v leads from %#v to %#v", op, old, x)
			}
			if again, c := impl.BookDo(b, op); c != code || !sameBook(again, x) {
				t.Fatalf("%#v has two results: %#v and %#v", op, x, again)
			}
			b = x
		}
	}
	// Each code of each kind of operation has come up.
	for kind, codes := range [][]int{
		{impl.BookForm},
		{impl.BookDone, impl.BookForm, impl.BookThere, impl.BookFull},
		{impl.BookDone, impl.BookNone, impl.BookBusy},
		{impl.BookDone, impl.BookNone, impl.BookForm, impl.BookKind},
		{impl.BookDone, impl.BookNone, impl.BookKind, impl.BookForm, impl.BookThere, impl.BookFull},
		{impl.BookDone, impl.BookNone, impl.BookKind, impl.BookForm, impl.BookThere, impl.BookFull},
		{impl.BookDone, impl.BookNone, impl.BookKind},
		{impl.BookForm},
	} {
		for code := range 10 {
			if (seen[[2]int{kind, code}] > 0) != slices.Contains(codes, code) {
				t.Errorf("kind %d, code %d: %d times", kind, code, seen[[2]int{kind, code}])
			}
		}
	}
}

// Promise 5: a snapshot never changes, whatever is done with the other sets, as long as it is there.
func TestSnapshotsNeverChange(t *testing.T) {
	r := rand.New(rand.NewPCG(5, 1))
	for range 200 {
		b := impl.Book{}
		for range 150 {
			op := someOp(r, b)
			x, _ := impl.BookDo(b, op)
			for _, set := range b.Sets {
				if set.Kind != impl.BookSnapshot || op.Kind == impl.BookKills && op.A == set.Name {
					continue
				}
				if now, ok := setNamed(x, set.Name); !ok || now != set {
					t.Fatalf("%#v changes %#v to %#v", op, set, now)
				}
			}
			b = x
		}
	}
}

// Promise 5: a snapshot starts as its volume, a clone as its snapshot, and a volume that is reset equals its snapshot.
func TestBlocksOfNewAndResetSets(t *testing.T) {
	r := rand.New(rand.NewPCG(5, 2))
	resets := 0
	for range 200 {
		b := impl.Book{}
		for range 150 {
			op := someOp(r, b)
			x, code := impl.BookDo(b, op)
			first, _ := setNamed(x, op.A)
			second, _ := setNamed(x, op.B)
			copies := op.Kind == impl.BookSnaps || op.Kind == impl.BookClones || op.Kind == impl.BookGoes
			if code == impl.BookDone && copies && first.Blocks != second.Blocks {
				t.Fatalf("%#v leads from %#v to %#v", op, b, x)
			}
			if code == impl.BookDone && op.Kind == impl.BookGoes {
				resets++
			}
			b = x
		}
	}
	if resets == 0 {
		t.Error("no volume was reset")
	}
}

// Promise 5: a clone, its snapshot and its volume change independently.
func TestClonesChangeIndependently(t *testing.T) {
	b := bookOf(snapshot("s", "v", "one", "two"), volume("v", "", "one", "new"))
	do := func(op impl.BookOp) {
		t.Helper()
		x, code := impl.BookDo(b, op)
		if code != impl.BookDone {
			t.Fatalf("%+v: %d", op, code)
		}
		b = x
	}
	is := func(name string, texts ...string) {
		t.Helper()
		set, _ := setNamed(b, name)
		if set.Blocks != volume(name, "", texts...).Blocks {
			t.Errorf("%s: %q", name, set.Blocks)
		}
	}
	do(impl.BookOp{Kind: impl.BookClones, A: "s", B: "c"})
	do(impl.BookOp{Kind: impl.BookClones, A: "s", B: "d"})
	is("c", "one", "two")
	is("d", "one", "two")
	do(impl.BookOp{Kind: impl.BookPuts, A: "c", I: 0, Text: "of c"})
	do(impl.BookOp{Kind: impl.BookPuts, A: "v", I: 2, Text: "of v"})
	is("c", "of c", "two")
	is("d", "one", "two")
	is("s", "one", "two")
	is("v", "one", "new", "of v")
	do(impl.BookOp{Kind: impl.BookSnaps, A: "c", B: "t"})
	do(impl.BookOp{Kind: impl.BookPuts, A: "c", I: 1, Text: ""})
	is("t", "of c", "two")
	is("c", "of c")
	do(impl.BookOp{Kind: impl.BookGoes, A: "v", B: "s"})
	is("v", "one", "two")
	is("c", "of c")
	do(impl.BookOp{Kind: impl.BookGoes, A: "c", B: "t"})
	is("c", "of c", "two")
	do(impl.BookOp{Kind: impl.BookPuts, A: "c", I: 1, Text: "after"})
	is("t", "of c", "two")
	do(impl.BookOp{Kind: impl.BookPuts, A: "v", I: 1, Text: "after"})
	is("s", "one", "two")
	is("d", "one", "two")
}

// spoilSets overwrites a list, its unused capacity included.
func spoilSets(sets []impl.BookSet) {
	sets = sets[:cap(sets)]
	for i := range sets {
		sets[i] = volume("spoilt", "spoilt", "spoilt")
	}
}

// roomySets is the sets of smallBook with unused capacity behind them that is in use elsewhere, and the whole of it.
func roomySets() (b impl.Book, room []impl.BookSet) {
	room = append(smallBook().Sets, volume("k", "", "kept"), volume("l", "", "kept"))
	return bookOf(room[:5]...), room
}

// An operation, performed or refused, leaves its argument and what is behind it, and its result has memory of its own.
func TestBooksShareNoMemory(t *testing.T) {
	for name, op := range map[string]impl.BookOp{
		"make":            {Kind: impl.BookMakes, A: "y"},
		"make first":      {Kind: impl.BookMakes, A: "a"},
		"kill":            {Kind: impl.BookKills, A: "c"},
		"put":             {Kind: impl.BookPuts, A: "v", I: 1, Text: "x"},
		"put what is put": {Kind: impl.BookPuts, A: "w", I: 0, Text: "other"},
		"snap":            {Kind: impl.BookSnaps, A: "v", B: "y"},
		"clone":           {Kind: impl.BookClones, A: "s", B: "b"},
		"reset":           {Kind: impl.BookGoes, A: "v", B: "s"},
		"there":           {Kind: impl.BookMakes, A: "v"},
		"none":            {Kind: impl.BookKills, A: "none"},
		"busy":            {Kind: impl.BookKills, A: "s"},
		"refused block":   {Kind: impl.BookPuts, A: "v", I: 8},
		"refused kind":    {Kind: 7},
	} {
		b, room := roomySets()
		x, _ := impl.BookDo(b, op)
		other, _ := impl.BookDo(b, op)
		want := ownBook(other)
		spoilSets(x.Sets)
		if _, fresh := roomySets(); !slices.Equal(room, fresh) {
			t.Errorf("%s: the argument has changed: %v", name, room)
		}
		spoilSets(b.Sets)
		if !sameBook(other, want) {
			t.Errorf("%s: the result has changed: %v", name, other)
		}
	}
}

// What is told of a book leaves it, and is a list of its own.
func TestTextsShareNoMemory(t *testing.T) {
	b, room := roomySets()
	list, other := impl.BookTexts(b), impl.BookTexts(b)
	want := slices.Clone(other)
	for i := range list[:cap(list)] {
		list[:cap(list)][i] = "spoilt"
	}
	impl.BookOk(b)
	impl.BookSame(b, b)
	impl.BookGet(b, "v", 0)
	if _, fresh := roomySets(); !slices.Equal(room, fresh) || !slices.Equal(other, want) {
		t.Error(room, other)
	}
}
