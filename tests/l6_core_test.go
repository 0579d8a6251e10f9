package tests

import (
	"maps"
	"math"
	"math/rand/v2"
	"regexp"
	"slices"
	"strconv"
	"strings"
	"testing"
	"unsafe"

	"loop.example/palim/impl"
)

// mostParts is how many Parts a valid core has at most.
const mostParts = 8

// coreSet is a set without Home whose first pointers are these.
func coreSet(name string, kind int, from string, ptrs ...impl.Ptr) impl.CoreSet {
	set := impl.CoreSet{Name: name, Kind: kind, From: from}
	copy(set.Map[:], ptrs)
	return set
}

// coreVolume is a volume that comes from no other set.
func coreVolume(name string, ptrs ...impl.Ptr) impl.CoreSet {
	return coreSet(name, impl.BookVolume, "", ptrs...)
}

// homed is a set with this Home.
func homed(set impl.CoreSet, home impl.Ptr) impl.CoreSet {
	set.Home = home
	return set
}

// coreOf is a core of these sets, with the table that their pointers make.
func coreOf(sets ...impl.CoreSet) impl.Core {
	table := map[int]impl.DdtEntry{}
	for _, set := range sets {
		for _, p := range set.Map {
			if p.At != 0 {
				table[p.At] = entry(p.Sum, p.At, table[p.At].Count+1)
			}
		}
	}
	c := impl.Core{Sets: sets}
	for _, at := range slices.Sorted(maps.Keys(table)) {
		c.Ddt = append(c.Ddt, table[at])
	}
	return c
}

// sameCore compares two cores without the function under test.
func sameCore(a impl.Core, b impl.Core) bool {
	return a.Txg == b.Txg && a.Dirty == b.Dirty && a.LogN == b.LogN && slices.Equal(a.Sets, b.Sets) &&
		slices.Equal(a.Ddt, b.Ddt) && slices.Equal(a.Parts, b.Parts) && slices.Equal(a.Safe, b.Safe)
}

// ownCore is a copy that shares no list with the core.
func ownCore(c impl.Core) impl.Core {
	c.Sets, c.Ddt, c.Parts, c.Safe = slices.Clone(c.Sets), slices.Clone(c.Ddt), slices.Clone(c.Parts), slices.Clone(c.Safe)
	return c
}

// stored is a disk with the texts of a book, each once, and the core that points at them.
func stored(b impl.Book) (impl.Disk, impl.Core) {
	d := impl.DiskOpen(impl.DiskMaxAt)
	places := map[string]int{}
	var sets []impl.CoreSet
	for _, set := range b.Sets {
		kept := coreSet(set.Name, set.Kind, set.From)
		for i, text := range set.Blocks {
			if text == "" {
				continue
			}
			if places[text] == 0 {
				places[text] = impl.CoreFirst + len(places)
				d, _ = impl.BlkWrite(d, places[text], text)
			}
			kept.Map[i] = impl.BlkTo(places[text], text, 1+i)
		}
		sets = append(sets, kept)
	}
	return d, coreOf(sets...)
}

// smallCore is the core of smallBook with something in every field.
func smallCore() impl.Core {
	_, c := stored(smallBook())
	for i := range c.Sets {
		c.Sets[i].Home = ptr(40+i, 700+i, 5)
	}
	c.Sets[1].Dirty = true
	c.Txg, c.Dirty, c.LogN = 5, true, 3
	c.Parts = []impl.Ptr{ptr(50, 1, 4), ptr(51, 2, 5)}
	c.Safe = []int{13, 14, 17, 40, 50, 51}
	return c
}

// fullCore is as many sets as there may be, each with eight blocks that no other set has.
func fullCore() impl.Core {
	var sets []impl.CoreSet
	for i := range impl.BookMaxSets {
		set := coreVolume(string(rune('a' + i)))
		for k := range set.Map {
			at := impl.CoreFirst + 2*(impl.BookBlocks*i+k)
			set.Map[k] = ptr(at, 500+at, k)
		}
		sets = append(sets, homed(set, ptr(12+2*i, i, i)))
	}
	return coreOf(sets...)
}

// manyParts is n valid pointers.
func manyParts(n int) []impl.Ptr {
	var parts []impl.Ptr
	for i := range n {
		parts = append(parts, ptr(20+i, 3*i, 1))
	}
	return parts
}

// longestCore is a core whose root has as many bytes as a valid one can have.
func longestCore() impl.Core {
	longest := ptr(impl.DiskMaxAt-1, impl.SumMod-1, impl.BlkMaxBirth)
	sets := []impl.CoreSet{homed(coreVolume("aaaaaf"), longest)}
	for _, name := range []string{"bbbbbb", "cccccc", "dddddd", "eeeeee", "ffffff"} {
		sets = append(sets, homed(coreSet(name, impl.BookSnapshot, "aaaaaf"), longest))
	}
	c := coreOf(sets...)
	c.Parts = slices.Repeat([]impl.Ptr{longest}, mostParts)
	return c
}

// changed is smallCore after a change.
func changed(change func(c *impl.Core)) impl.Core {
	c := smallCore()
	change(&c)
	return c
}

// allSectors is all sectors of blocks.
func allSectors() []int {
	var safe []int
	for at := impl.CoreFirst; at < impl.DiskMaxAt; at++ {
		safe = append(safe, at)
	}
	return safe
}

// goodCores is valid cores, those at the limits among them.
func goodCores() map[string]impl.Core {
	p := ptr(13, 7, 1)
	eight := slices.Repeat([]impl.Ptr{p}, 8)
	cores := map[string]impl.Core{
		"zero value":           {},
		"empty lists":          {Sets: []impl.CoreSet{}, Ddt: []impl.DdtEntry{}, Parts: []impl.Ptr{}, Safe: []int{}},
		"small":                smallCore(),
		"full":                 fullCore(),
		"longest root":         longestCore(),
		"Txg 0":                changed(func(c *impl.Core) { c.Txg = 0 }),
		"greatest Txg":         changed(func(c *impl.Core) { c.Txg = impl.BlkMaxBirth }),
		"LogN 0":               changed(func(c *impl.Core) { c.LogN = 0 }),
		"greatest LogN":        changed(func(c *impl.Core) { c.LogN = impl.CoreLogs }),
		"no Parts":             changed(func(c *impl.Core) { c.Parts = nil }),
		"most Parts":           changed(func(c *impl.Core) { c.Parts = manyParts(mostParts) }),
		"equal Parts":          changed(func(c *impl.Core) { c.Parts = []impl.Ptr{p, p} }),
		"descending Parts":     changed(func(c *impl.Core) { c.Parts = []impl.Ptr{ptr(9, 1, 1), ptr(3, 0, 0)} }),
		"no Safe":              changed(func(c *impl.Core) { c.Safe = nil }),
		"first Safe":           changed(func(c *impl.Core) { c.Safe = []int{impl.CoreFirst} }),
		"last Safe":            changed(func(c *impl.Core) { c.Safe = []int{impl.DiskMaxAt - 1} }),
		"all Safe":             changed(func(c *impl.Core) { c.Safe = allSectors() }),
		"nothing dirty":        changed(func(c *impl.Core) { c.Dirty, c.Sets[1].Dirty = false, false }),
		"null Home":            changed(func(c *impl.Core) { c.Sets[0].Home = impl.Ptr{} }),
		"Home of another set":  changed(func(c *impl.Core) { c.Sets[0].Home = c.Sets[1].Home }),
		"Home at a block":      changed(func(c *impl.Core) { c.Sets[0].Home = p }),
		"one block everywhere": coreOf(coreSet("s", 2, "v", eight...), coreSet("t", 2, "v", eight...), coreVolume("v", eight...)),
		"another Birth":        coreOf(coreVolume("v", p, ptr(13, 7, 0), ptr(13, 7, impl.BlkMaxBirth))),
		"equal Sums":           coreOf(coreVolume("v", p, ptr(14, 7, 1))),
		"only the last block":  coreOf(coreVolume("v", append(make([]impl.Ptr, 7), p)...)),
		"least pointer":        coreOf(coreVolume("v", ptr(1, 0, 0))),
		"greatest pointer":     coreOf(coreVolume("v", ptr(impl.DiskMaxAt-1, impl.SumMod-1, impl.BlkMaxBirth))),
	}
	for name, b := range goodBooks() {
		_, cores["book: "+name] = stored(b)
	}
	return cores
}

// badFields is cores with a number, a part or a safe sector that is not allowed.
func badFields() map[string]impl.Core {
	cores := map[string]impl.Core{
		"one Part too many":    changed(func(c *impl.Core) { c.Parts = manyParts(mostParts + 1) }),
		"far too many Parts":   changed(func(c *impl.Core) { c.Parts = slices.Repeat(manyParts(5), 1000) }),
		"null Part":            changed(func(c *impl.Core) { c.Parts[1] = impl.Ptr{} }),
		"only a null Part":     changed(func(c *impl.Core) { c.Parts = []impl.Ptr{{}} }),
		"the last Part null":   changed(func(c *impl.Core) { c.Parts = append(manyParts(mostParts-1), impl.Ptr{}) }),
		"equal Safe":           changed(func(c *impl.Core) { c.Safe = []int{20, 20} }),
		"equal Safe at last":   changed(func(c *impl.Core) { c.Safe = []int{13, 14, 119, 119} }),
		"descending Safe":      changed(func(c *impl.Core) { c.Safe = []int{21, 20} }),
		"descending at last":   changed(func(c *impl.Core) { c.Safe = []int{13, 20, 21, 15} }),
		"Safe twice":           changed(func(c *impl.Core) { c.Safe = slices.Repeat(allSectors(), 2) }),
		"a Safe, then too far": changed(func(c *impl.Core) { c.Safe = append(allSectors(), impl.DiskMaxAt) }),
	}
	for _, n := range []int{-1, impl.BlkMaxBirth + 1, math.MinInt, math.MaxInt} {
		cores["Txg "+strconv.Itoa(n)] = changed(func(c *impl.Core) { c.Txg = n })
	}
	for _, n := range []int{-1, impl.CoreLogs + 1, math.MinInt, math.MaxInt} {
		cores["LogN "+strconv.Itoa(n)] = changed(func(c *impl.Core) { c.LogN = n })
	}
	for _, n := range []int{-1, 0, 1, impl.CoreLog, impl.CoreFirst - 1, impl.DiskMaxAt, math.MinInt, math.MaxInt} {
		cores["Safe "+strconv.Itoa(n)] = changed(func(c *impl.Core) { c.Safe = []int{n} })
	}
	for i, p := range badPtrs() {
		cores["Part that is not valid "+strconv.Itoa(i)] = changed(func(c *impl.Core) { c.Parts[i%2] = p })
	}
	for name, list := range badLists() {
		cores["table: "+name] = changed(func(c *impl.Core) { c.Ddt = list })
		cores["no set, table: "+name] = impl.Core{Ddt: list}
	}
	return cores
}

// badSets is sets of which no other condition than one on a single set is broken.
func badSets() map[string]impl.CoreSet {
	sets := map[string]impl.CoreSet{}
	for _, name := range badNames() {
		sets["name "+strconv.Quote(name)] = coreVolume(name)
		if name != "" {
			sets["From "+strconv.Quote(name)] = coreSet("s", impl.BookSnapshot, name)
		}
	}
	for _, kind := range []int{0, 3, -1, 12, math.MinInt, math.MaxInt} {
		sets["kind "+strconv.Itoa(kind)] = coreSet("v", kind, "")
	}
	for i, p := range badPtrs() {
		sets["Home "+strconv.Itoa(i)] = homed(coreVolume("v"), p)
		for k := range impl.BookBlocks {
			set := coreVolume("v")
			set.Map[k] = p
			sets["pointer "+strconv.Itoa(k)+": "+strconv.Itoa(i)] = set
		}
	}
	return sets
}

// badCounts is cores whose counts do not agree with the pointers.
func badCounts() map[string]impl.Core {
	p := ptr(13, 7, 1)
	cores := map[string]impl.Core{
		"an entry without pointers":     {Ddt: entries(entry(7, 13, 1))},
		"an entry more":                 changed(func(c *impl.Core) { c.Ddt = append(c.Ddt, entry(7, 119, 1)) }),
		"no table":                      changed(func(c *impl.Core) { c.Ddt = nil }),
		"entries without sets":          changed(func(c *impl.Core) { c.Sets = nil }),
		"a Home is not counted":         {Sets: []impl.CoreSet{homed(coreVolume("v"), p)}, Ddt: entries(entry(7, 13, 1))},
		"a Part is not counted":         {Parts: []impl.Ptr{p}, Ddt: entries(entry(7, 13, 1))},
		"two Sums at one At":            coreOf(coreVolume("v", p, ptr(13, 8, 1))),
		"two Sums at one At, two sets":  coreOf(coreVolume("v", p), coreVolume("w", ptr(13, 8, 1))),
		"two Sums, the first one":       {Sets: []impl.CoreSet{coreVolume("v", p, ptr(13, 8, 1))}, Ddt: entries(entry(7, 13, 2))},
		"two Sums, one of them counted": {Sets: []impl.CoreSet{coreVolume("v", p, ptr(13, 8, 1))}, Ddt: entries(entry(7, 13, 1))},
		"another set's pointer alone":   {Sets: []impl.CoreSet{coreVolume("v", p), coreVolume("w", p)}, Ddt: entries(entry(7, 13, 1))},
	}
	for i := range smallCore().Ddt {
		name := "entry " + strconv.Itoa(i)
		cores[name+": one more"] = changed(func(c *impl.Core) { c.Ddt[i].Count++ })
		cores[name+": one less"] = changed(func(c *impl.Core) { c.Ddt[i].Count-- })
		cores[name+": the most"] = changed(func(c *impl.Core) { c.Ddt[i].Count = mostCount })
		cores[name+": another Sum"] = changed(func(c *impl.Core) { c.Ddt[i].Sum++ })
		cores[name+": missing"] = changed(func(c *impl.Core) { c.Ddt = slices.Delete(c.Ddt, i, i+1) })
	}
	last := len(smallCore().Ddt) - 1
	cores["the last entry elsewhere"] = changed(func(c *impl.Core) { c.Ddt[last].At++ })
	for i, set := range smallCore().Sets {
		for k, p := range set.Map {
			name := "set " + strconv.Itoa(i) + ", block " + strconv.Itoa(k)
			cores[name+": no entry"] = changed(func(c *impl.Core) { c.Sets[i].Map[k] = ptr(90, 7, 1) })
			cores[name+": one pointer more or another one"] = changed(func(c *impl.Core) { c.Sets[i].Map[k] = c.Sets[3].Map[0] })
			cores[name+": a Sum of no entry"] = changed(func(c *impl.Core) { c.Sets[i].Map[k] = ptr(13, 9, 1) })
			if p.At != 0 {
				cores[name+": another Sum"] = changed(func(c *impl.Core) { c.Sets[i].Map[k].Sum++ })
				cores[name+": null"] = changed(func(c *impl.Core) { c.Sets[i].Map[k] = impl.Ptr{} })
			}
		}
	}
	// Where the replaced pointer is the same one, nothing is wrong.
	delete(cores, "set 3, block 0: one pointer more or another one")
	return cores
}

// setsOf is the sets of a book without pointers.
func setsOf(b impl.Book) []impl.CoreSet {
	var sets []impl.CoreSet
	for _, set := range b.Sets {
		sets = append(sets, coreSet(set.Name, set.Kind, set.From))
	}
	return sets
}

// shapelessBooks is books that are not valid, whatever their blocks are.
func shapelessBooks() map[string]impl.Book {
	books := badBooks()
	maps.DeleteFunc(books, func(_ string, b impl.Book) bool {
		return slices.ContainsFunc(b.Sets, func(set impl.BookSet) bool { return set.Blocks != [8]string{} })
	})
	return books
}

// badCores is cores that break one condition each.
func badCores() map[string]impl.Core {
	cores := badFields()
	maps.Copy(cores, badCounts())
	for name, set := range badSets() {
		cores["set with "+name] = impl.Core{Sets: []impl.CoreSet{set}}
		cores["among others, set with "+name] = coreOf(coreSet("a", 1, ""), set, coreVolume("z"))
	}
	for name, b := range shapelessBooks() {
		cores["book: "+name] = impl.Core{Sets: setsOf(b)}
	}
	return cores
}

func TestCoreLimits(t *testing.T) {
	places := []int{impl.CoreRing, impl.CoreSlots, impl.CoreLog, impl.CoreLogs, impl.CoreFirst, impl.CorePart}
	if !slices.Equal(places, []int{1, 4, 5, 8, 13, 6}) {
		t.Error(places)
	}
}

func TestCoreOk(t *testing.T) {
	for name, c := range goodCores() {
		if !impl.CoreOk(c) {
			t.Errorf("%s: not valid: %+v", name, c)
		}
	}
	for name, c := range badCores() {
		if impl.CoreOk(c) {
			t.Errorf("%s: valid: %+v", name, c)
		}
	}
}

// Each number is accepted from its least to its greatest value and no further.
func TestCoreOkLimits(t *testing.T) {
	for txg := -200; txg < impl.BlkMaxBirth+200; txg += 1 + max(0, min(txg-10, impl.BlkMaxBirth-10-txg)) {
		if impl.CoreOk(impl.Core{Txg: txg}) != (txg >= 0 && txg <= impl.BlkMaxBirth) {
			t.Error("Txg", txg)
		}
	}
	for n := -200; n < 200; n++ {
		if impl.CoreOk(impl.Core{LogN: n}) != (n >= 0 && n <= impl.CoreLogs) {
			t.Error("LogN", n)
		}
		if impl.CoreOk(impl.Core{Safe: []int{n}}) != (n >= impl.CoreFirst && n < impl.DiskMaxAt) {
			t.Error("Safe", n)
		}
	}
	for n := range 60 {
		if impl.CoreOk(impl.Core{Parts: manyParts(n)}) != (n <= mostParts) {
			t.Error(n, "Parts")
		}
	}
	for a := impl.CoreFirst; a < impl.DiskMaxAt; a++ {
		for b := impl.CoreFirst; b < impl.DiskMaxAt; b++ {
			if impl.CoreOk(impl.Core{Safe: []int{a, b}}) != (a < b) {
				t.Error("Safe", a, b)
			}
		}
	}
}

// The book of a valid core's sets is valid, and the sets of a book that is not are no valid core's.
func TestCoreOkOfBooks(t *testing.T) {
	for name, b := range goodBooks() {
		if !impl.CoreOk(impl.Core{Sets: setsOf(b)}) {
			t.Errorf("%s: not valid", name)
		}
	}
	books := shapelessBooks()
	if len(books) < 20 {
		t.Fatal(len(books))
	}
	for name, b := range books {
		if impl.CoreOk(impl.Core{Sets: setsOf(b)}) {
			t.Errorf("%s: valid", name)
		}
	}
}

// coreByHand says whether a core is valid, condition by condition as the document lists them.
func coreByHand(c impl.Core) bool {
	ok := c.Txg >= 0 && c.Txg <= impl.BlkMaxBirth && impl.DdtOk(c.Ddt) && len(c.Parts) <= mostParts && c.LogN >= 0 && c.LogN <= impl.CoreLogs
	for _, p := range c.Parts {
		ok = ok && impl.PtrOk(p) && p.At != 0
	}
	for i, at := range c.Safe {
		ok = ok && at >= 13 && at <= 119 && (i == 0 || at > c.Safe[i-1])
	}
	b, all := impl.Book{}, []impl.Ptr{}
	for _, set := range c.Sets {
		ok = ok && impl.PtrOk(set.Home) && (set.From == "" || impl.BookName(set.From))
		b.Sets = append(b.Sets, setOf(set.Name, set.Kind, set.From))
		all = append(all, set.Map[:]...)
	}
	for _, p := range all {
		ok = ok && impl.PtrOk(p) && (p.At == 0 || impl.DdtCount(c.Ddt, p.At) > 0)
	}
	for _, e := range c.Ddt {
		n := 0
		for _, p := range all {
			if p.At == e.At {
				n++
				ok = ok && p.Sum == e.Sum
			}
		}
		ok = ok && n == e.Count
	}
	return ok && validByHand(b)
}

// someChange changes a core a little, so that it may be valid or not.
func someChange(r *rand.Rand, c *impl.Core) {
	set := &c.Sets[r.IntN(len(c.Sets))]
	e := &c.Ddt[r.IntN(len(c.Ddt))]
	p := &set.Map[r.IntN(impl.BookBlocks)]
	names := []string{"", "a", "b", "c", "s", "v", "w", "x", "V"}
	switch r.IntN(14) {
	case 0:
		c.Txg = r.IntN(3) - 1
	case 1:
		c.LogN = r.IntN(12) - 1
	case 2:
		c.Safe[r.IntN(len(c.Safe))] += r.IntN(5) - 2
	case 3:
		c.Parts[r.IntN(len(c.Parts))].At = r.IntN(122)
	case 4:
		set.From = names[r.IntN(len(names))]
	case 5:
		set.Name = names[r.IntN(len(names))]
	case 6:
		set.Kind = r.IntN(4)
	case 7:
		set.Home.Sum = r.IntN(3) - 1
	case 8:
		e.Count += r.IntN(3) - 1
	case 9:
		*p = ptr(e.At, e.Sum, r.IntN(9))
	case 10:
		// The counts follow, so that the core remains as valid as it was.
		*p = ptr(e.At, e.Sum, r.IntN(9))
		c.Ddt = coreOf(c.Sets...).Ddt
	case 11:
		*p = impl.Ptr{}
		c.Ddt = coreOf(c.Sets...).Ddt
	case 12:
		*p = ptr(1+r.IntN(119), r.IntN(9), r.IntN(9))
		c.Ddt = coreOf(c.Sets...).Ddt
	case 13:
		p.Birth = r.IntN(4) - 1
	}
}

func TestCoreOkOfManyCores(t *testing.T) {
	r := rand.New(rand.NewPCG(6, 1))
	valid, small := 0, smallCore()
	for range 20000 {
		c := ownCore(small)
		for range 1 + r.IntN(3) {
			if len(c.Ddt) > 0 {
				someChange(r, &c)
			}
		}
		if impl.CoreOk(c) != coreByHand(c) {
			t.Fatalf("%v: %+v", impl.CoreOk(c), c)
		}
		if impl.CoreOk(c) {
			valid++
		}
	}
	if valid < 4000 || valid > 16000 {
		t.Error("valid ones:", valid)
	}
}

func TestCoreSame(t *testing.T) {
	cores := goodCores()
	for name, c := range badCores() {
		// Every tenth is enough, as all are held against all.
		if impl.SumOf(name)%10 == 0 {
			cores["not valid: "+name] = c
		}
	}
	for name, c := range cores {
		if !impl.CoreSame(c, ownCore(c)) {
			t.Error(name, "and itself")
		}
		for other, x := range cores {
			if impl.CoreSame(c, x) != sameCore(c, x) {
				t.Error(name, "and", other)
			}
		}
	}
	if !impl.CoreSame(goodCores()["zero value"], goodCores()["empty lists"]) {
		t.Error("nil lists and empty ones")
	}
}

// fieldChanges is changes of exactly one field each, whichever set, block, part or entry it is in.
func fieldChanges() map[string]func(c *impl.Core) {
	changes := map[string]func(c *impl.Core){
		"Txg":         func(c *impl.Core) { c.Txg++ },
		"Dirty":       func(c *impl.Core) { c.Dirty = !c.Dirty },
		"LogN":        func(c *impl.Core) { c.LogN-- },
		"no sets":     func(c *impl.Core) { c.Sets = nil },
		"a set less":  func(c *impl.Core) { c.Sets = c.Sets[:4] },
		"a set more":  func(c *impl.Core) { c.Sets = append(c.Sets, impl.CoreSet{}) },
		"sets turned": func(c *impl.Core) { slices.Reverse(c.Sets) },
		"no table":    func(c *impl.Core) { c.Ddt = nil },
		"an entry less": func(c *impl.Core) {
			c.Ddt = c.Ddt[:len(c.Ddt)-1]
		},
		"an entry more":  func(c *impl.Core) { c.Ddt = append(c.Ddt, impl.DdtEntry{}) },
		"entries turned": func(c *impl.Core) { slices.Reverse(c.Ddt) },
		"no Parts":       func(c *impl.Core) { c.Parts = nil },
		"a Part less":    func(c *impl.Core) { c.Parts = c.Parts[:1] },
		"a Part more":    func(c *impl.Core) { c.Parts = append(c.Parts, impl.Ptr{}) },
		"Parts turned":   func(c *impl.Core) { slices.Reverse(c.Parts) },
		"no Safe":        func(c *impl.Core) { c.Safe = nil },
		"a Safe less":    func(c *impl.Core) { c.Safe = c.Safe[:5] },
		"a Safe more":    func(c *impl.Core) { c.Safe = append(c.Safe, 0) },
		"Safe turned":    func(c *impl.Core) { slices.Reverse(c.Safe) },
	}
	ptrChanges := func(name string, at func(c *impl.Core) *impl.Ptr) {
		changes[name+" At"] = func(c *impl.Core) { at(c).At++ }
		changes[name+" Sum"] = func(c *impl.Core) { at(c).Sum++ }
		changes[name+" Birth"] = func(c *impl.Core) { at(c).Birth++ }
	}
	for i := range smallCore().Sets {
		set := "set " + strconv.Itoa(i)
		changes[set+" Name"] = func(c *impl.Core) { c.Sets[i].Name += "n" }
		changes[set+" Kind"] = func(c *impl.Core) { c.Sets[i].Kind = 3 - c.Sets[i].Kind }
		changes[set+" From"] = func(c *impl.Core) { c.Sets[i].From += "n" }
		changes[set+" Dirty"] = func(c *impl.Core) { c.Sets[i].Dirty = !c.Sets[i].Dirty }
		ptrChanges(set+" Home", func(c *impl.Core) *impl.Ptr { return &c.Sets[i].Home })
		for k := range impl.BookBlocks {
			ptrChanges(set+" pointer "+strconv.Itoa(k), func(c *impl.Core) *impl.Ptr { return &c.Sets[i].Map[k] })
		}
	}
	for i := range smallCore().Ddt {
		e := "entry " + strconv.Itoa(i)
		changes[e+" Sum"] = func(c *impl.Core) { c.Ddt[i].Sum++ }
		changes[e+" At"] = func(c *impl.Core) { c.Ddt[i].At++ }
		changes[e+" Count"] = func(c *impl.Core) { c.Ddt[i].Count++ }
	}
	for i := range smallCore().Parts {
		ptrChanges("Part "+strconv.Itoa(i), func(c *impl.Core) *impl.Ptr { return &c.Parts[i] })
	}
	for i := range smallCore().Safe {
		changes["Safe "+strconv.Itoa(i)] = func(c *impl.Core) { c.Safe[i]++ }
	}
	return changes
}

func TestCoreSameTellsEachField(t *testing.T) {
	for name, change := range fieldChanges() {
		c := changed(change)
		if impl.CoreSame(c, smallCore()) || impl.CoreSame(smallCore(), c) {
			t.Error(name)
		}
		if !impl.CoreSame(c, changed(change)) {
			t.Error("twice:", name)
		}
	}
}

// The shapes of texts, without the limits of their numbers.
const (
	numberShape = `(?:0|[1-9][0-9]{0,8})`
	blockShape  = `[1-9][0-9]{0,8}\.` + numberShape + `\.` + numberShape
	ptrShape    = `(?:-|` + blockShape + `)`
)

var (
	mapShape  = regexp.MustCompile(`\A` + ptrShape + `(?: ` + ptrShape + `){7}\z`)
	rootShape = regexp.MustCompile(`\Aroot((?:\n[a-z]{1,6} [12] (?:-|[a-z]{1,6}) ` + ptrShape + `)*)((?:\n\. ` + blockShape + `)*)\z`)
	uberShape = regexp.MustCompile(`\A` + numberShape + `:(` + numberShape + `) (` + blockShape + `) (` + numberShape + `)\z`)
)

// ptrByHand is the pointer of a text of that shape, and whether its numbers are within the limits.
func ptrByHand(text string) (impl.Ptr, bool) {
	if text == "-" {
		return impl.Ptr{}, true
	}
	var n [3]int
	for i, word := range strings.Split(text, ".") {
		n[i], _ = strconv.Atoi(word)
	}
	return ptr(n[0], n[1], n[2]), n[0] <= 119 && n[1] <= 65520 && n[2] <= 1000000
}

// mapByHand is the map of a text, and whether there is one.
func mapByHand(text string) (m [8]impl.Ptr, ok bool) {
	if !mapShape.MatchString(text) || len(text) > impl.SumMax {
		return m, false
	}
	for i, word := range strings.Split(text, " ") {
		if m[i], ok = ptrByHand(word); !ok {
			return [8]impl.Ptr{}, false
		}
	}
	return m, true
}

// rootByHand is the root of a text, and whether there is one.
func rootByHand(text string) (c impl.Core, ok bool) {
	pieces := rootShape.FindStringSubmatch(text)
	if pieces == nil || len(text) > impl.DiskMaxText {
		return c, false
	}
	var b impl.Book
	for _, line := range strings.Split(pieces[1], "\n")[1:] {
		words := strings.Split(line, " ")
		set := coreSet(words[0], int(words[1][0]-'0'), strings.Trim(words[2], "-"))
		if set.Home, ok = ptrByHand(words[3]); !ok {
			return impl.Core{}, false
		}
		c.Sets = append(c.Sets, set)
		b.Sets = append(b.Sets, setOf(set.Name, set.Kind, set.From))
	}
	for _, line := range strings.Split(pieces[2], "\n")[1:] {
		p, ok := ptrByHand(line[len(". "):])
		if !ok {
			return impl.Core{}, false
		}
		c.Parts = append(c.Parts, p)
	}
	if !validByHand(b) || len(c.Parts) > mostParts {
		return impl.Core{}, false
	}
	return c, true
}

// uberByHand is the commit and the root pointer of a ring record, and whether it is one.
func uberByHand(text string) (int, impl.Ptr, bool) {
	pieces := uberShape.FindStringSubmatch(text)
	if pieces == nil || text != sealedByHand(text[strings.Index(text, ":")+1:]) || pieces[1] != pieces[3] {
		return 0, impl.Ptr{}, false
	}
	txg, _ := strconv.Atoi(pieces[1])
	p, ok := ptrByHand(pieces[2])
	if !ok || txg < 1 || txg > impl.BlkMaxBirth {
		return 0, impl.Ptr{}, false
	}
	return txg, p, true
}

// readsMap fails unless a text is read as the map that it tells, or not at all if it tells none; it says whether it tells one.
func readsMap(t *testing.T, text string) bool {
	t.Helper()
	want, there := mapByHand(text)
	if m, ok := impl.CoreMapRead(text); ok != there || m != want {
		t.Errorf("CoreMapRead of %.90q: %v %v", text, m, ok)
	}
	return there
}

// readsRoot is readsMap for roots.
func readsRoot(t *testing.T, text string) bool {
	t.Helper()
	want, there := rootByHand(text)
	if c, ok := impl.CoreRootRead(text); ok != there || !sameCore(c, want) {
		t.Errorf("CoreRootRead of %.90q: %+v %v", text, c, ok)
	}
	return there
}

// readsUber is readsMap for ring records.
func readsUber(t *testing.T, text string) bool {
	t.Helper()
	want, wantRoot, there := uberByHand(text)
	if txg, root, ok := impl.CoreUberRead(text); ok != there || txg != want || root != wantRoot {
		t.Errorf("CoreUberRead of %.90q: %d %v %v", text, txg, root, ok)
	}
	return there
}

// goodMaps is maps by their texts.
func goodMaps() map[string][8]impl.Ptr {
	longest := ptr(impl.DiskMaxAt-1, impl.SumMod-1, impl.BlkMaxBirth)
	return map[string][8]impl.Ptr{
		"- - - - - - - -":        {},
		"13.635.1 - - - - - - -": {ptr(13, 635, 1)},
		"- - - - - - - 1.0.0":    {7: ptr(1, 0, 0)},
		"- 13.635.1 - 13.635.1 - 14.0.1000000 - 119.65520.0":          {1: ptr(13, 635, 1), 3: ptr(13, 635, 1), 5: ptr(14, 0, impl.BlkMaxBirth), 7: ptr(119, 65520, 0)},
		"1.8.1 2.7.2 3.6.3 4.5.4 5.4.5 6.3.6 7.2.7 8.1.8":             {ptr(1, 8, 1), ptr(2, 7, 2), ptr(3, 6, 3), ptr(4, 5, 4), ptr(5, 4, 5), ptr(6, 3, 6), ptr(7, 2, 7), ptr(8, 1, 8)},
		strings.Repeat("119.65520.1000000 ", 7) + "119.65520.1000000": {longest, longest, longest, longest, longest, longest, longest, longest},
	}
}

func TestCoreMap(t *testing.T) {
	for text, m := range goodMaps() {
		if s := impl.CoreMap(m); s != text {
			t.Errorf("%v: %q", m, s)
		}
		for i := range m {
			for _, p := range badPtrs() {
				bad := m
				bad[i] = p
				if s := impl.CoreMap(bad); s != "" {
					t.Errorf("%v: %q", bad, s)
				}
			}
		}
	}
}

// somePtr is a valid pointer, and sometimes a null one.
func somePtr(r *rand.Rand) impl.Ptr {
	if r.IntN(4) == 0 {
		return impl.Ptr{}
	}
	return ptr(1+r.IntN(impl.DiskMaxAt-1), r.IntN(impl.SumMod), r.IntN(impl.BlkMaxBirth+1))
}

// Promise 8: maps are read back from their texts.
func TestCoreMapReadsWhatWasWritten(t *testing.T) {
	for text, m := range goodMaps() {
		if x, ok := impl.CoreMapRead(text); !ok || x != m {
			t.Errorf("%q: %v %v", text, x, ok)
		}
	}
	r := rand.New(rand.NewPCG(6, 8))
	for range 5000 {
		var m [8]impl.Ptr
		for i := range m {
			m[i] = somePtr(r)
		}
		if x, ok := impl.CoreMapRead(impl.CoreMap(m)); !ok || x != m || !readsMap(t, impl.CoreMap(m)) {
			t.Fatalf("%v: %v %v", m, x, ok)
		}
	}
}

// Promise 8: nothing else is read as a map.
func TestCoreMapReadRefusesOtherTexts(t *testing.T) {
	for _, text := range []string{
		"", " ", "-", "- ", "13.635.1", "-------", "--------", strings.Repeat(" ", 7), strings.Repeat(" ", 8), strings.Repeat("-", 15),
		"- - - - - - -", "- - - - - - - - -", " - - - - - - -", "- - - - - - - ", "- - - - - - - - ", " - - - - - - - -", "-  - - - - - - -", "- - - -  - - -",
		"-\n-\n-\n-\n-\n-\n-\n-", "-\t- - - - - - -", "- - - - - - - -\n", "\n- - - - - - - -", "- - - -\n- - - -", "- - - - - - - -\x00", "-,-,-,-,-,-,-,-",
		"0.0.0 - - - - - - -", "0.7.1 - - - - - - -", "- - - - - - - 0.0.0", "120.7.1 - - - - - - -", "13.65521.1 - - - - - - -", "13.7.1000001 - - - - - - -",
		"013.635.1 - - - - - - -", "13.0635.1 - - - - - - -", "13.635.01 - - - - - - -", "+13.635.1 - - - - - - -", "-13.635.1 - - - - - - -", "13.635.+1 - - - - - - -",
		"13.635 - - - - - - -", "13.635.1. - - - - - - -", "13.635.1.1 - - - - - - -", "13. 635.1 - - - - - - -", "13.635.1 - - - - - -", "13.635.1- - - - - - - -",
		"root", "root\nv 1 - -", "map - - - - - - - -", "60041:7 14.9.7 7", "x - - - - - - -", "\xff - - - - - - -", "null - - - - - - -", "\xe2\x88\x92 - - - - - - -",
	} {
		if readsMap(t, text) {
			t.Errorf("%q is a map", text)
		}
	}
}

func TestCoreMapReadOfChangedTexts(t *testing.T) {
	for text := range goodMaps() {
		read := 0
		for _, s := range changedTexts(text) {
			if readsMap(t, s) {
				read++
			}
		}
		// The text itself is among them, at each place once.
		if read < len(text) {
			t.Errorf("%q: %d", text, read)
		}
	}
}

// No text of a map has more than SumMax bytes, so those of SumMax and more are all refused, whatever they contain.
func TestCoreMapReadOfLongTexts(t *testing.T) {
	for text := range goodMaps() {
		for _, n := range []int{impl.SumMax - 1, impl.SumMax, impl.SumMax + 1, 5000} {
			more := n - len(text)
			for _, s := range []string{
				strings.Repeat("0", more) + text, text + strings.Repeat("0", more), text + strings.Repeat(" ", more), strings.Repeat(" ", more) + text,
				(text + strings.Repeat(" -", more))[:n], (text + strings.Repeat(" 13.635.1", more))[:n], text + strings.Repeat("\x00", more),
			} {
				if len(s) != n || readsMap(t, s) {
					t.Errorf("%d bytes: %.90q", len(s), s)
				}
			}
		}
	}
}

// goodRoots is cores with only what a root tells, by their texts.
func goodRoots() map[string]impl.Core {
	parts := func(ptrs ...impl.Ptr) impl.Core { return impl.Core{Parts: ptrs} }
	both := coreOf(homed(coreSet("s", impl.BookSnapshot, "v"), ptr(15, 3, 1)), coreVolume("v"))
	both.Parts = []impl.Ptr{ptr(20, 1, 1)}
	roots := map[string]impl.Core{
		"root":                               {},
		"root\nv 1 - -":                      coreOf(coreVolume("v")),
		"root\n. 20.1.1":                     parts(ptr(20, 1, 1)),
		"root\nroot 1 - -":                   coreOf(coreVolume("root")),
		"root\nv 1 - 1.0.0":                  coreOf(homed(coreVolume("v"), ptr(1, 0, 0))),
		"root\nazazaz 1 - 119.65520.1000000": coreOf(homed(coreVolume("azazaz"), ptr(119, 65520, 1000000))),
		"root\n. 1.0.0\n. 119.65520.1000000\n. 1.0.0":                parts(ptr(1, 0, 0), ptr(119, 65520, 1000000), ptr(1, 0, 0)),
		"root\ns 2 v 15.3.1\nv 1 - -\n. 20.1.1":                      both,
		"root\na 1 s -\ns 2 v 9.9.9\nv 1 - 8.8.8":                    coreOf(coreSet("a", 1, "s"), homed(coreSet("s", 2, "v"), ptr(9, 9, 9)), homed(coreVolume("v"), ptr(8, 8, 8))),
		"root" + strings.Repeat("\n. 119.65520.1000000", 8):          parts(slices.Repeat([]impl.Ptr{ptr(119, 65520, 1000000)}, 8)...),
		"root\na 1 - -\nb 1 - -\nc 1 - -\nd 1 - -\ne 1 - -\nf 1 - -": coreOf(coreVolume("a"), coreVolume("b"), coreVolume("c"), coreVolume("d"), coreVolume("e"), coreVolume("f")),
	}
	return roots
}

// rootOnly is what a root tells of a core.
func rootOnly(c impl.Core) impl.Core {
	only := impl.Core{Parts: c.Parts}
	for _, set := range c.Sets {
		only.Sets = append(only.Sets, homed(coreSet(set.Name, set.Kind, set.From), set.Home))
	}
	return only
}

// Promise 8: roots are read back from their texts, with what a root tells and nothing more.
func TestCoreRootReadsWhatWasWritten(t *testing.T) {
	for text, c := range goodRoots() {
		if s := impl.CoreRoot(c); s != text {
			t.Errorf("%q: %q", text, s)
		}
		if x, ok := impl.CoreRootRead(text); !ok || !sameCore(x, c) {
			t.Errorf("%q: %+v %v", text, x, ok)
		}
	}
	for name, c := range goodCores() {
		text := impl.CoreRoot(c)
		if x, ok := impl.CoreRootRead(text); !ok || !sameCore(x, rootOnly(c)) || !readsRoot(t, text) {
			t.Errorf("%s: %q: %+v %v", name, text, x, ok)
		}
	}
	if n := len(impl.CoreRoot(longestCore())); n != 363 {
		t.Error("the longest root has bytes:", n)
	}
	if s := impl.CoreRoot(smallCore()); s != "root\nc 1 s 40.700.5\ns 2 v 41.701.5\nv 1 - 42.702.5\nw 1 - 43.703.5\nx 2 w 44.704.5\n. 50.1.4\n. 51.2.5" {
		t.Errorf("%q", s)
	}
}

// A set that is not valid for itself, and a part that is null or not valid, has no root.
func TestCoreRootRefuses(t *testing.T) {
	for name, set := range badSets() {
		for _, c := range []impl.Core{
			{Sets: []impl.CoreSet{set}},
			coreOf(coreVolume("a"), set),
			coreOf(set, coreVolume("a")),
		} {
			if s := impl.CoreRoot(c); s != "" {
				t.Errorf("%s: %q", name, s)
			}
		}
	}
	for _, p := range append(badPtrs(), impl.Ptr{}) {
		for i := range 3 {
			c := impl.Core{Parts: manyParts(3)}
			c.Parts[i] = p
			if s := impl.CoreRoot(c); s != "" {
				t.Errorf("%v: %q", p, s)
			}
		}
	}
}

// What a root does not tell, and what CoreOk asks of several sets or parts together, is no matter of its text.
func TestCoreRootOfCoresThatAreNotValid(t *testing.T) {
	want := impl.CoreRoot(smallCore())
	for name, c := range map[string]impl.Core{
		"Txg":        changed(func(c *impl.Core) { c.Txg = -1 }),
		"LogN":       changed(func(c *impl.Core) { c.LogN = 99 }),
		"Safe":       changed(func(c *impl.Core) { c.Safe = []int{-1, -1} }),
		"no table":   changed(func(c *impl.Core) { c.Ddt = nil }),
		"bad table":  changed(func(c *impl.Core) { c.Ddt[0] = entry(-1, -1, -1) }),
		"counts":     changed(func(c *impl.Core) { c.Ddt[0].Count++ }),
		"a pointer":  changed(func(c *impl.Core) { c.Sets[0].Map[7] = ptr(90, 0, 0) }),
		"other sums": changed(func(c *impl.Core) { c.Sets[0].Map[0].Sum++ }),
	} {
		if s := impl.CoreRoot(c); impl.CoreOk(c) || s != want {
			t.Errorf("%s: %q", name, s)
		}
	}
	for text, c := range map[string]impl.Core{
		"root\nv 1 - -\nv 1 - -":                      {Sets: []impl.CoreSet{coreVolume("v"), coreVolume("v")}},
		"root\nw 1 - -\nv 1 - -":                      {Sets: []impl.CoreSet{coreVolume("w"), coreVolume("v")}},
		"root\ns 2 - -":                               {Sets: []impl.CoreSet{coreSet("s", 2, "")}},
		"root\ns 2 v -":                               {Sets: []impl.CoreSet{coreSet("s", 2, "v")}},
		"root\nv 1 v -":                               {Sets: []impl.CoreSet{coreSet("v", 1, "v")}},
		"root" + strings.Repeat("\n. 1.0.0", 9):       {Parts: slices.Repeat([]impl.Ptr{ptr(1, 0, 0)}, 9)},
		"root" + strings.Repeat("\nv 1 - -", 7):       {Sets: slices.Repeat([]impl.CoreSet{coreVolume("v")}, 7)},
		"root" + strings.Repeat("\n. 1.0.0", 1000):    {Parts: slices.Repeat([]impl.Ptr{ptr(1, 0, 0)}, 1000)},
		"root" + strings.Repeat("\nv 1 - 9.9.9", 500): {Sets: slices.Repeat([]impl.CoreSet{homed(coreVolume("v"), ptr(9, 9, 9))}, 500)},
	} {
		if s := impl.CoreRoot(c); s != text {
			t.Errorf("%.90q: %.90q", text, s)
		}
		if readsRoot(t, text) {
			t.Errorf("%.90q is a root", text)
		}
	}
	for name, b := range shapelessBooks() {
		if readsRoot(t, impl.CoreRoot(impl.Core{Sets: setsOf(b)})) {
			t.Errorf("%s is a root", name)
		}
	}
}

// Promise 8: nothing else is read as a root.
func TestCoreRootReadRefusesOtherTexts(t *testing.T) {
	for _, text := range []string{
		"", " ", "\n", "roo", "rot", "Root", "ROOT", "root ", " root", "root\n", "\nroot", "root\n\n", "root\x00", "root\r\n", "toor", "rootroot", "root root", "root\nroot", "root\n.", "root\n. ",
		"v 1 - -", "\nv 1 - -", ". 20.1.1", "x\nv 1 - -", "root v 1 - -", "root\n v 1 - -", "rootv 1 - -", "root\r\nv 1 - -", "root\nv 1 - -\r", "root\n\nv 1 - -",
		"root\nv 1 - - ", "root\nv 1 - -\n", "root\nv 1 - - -", "root\nv 1 -", "root\nv 1 -  ", "root\nv 1", "root\nv", "root\nv  1 - -", "root\nv 1  - -", "root\nv 1 -  -", "root\nv\t1 - -",
		"root\nv 1  -", "root\nv 1 v -", "root\nv 01 - -", "root\nv +1 - -", "root\nv 1. - -", "root\nv 0 - -", "root\nv 3 - -", "root\nv -1 - -", "root\nv 12 - -", "root\nv x - -", "root\nv  - -",
		"root\nv 18446744073709551617 - -", "root\nv 4294967297 - -", "root\nv " + strings.Repeat("9", 300) + " - -", "root\nv " + strings.Repeat("0", 300) + "1 - -", "root\nv volume - -",
		"root\nV 1 - -", "root\nv1 1 - -", "root\nabcdefg 1 - -", "root\n 1 - -", "root\n- 1 - -", "root\n. 1 - -", "root\n\xff 1 - -", "root\nv 1 -- -", "root\nv 1 S -",
		"root\nv 1 - x", "root\nv 1 - 0.0.0", "root\nv 1 - 120.1.1", "root\nv 1 - 13.65521.1", "root\nv 1 - 13.1.1000001", "root\nv 1 - 013.1.1", "root\nv 1 - 13.1", "root\nv 1 - --",
		"root\nv 1 - -\nv 1 - -", "root\nw 1 - -\nv 1 - -", "root\ns 2 - -", "root\ns 2 v -", "root\ns 2 v 15.3.1", "root\ns 2 v -\nv 1 s -", "root\ns 2 v -\nv 2 w -\nw 1 - -", "root\nc 1 v -\nv 1 - -",
		"root\n. -", "root\n. 20.1.1\n. -", "root\n. 0.0.0", "root\n. 120.1.1", "root\n. 20.65521.1", "root\n. 20.1.1000001", "root\n. 020.1.1", "root\n. 20.1", "root\n. 20.1.1.1", "root\n. x",
		"root\n.  20.1.1", "root\n. 20.1.1 ", "root\n. 20.1.1\n", "root\n.20.1.1", "root\n 20.1.1", "root\n20.1.1", "root\n- 20.1.1", "root\n.. 20.1.1", "root\nv 20.1.1", "root\n. 20.1.1 . 21.1.1",
		"root\n. 20.1.1\nv 1 - -", "root\n. 20.1.1\nv 1 - -\n. 21.1.1", "root\na 1 - -\n. 20.1.1\nb 1 - -", ". 20.1.1\nroot", "root\nv 1 - -\nroot\n. 20.1.1", "v 1 - -\nroot",
		"- - - - - - - -", "60041:7 14.9.7 7", impl.SumSeal("root"), impl.SumSeal("root\nv 1 - -"), strings.Repeat("\n", 420), strings.Repeat(" ", 420), "root" + strings.Repeat("\n", 416),
	} {
		if readsRoot(t, text) {
			t.Errorf("%q is a root", text)
		}
	}
}

// A root with an additional line, and one without one of its lines, is another root or none.
func TestCoreRootReadOfOtherLines(t *testing.T) {
	texts := slices.Collect(maps.Keys(goodRoots()))
	texts = append(texts, impl.CoreRoot(smallCore()), impl.CoreRoot(fullCore()), impl.CoreRoot(longestCore()))
	more := []string{"", " ", "root", "-", ".", "x", "end", "v 1 - -", "aa 1 - -", "zz 1 - 9.9.9", "t 2 v -", ". 20.1.1", ". -", "- - - - - - - -", "v 1 - - -", ". 1.1.1 1.1.1"}
	read := 0
	for _, text := range texts {
		lines := strings.Split(text, "\n")
		var others []string
		for i := range len(lines) + 1 {
			for _, line := range more {
				others = append(others, strings.Join(slices.Insert(slices.Clone(lines), i, line), "\n"))
			}
			for _, k := range rand.New(rand.NewPCG(6, 9)).Perm(len(lines)) {
				others = append(others, strings.Join(slices.Insert(slices.Clone(lines), i, lines[k]), "\n"))
			}
			if i < len(lines) {
				others = append(others, strings.Join(slices.Delete(slices.Clone(lines), i, i+1), "\n"))
			}
			if i+1 < len(lines) {
				turned := slices.Clone(lines)
				turned[i], turned[i+1] = turned[i+1], turned[i]
				others = append(others, strings.Join(turned, "\n"))
			}
		}
		for _, s := range others {
			if readsRoot(t, s) {
				read++
			}
		}
	}
	if read < 50 {
		t.Error("roots among them:", read)
	}
}

// A root has up to 8 Parts and up to 6 sets.
func TestCoreRootReadLimits(t *testing.T) {
	for n := range 30 {
		text := "root" + strings.Repeat("\n. 20.1.1", n)
		if readsRoot(t, text) != (n <= mostParts) {
			t.Error(n, "Parts")
		}
		text = "root"
		for i := range min(n, 26) {
			text += "\n" + string(rune('a'+i)) + " 1 - -"
		}
		if readsRoot(t, text) != (n <= impl.BookMaxSets) {
			t.Error(n, "sets")
		}
	}
	for kind := -30; kind < 30; kind++ {
		if readsRoot(t, "root\nv "+strconv.Itoa(kind)+" - -") != (kind == 1) || readsRoot(t, "root\ns "+strconv.Itoa(kind)+" v -\nv 1 - -") != (kind == 2) {
			t.Error("kind", kind)
		}
	}
}

func TestCoreRootReadOfChangedTexts(t *testing.T) {
	for _, text := range append(slices.Collect(maps.Keys(goodRoots())), impl.CoreRoot(smallCore())) {
		read := 0
		for _, s := range changedTexts(text) {
			if readsRoot(t, s) {
				read++
			}
		}
		// The text itself is among them, at each place once.
		if read < len(text) {
			t.Errorf("%q: %d", text, read)
		}
	}
}

// No text of a root has more than DiskMaxText bytes, so those of DiskMaxText and more are all refused, whatever they contain.
func TestCoreRootReadOfLongTexts(t *testing.T) {
	if s := impl.CoreRoot(impl.Core{Parts: slices.Repeat([]impl.Ptr{ptr(1, 0, 0)}, 52)}); len(s) != impl.DiskMaxText || readsRoot(t, s) {
		t.Errorf("%d bytes: %q", len(s), s)
	}
	if s := impl.CoreRoot(impl.Core{Parts: append(slices.Repeat([]impl.Ptr{ptr(1, 0, 0)}, 51), ptr(10, 0, 0))}); len(s) != impl.DiskMaxText+1 || readsRoot(t, s) {
		t.Errorf("%d bytes: %q", len(s), s)
	}
	for _, text := range []string{"root", "root\nv 1 - -", "root\nv 1 - 9.9.9\n. 20.1.1", impl.CoreRoot(longestCore())} {
		for _, n := range []int{impl.DiskMaxText - 1, impl.DiskMaxText, impl.DiskMaxText + 1, 5000} {
			more := n - len(text)
			for _, s := range []string{
				text + strings.Repeat("0", more), text + strings.Repeat(" ", more), text + strings.Repeat("\n", more), strings.Repeat("\n", more) + text, text + strings.Repeat("\x00", more),
				(text + strings.Repeat("\n. 20.1.1", more))[:n], (text + strings.Repeat("\nz 1 - -", more))[:n], strings.Replace(text, "root", "root\nv "+strings.Repeat("0", more-7)+"1 - -", 1)[:n-2],
			} {
				if readsRoot(t, s) {
					t.Errorf("%d bytes: %.90q", len(s), s)
				}
			}
		}
	}
}

// uber is a commit with its root pointer.
type uber struct {
	txg  int
	root impl.Ptr
}

// goodUbers is ring records by their texts; the sums were worked out by another program.
func goodUbers() map[string]uber {
	return map[string]uber{
		"60041:7 14.9.7 7":                        {7, ptr(14, 9, 7)},
		"27788:1 1.0.0 1":                         {1, ptr(1, 0, 0)},
		"61466:2 14.51537.2 2":                    {2, ptr(14, 51537, 2)},
		"36587:1000000 119.65520.1000000 1000000": {impl.BlkMaxBirth, ptr(119, 65520, 1000000)},
	}
}

// uberText is a ring record of these words, whatever they are, with the right sum.
func uberText(words ...string) string {
	return sealedByHand(strings.Join(words, " "))
}

func TestCoreUber(t *testing.T) {
	for text, u := range goodUbers() {
		if s := impl.CoreUber(u.txg, u.root); s != text {
			t.Errorf("%v: %q", u, s)
		}
		for _, p := range append(badPtrs(), impl.Ptr{}) {
			if s := impl.CoreUber(u.txg, p); s != "" {
				t.Errorf("%d %v: %q", u.txg, p, s)
			}
		}
		for _, txg := range []int{0, -1, -7, impl.BlkMaxBirth + 1, math.MinInt, math.MaxInt} {
			if s := impl.CoreUber(txg, u.root); s != "" {
				t.Errorf("%d %v: %q", txg, u.root, s)
			}
		}
	}
}

// Promise 8: ring records are read back from their texts.
func TestCoreUberReadsWhatWasWritten(t *testing.T) {
	for text, u := range goodUbers() {
		if txg, root, ok := impl.CoreUberRead(text); !ok || txg != u.txg || root != u.root {
			t.Errorf("%q: %d %v %v", text, txg, root, ok)
		}
	}
	r := rand.New(rand.NewPCG(6, 80))
	for range 5000 {
		txg, root := 1+r.IntN(impl.BlkMaxBirth), impl.BlkTo(1+r.IntN(impl.DiskMaxAt-1), someText(r, r.IntN(9)), r.IntN(impl.BlkMaxBirth+1))
		text := impl.CoreUber(txg, root)
		if x, p, ok := impl.CoreUberRead(text); !ok || x != txg || p != root || !readsUber(t, text) {
			t.Fatalf("%q: %d %v %v", text, x, p, ok)
		}
	}
}

// Promise 8: nothing else is read as a ring record.
func TestCoreUberReadRefusesOtherTexts(t *testing.T) {
	for _, text := range []string{
		"", " ", ":", "0:", "7 14.9.7 7", ":7 14.9.7 7", "60042:7 14.9.7 7", "060041:7 14.9.7 7", "+60041:7 14.9.7 7", "60041:7 14.9.7 7 ", " 60041:7 14.9.7 7", "60041:7 14.9.7 7\n", "60041: 7 14.9.7 7",
		impl.SumSeal(""), impl.SumSeal(" "), impl.SumSeal("  "), impl.SumSeal(impl.SumSeal("7 14.9.7 7")), impl.SumSeal("root"), "root", "- - - - - - - -",
		uberText("7"), uberText("7", "7"), uberText("7", "14.9.7"), uberText("14.9.7", "7"), uberText("7", "14.9.7", "7", "7"), uberText("7", "14.9.7", "14.9.7", "7"), uberText("7", "14.9.7", "7", ""), uberText("", "7", "14.9.7", "7"),
		uberText("7", "14.9.7", "8"), uberText("8", "14.9.7", "7"), uberText("7", "14.9.7", "77"), uberText("77", "14.9.7", "7"), uberText("7", "14.9.7", ""), uberText("", "14.9.7", "7"), uberText("", "14.9.7", ""),
		uberText("7", "14.9.7", "07"), uberText("07", "14.9.7", "7"), uberText("07", "14.9.7", "07"), uberText("+7", "14.9.7", "7"), uberText("+7", "14.9.7", "+7"), uberText("7", "14.9.7", "+7"), uberText("-7", "14.9.7", "-7"),
		uberText("0", "14.9.7", "0"), uberText("00", "14.9.7", "00"), uberText("-0", "14.9.7", "-0"), uberText("-1", "14.9.7", "-1"), uberText("1000001", "14.9.7", "1000001"), uberText("x", "14.9.7", "x"), uberText("0x7", "14.9.7", "0x7"), uberText("7.", "14.9.7", "7."),
		uberText("18446744073709551623", "14.9.7", "18446744073709551623"), uberText("4294967303", "14.9.7", "4294967303"), uberText(strings.Repeat("9", 150), "14.9.7", strings.Repeat("9", 150)),
		uberText("7", "-", "7"), uberText("7", "", "7"), uberText("7", "0.0.0", "7"), uberText("7", "0.9.7", "7"), uberText("7", "120.9.7", "7"), uberText("7", "14.65521.7", "7"), uberText("7", "14.9.1000001", "7"), uberText("7", "014.9.7", "7"),
		uberText("7", "14.9", "7"), uberText("7", "14.9.7.", "7"), uberText("7", "14.9.7.7", "7"), uberText("7", "+14.9.7", "7"), uberText("7", "14", "9", "7", "7"), uberText("7", "x", "7"), uberText("0", "-", "0"),
		sealedByHand("7  14.9.7 7"), sealedByHand("7 14.9.7  7"), sealedByHand(" 7 14.9.7 7"), sealedByHand("7 14.9.7 7 "), sealedByHand("7\n14.9.7\n7"), sealedByHand("7\t14.9.7\t7"), sealedByHand("7.14.9.7.7"), sealedByHand("7 14.9.7 7\n"), sealedByHand("7 14.9.7 7\x00"),
		sealedByHand(strings.Repeat("7 14.9.7 7", 40)), sealedByHand(strings.Repeat("7 14.9.7 7", 41)), strings.Repeat("7", 5000), sealedByHand(strings.Repeat("0", 400) + "7 14.9.7 7"),
	} {
		if readsUber(t, text) {
			t.Errorf("%.90q is a ring record", text)
		}
	}
}

// The number of a ring record is read from 1 up to the last commit, and only if it stands at both ends.
func TestCoreUberReadLimits(t *testing.T) {
	for _, txg := range []int{-1, 0, 1, 2, 9, 10, 99, 100, impl.BlkMaxBirth - 1, impl.BlkMaxBirth, impl.BlkMaxBirth + 1, 10 * impl.BlkMaxBirth} {
		for _, last := range []int{txg - 1, txg, txg + 1, 10 * txg, txg / 10, -txg} {
			text := uberText(strconv.Itoa(txg), "14.9.7", strconv.Itoa(last))
			if readsUber(t, text) != (txg == last && txg >= 1 && txg <= impl.BlkMaxBirth) {
				t.Errorf("%q", text)
			}
		}
	}
}

func TestCoreUberReadOfChangedTexts(t *testing.T) {
	for text := range goodUbers() {
		for _, s := range changedTexts(text) {
			if readsUber(t, s) != (s == text) {
				t.Errorf("%q from %q", s, text)
			}
		}
		// With the sum of the changed text, only the shape and the numbers tell.
		read := 0
		for _, s := range changedTexts(text[strings.Index(text, ":")+1:]) {
			if readsUber(t, sealedByHand(s)) {
				read++
			}
		}
		if read == 0 {
			t.Errorf("%q: none", text)
		}
	}
}

// A record whose beginning is that of another one, as a torn write over the older one leaves it, is no record.
func TestCoreUberReadOfTornRecords(t *testing.T) {
	r := rand.New(rand.NewPCG(6, 81))
	for range 3000 {
		old := 1 + r.IntN(9)*[]int{1, 10, 1000, 100000}[r.IntN(4)]
		txg := min(old+impl.CoreSlots*(1+r.IntN(3)), impl.BlkMaxBirth)
		older := impl.CoreUber(old, impl.BlkTo(13+r.IntN(100), someText(r, 3), old))
		newer := impl.CoreUber(txg, impl.BlkTo(13+r.IntN(100), someText(r, 3), txg))
		d, _ := impl.BlkWrite(impl.DiskOpen(3), 1, older)
		d, _ = impl.BlkWrite(impl.DiskFlush(d), 1, newer)
		d = impl.DiskFall(d, []int{impl.DiskTorn, impl.DiskKept})
		torn, _ := impl.DiskRead(d, 0, 1)
		if readsUber(t, torn) {
			t.Fatalf("%q of %q over %q", torn, newer, older)
		}
		if kept, _ := impl.DiskRead(d, 1, 1); kept != newer || !readsUber(t, kept) {
			t.Fatalf("%q is not %q", kept, newer)
		}
		for i := range len(newer) {
			s := newer[:i] + older[min(i, len(older)):]
			if readsUber(t, s) && s != older && s != newer {
				t.Fatalf("%q of %q over %q", s, newer, older)
			}
		}
	}
	// The number alone tells here: beginning and end have the right sum together.
	if readsUber(t, uberText("11", "14.9.7", "7")) {
		t.Error("two records in one")
	}
}

// No text is read as two of the three.
func TestTextsAreReadAsOneThing(t *testing.T) {
	var texts []string
	texts = slices.AppendSeq(texts, maps.Keys(goodMaps()))
	texts = slices.AppendSeq(texts, maps.Keys(goodRoots()))
	texts = slices.AppendSeq(texts, maps.Keys(goodUbers()))
	for _, text := range texts {
		n := 0
		for _, ok := range []bool{readsMap(t, text), readsRoot(t, text), readsUber(t, text)} {
			if ok {
				n++
			}
		}
		if n != 1 {
			t.Errorf("%q: %d", text, n)
		}
	}
}

// The book of a core that points at the texts of a book is that book.
func TestCoreBook(t *testing.T) {
	for name, want := range goodBooks() {
		d, c := stored(want)
		for late, d := range map[string]impl.Disk{"late": d, "flushed": impl.DiskFlush(d)} {
			if b, ok := impl.CoreBook(d, c); !ok || !sameBook(b, want) || !impl.BookOk(b) {
				t.Errorf("%s, %s: %v %v", name, late, b, ok)
			}
		}
		// What is no matter of blocks does not change the book.
		c.Txg, c.Dirty, c.LogN, c.Parts, c.Safe = 9, true, 8, manyParts(8), allSectors()
		for i := range c.Sets {
			c.Sets[i].Home, c.Sets[i].Dirty = ptr(119, 0, i), true
		}
		if b, ok := impl.CoreBook(d, c); !ok || !sameBook(b, want) {
			t.Errorf("%s: %v %v", name, b, ok)
		}
	}
}

// Null pointers are empty blocks, whatever sector 0 contains.
func TestCoreBookOfNullPointers(t *testing.T) {
	zero := otherText(t, 0, "")
	for name, d := range goodDisks() {
		if b, ok := impl.CoreBook(d, impl.Core{}); !ok || len(b.Sets) != 0 {
			t.Errorf("%s: %v %v", name, b, ok)
		}
		d = ownDisk(d)
		d.Sides[0][0], d.Sides[1][0] = zero, zero
		want := bookOf(snapshot("s", "v"), volume("v", ""))
		if b, ok := impl.CoreBook(d, coreOf(coreSet("s", 2, "v"), coreVolume("v"))); !ok || !sameBook(b, want) {
			t.Errorf("%s: %v %v", name, b, ok)
		}
	}
}

// What is read of a block on any disk is what the book has, and no book is told if it is damaged.
func TestCoreBookOfDamagedBlocks(t *testing.T) {
	for _, x := range blkCases(t) {
		for i := range impl.BookBlocks {
			set, want := coreVolume("v"), volume("v", "")
			set.Map[i], want.Blocks[i] = x.p, x.text
			b, ok := impl.CoreBook(x.d, coreOf(coreVolume("a"), set))
			there := x.code == impl.BlkFine && len(x.text) <= impl.BookMaxText
			if ok != there || ok && !sameBook(b, bookOf(volume("a", ""), want)) || !ok && len(b.Sets) != 0 {
				t.Errorf("%s, block %d: %v %v", x.name, i, b, ok)
			}
		}
	}
	d, c := stored(fullBook())
	d = impl.DiskFlush(d)
	for _, e := range c.Ddt {
		for side := range 2 {
			one := impl.DiskRot(d, side, e.At, 0, 1)
			if b, ok := impl.CoreBook(one, c); !ok || !sameBook(b, fullBook()) {
				t.Errorf("sector %d, side %d: %v %v", e.At, side, b, ok)
			}
			if b, ok := impl.CoreBook(impl.DiskRot(one, 1-side, e.At, 0, 3), c); ok || len(b.Sets) != 0 {
				t.Errorf("sector %d, both sides: %v %v", e.At, b, ok)
			}
		}
	}
}

func TestCoreBookOfLongBlocks(t *testing.T) {
	for n := range impl.DiskMaxText + 1 {
		text := strings.Repeat("m", n)
		d, _ := impl.BlkWrite(impl.DiskOpen(20), 13, text)
		p := impl.BlkTo(13, text, 1)
		b, ok := impl.CoreBook(d, coreOf(coreSet("s", 2, "v", p), coreVolume("v", impl.Ptr{}, p)))
		if ok != (n <= impl.BookMaxText) {
			t.Errorf("%d bytes: %v", n, ok)
		}
		if ok && !sameBook(b, bookOf(snapshot("s", "v", text), volume("v", "", "", text))) || !ok && len(b.Sets) != 0 {
			t.Errorf("%d bytes: %v", n, b)
		}
	}
}

// A disk or a core that is not valid has no book.
func TestCoreBookOfWhatIsNotValid(t *testing.T) {
	for name, d := range badDisks() {
		for _, c := range []impl.Core{{}, coreOf(coreVolume("v")), smallCore()} {
			if b, ok := impl.CoreBook(d, c); ok || len(b.Sets) != 0 {
				t.Errorf("%s: %v %v", name, b, ok)
			}
		}
	}
	d, good := stored(smallBook())
	if _, ok := impl.CoreBook(d, good); !ok {
		t.Fatal("no book")
	}
	for name, c := range badCores() {
		if b, ok := impl.CoreBook(d, c); ok || len(b.Sets) != 0 {
			t.Errorf("%s: %v %v", name, b, ok)
		}
	}
	if b, ok := impl.CoreBook(impl.Disk{}, impl.Core{Txg: -1}); ok || len(b.Sets) != 0 {
		t.Error(b, ok)
	}
}

// Promise 8: what is read of the texts on a disk is the state that was written there.
func TestFormatsThroughADisk(t *testing.T) {
	c := smallCore()
	d := impl.DiskOpen(60)
	for _, set := range c.Sets {
		d, _ = impl.BlkWrite(d, set.Home.At, impl.CoreMap(set.Map))
	}
	d, _ = impl.BlkWrite(d, 55, impl.CoreRoot(c))
	root := impl.BlkTo(55, impl.CoreRoot(c), 6)
	d, _ = impl.BlkWrite(d, impl.CoreRing+2, impl.CoreUber(6, root))
	d = impl.DiskFlush(d)
	text, _ := impl.DiskRead(d, 1, impl.CoreRing+2)
	txg, p, ok := impl.CoreUberRead(text)
	if !ok || txg != 6 || p != root {
		t.Fatal(txg, p, ok)
	}
	text, _ = impl.BlkRead(d, p)
	x, ok := impl.CoreRootRead(text)
	if !ok || !sameCore(x, rootOnly(c)) {
		t.Fatal(x, ok)
	}
	for i, set := range x.Sets {
		text, _ = impl.DiskRead(d, 0, set.Home.At)
		if m, ok := impl.CoreMapRead(text); !ok || m != c.Sets[i].Map {
			t.Error(set.Name, m, ok)
		}
	}
}

// spoilCore overwrites all lists of a core and their unused capacity.
func spoilCore(c impl.Core) {
	for i := range c.Sets[:cap(c.Sets)] {
		c.Sets[:cap(c.Sets)][i] = coreSet("spoilt", 9, "spoilt", ptr(-9, -9, -9))
	}
	spoilEntries(c.Ddt)
	for i := range c.Parts[:cap(c.Parts)] {
		c.Parts[:cap(c.Parts)][i] = ptr(-9, -9, -9)
	}
	for i := range c.Safe[:cap(c.Safe)] {
		c.Safe[:cap(c.Safe)][i] = -9
	}
}

// roomyCore is smallCore with unused capacity behind each list that is in use elsewhere, and the whole of it.
func roomyCore() (c impl.Core, room impl.Core) {
	room = smallCore()
	c = room
	room.Sets = append(room.Sets, coreVolume("kept"), coreVolume("kept"))
	room.Ddt = append(room.Ddt, entry(1, 90, 1), entry(2, 91, 1))
	room.Parts = append(room.Parts, ptr(90, 9, 9), ptr(91, 9, 9))
	room.Safe = append(room.Safe, 90, 91)
	c.Sets, c.Ddt = room.Sets[:len(c.Sets)], room.Ddt[:len(c.Ddt)]
	c.Parts, c.Safe = room.Parts[:len(c.Parts)], room.Safe[:len(c.Safe)]
	return c, room
}

// What is told of a core leaves it and what is behind it, and has memory of its own.
func TestCoresShareNoMemory(t *testing.T) {
	c, room := roomyCore()
	d, _ := stored(smallBook())
	kept := ownDisk(d)
	x, ok := impl.CoreBook(d, c)
	other, _ := impl.CoreBook(d, c)
	impl.CoreOk(c)
	impl.CoreSame(c, c)
	impl.CoreRoot(c)
	spoilSets(x.Sets)
	if _, fresh := roomyCore(); !ok || !sameCore(room, fresh) || !sameDisk(d, kept) {
		t.Error("an argument has changed:", room, d)
	}
	spoilCore(c)
	if !sameBook(other, smallBook()) {
		t.Error("the book has changed:", other)
	}
}

func TestRootsShareNoMemory(t *testing.T) {
	text := impl.CoreRoot(smallCore())
	x, _ := impl.CoreRootRead(text)
	y, _ := impl.CoreRootRead(text)
	first := uintptr(unsafe.Pointer(unsafe.StringData(text)))
	for _, set := range x.Sets {
		for _, word := range []string{set.Name, set.From} {
			at := uintptr(unsafe.Pointer(unsafe.StringData(word)))
			if word != "" && at >= first && at < first+uintptr(len(text)) {
				t.Errorf("%q is a piece of the text", word)
			}
		}
	}
	spoilCore(x)
	if !sameCore(y, rootOnly(smallCore())) {
		t.Error("two roots that are read share memory:", y)
	}
}
