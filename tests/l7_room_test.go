package tests

import (
	"maps"
	"math"
	"math/rand/v2"
	"slices"
	"strconv"
	"testing"

	"loop.example/palim/impl"
)

// upTo is the sectors from the first on and before the last.
func upTo(first int, last int) []int {
	var list []int
	for at := first; at < last; at++ {
		list = append(list, at)
	}
	return list
}

// coreAt is a core with a block in each of these sectors and these Safe ones.
func coreAt(blocks []int, safe []int) impl.Core {
	var sets []impl.CoreSet
	for ats := range slices.Chunk(blocks, impl.BookBlocks) {
		set := coreVolume(string(rune('a' + len(sets))))
		for k, at := range ats {
			set.Map[k] = ptr(at, 500+at, 1)
		}
		sets = append(sets, set)
	}
	c := coreOf(sets...)
	c.Safe = safe
	return c
}

// tellsNothing fails unless all functions of the chapter refuse a core and a number of sectors.
func tellsNothing(t *testing.T, name string, c impl.Core, n int) {
	t.Helper()
	if free := impl.RoomFree(c, n); len(free) != 0 {
		t.Errorf("%s, %d sectors: free: %v", name, n, free)
	}
	if impl.RoomMay(c, n) {
		t.Errorf("%s, %d sectors: one more may be allocated", name, n)
	}
	if stored, safe, free := impl.RoomSums(c, n); stored != 0 || safe != 0 || free != 0 {
		t.Errorf("%s, %d sectors: sums: %d %d %d", name, n, stored, safe, free)
	}
}

// shareByHand is the sectors of the blocks, of n sectors, that are At of an entry, that are only in Safe, and that are free.
func shareByHand(c impl.Core, n int) (stored []int, safe []int, free []int) {
	for at := impl.CoreFirst; at < n; at++ {
		isAt := func(e impl.DdtEntry) bool { return e.At == at }
		switch {
		case slices.ContainsFunc(c.Ddt, isAt):
			stored = append(stored, at)
		case slices.Contains(c.Safe, at):
			safe = append(safe, at)
		default:
			free = append(free, at)
		}
	}
	return stored, safe, free
}

// reachByHand is the sectors that RoomReach collects.
func reachByHand(c impl.Core, root int) []int {
	list := []int{root}
	for _, e := range c.Ddt {
		list = append(list, e.At)
	}
	for _, set := range c.Sets {
		list = append(list, set.Home.At)
	}
	for _, part := range c.Parts {
		list = append(list, part.At)
	}
	slices.Sort(list)
	before := func(at int) bool { return at < impl.CoreFirst }
	return slices.DeleteFunc(slices.Compact(list), before)
}

// splits fails unless the free sectors and the sums are those of the document, for a valid core and a number of sectors that a disk can have.
func splits(t *testing.T, name string, c impl.Core, n int) {
	t.Helper()
	stored, safe, free := shareByHand(c, n)
	if list := impl.RoomFree(c, n); !slices.Equal(list, free) {
		t.Errorf("%s, %d sectors: free: %v, not %v", name, n, list, free)
	}
	a, b, e := impl.RoomSums(c, n)
	if a != len(stored) || b != len(safe) || e != len(free) {
		t.Errorf("%s, %d sectors: sums: %d %d %d, not %d %d %d", name, n, a, b, e, len(stored), len(safe), len(free))
	}
	if a+b+e != max(n, impl.CoreFirst)-impl.CoreFirst || e != len(impl.RoomFree(c, n)) {
		t.Errorf("%s, %d sectors: %d %d %d are not all of them", name, n, a, b, e)
	}
}

func TestRoomLimits(t *testing.T) {
	if impl.RoomKeep != 16 || impl.RoomTwice != 32 {
		t.Error(impl.RoomKeep, impl.RoomTwice)
	}
}

type roomCase struct {
	name   string
	blocks []int
	safe   []int
	n      int
	free   []int
	sums   [3]int
}

// roomCases is cores by what is in which sector, with the sectors that are free.
func roomCases() []roomCase {
	return []roomCase{
		{"nothing", nil, nil, 16, []int{13, 14, 15}, [3]int{0, 0, 3}},
		{"an entry", []int{14}, nil, 16, []int{13, 15}, [3]int{1, 0, 2}},
		{"a safe one", nil, []int{14}, 16, []int{13, 15}, [3]int{0, 1, 2}},
		{"both", []int{14}, []int{14}, 16, []int{13, 15}, [3]int{1, 0, 2}},
		{"one each, one both, one neither", []int{13, 15}, []int{14, 15}, 17, []int{16}, [3]int{2, 1, 1}},
		{"released", []int{13, 15}, []int{13, 14, 15}, 17, []int{16}, [3]int{2, 1, 1}},
		{"all released", nil, []int{13, 14, 15, 16}, 17, nil, [3]int{0, 4, 0}},
		{"an entry that is not safe", []int{13, 14}, []int{13}, 17, []int{15, 16}, [3]int{2, 0, 2}},
		{"all entries", []int{13, 14, 15}, nil, 16, nil, [3]int{3, 0, 0}},
		{"the first one", []int{13}, nil, 15, []int{14}, [3]int{1, 0, 1}},
		{"the first one safe", nil, []int{13}, 15, []int{14}, [3]int{0, 1, 1}},
		{"entries before the blocks", []int{1, 5, 12}, nil, 15, []int{13, 14}, [3]int{0, 0, 2}},
		{"entries before the blocks and at the first one", []int{1, 12, 13}, []int{14}, 16, []int{15}, [3]int{1, 1, 1}},
		{"an entry at n", []int{15}, nil, 15, []int{13, 14}, [3]int{0, 0, 2}},
		{"an entry before n", []int{14}, nil, 15, []int{13}, [3]int{1, 0, 1}},
		{"a safe one at n", nil, []int{15}, 15, []int{13, 14}, [3]int{0, 0, 2}},
		{"a safe one before n", nil, []int{14}, 15, []int{13}, [3]int{0, 1, 1}},
		{"beyond n", []int{90, 119}, []int{16, 91, 119}, 15, []int{13, 14}, [3]int{0, 0, 2}},
		{"least n", []int{13}, []int{14}, math.MinInt, nil, [3]int{}},
		{"n -1", []int{13}, []int{14}, -1, nil, [3]int{}},
		{"n 0", []int{13}, []int{14}, 0, nil, [3]int{}},
		{"n CoreFirst - 1", []int{12, 13}, []int{13}, impl.CoreFirst - 1, nil, [3]int{}},
		{"n CoreFirst", []int{12, 13}, []int{13}, impl.CoreFirst, nil, [3]int{}},
		{"n CoreFirst + 1", nil, nil, impl.CoreFirst + 1, []int{13}, [3]int{0, 0, 1}},
		{"n CoreFirst + 1, an entry", []int{13}, nil, impl.CoreFirst + 1, nil, [3]int{1, 0, 0}},
		{"n CoreFirst + 1, a safe one", nil, []int{13}, impl.CoreFirst + 1, nil, [3]int{0, 1, 0}},
		{"n DiskMaxAt", nil, nil, impl.DiskMaxAt, upTo(13, 120), [3]int{0, 0, 107}},
		{"n DiskMaxAt, all safe", nil, upTo(13, 120), impl.DiskMaxAt, nil, [3]int{0, 107, 0}},
		{"n DiskMaxAt, all but the last safe", nil, upTo(13, 119), impl.DiskMaxAt, []int{119}, [3]int{0, 106, 1}},
		{"n DiskMaxAt, all but the first safe", nil, upTo(14, 120), impl.DiskMaxAt, []int{13}, [3]int{0, 106, 1}},
		{"n DiskMaxAt, the most entries", upTo(13, 61), upTo(40, 100), impl.DiskMaxAt, upTo(100, 120), [3]int{48, 39, 20}},
	}
}

func TestRoomFree(t *testing.T) {
	for _, x := range roomCases() {
		c := coreAt(x.blocks, x.safe)
		if !impl.CoreOk(c) {
			t.Fatal(x.name, "is no case")
		}
		if free := impl.RoomFree(c, x.n); !slices.Equal(free, x.free) {
			t.Errorf("%s: free: %v, not %v", x.name, free, x.free)
		}
	}
}

func TestRoomSums(t *testing.T) {
	for _, x := range roomCases() {
		a, b, e := impl.RoomSums(coreAt(x.blocks, x.safe), x.n)
		if x.sums != [3]int{a, b, e} {
			t.Errorf("%s: sums: %d %d %d, not %v", x.name, a, b, e, x.sums)
		}
	}
}

// Promise 9: reached, safe and free sectors are all sectors, each counted once.
func TestRoomSplitsAllSectors(t *testing.T) {
	cores := goodCores()
	for _, x := range roomCases() {
		cores["case: "+x.name] = coreAt(x.blocks, x.safe)
	}
	for name, c := range cores {
		for n := -20; n <= impl.DiskMaxAt; n++ {
			splits(t, name, c, n)
		}
		splits(t, name, c, math.MinInt)
	}
}

// Each sector is told from all others, in each of the lists.
func TestRoomTellsEachSector(t *testing.T) {
	for at := 1; at < impl.DiskMaxAt; at++ {
		name := "sector " + strconv.Itoa(at)
		splits(t, "entry at "+name, coreAt([]int{at}, nil), impl.DiskMaxAt)
		splits(t, "last entry at "+name, coreAt([]int{at}, nil), at+1)
		want := []int{at}
		if at < impl.CoreFirst {
			want = nil
		} else {
			splits(t, "safe "+name, coreAt(nil, []int{at}), impl.DiskMaxAt)
			splits(t, "all others safe: "+name, coreAt(nil, slices.Delete(allSectors(), at-impl.CoreFirst, at-impl.CoreFirst+1)), impl.DiskMaxAt)
		}
		for from, list := range map[string][]int{
			"root":  impl.RoomReach(impl.Core{}, at),
			"entry": impl.RoomReach(coreAt([]int{at}, nil), 0),
			"Home":  impl.RoomReach(coreOf(homed(coreVolume("v"), ptr(at, 1, 1))), 0),
			"Part":  impl.RoomReach(impl.Core{Parts: []impl.Ptr{ptr(at, 1, 1)}}, 0),
		} {
			if !slices.Equal(list, want) {
				t.Errorf("%s of %s: %v", from, name, list)
			}
		}
	}
}

// Only the table and Safe make a sector one that is not free: what the last commit reaches beyond the table is in Safe.
func TestRoomFreeAsksOnlyTableAndSafe(t *testing.T) {
	c := coreOf(homed(coreVolume("v", ptr(13, 7, 1)), ptr(14, 1, 1)))
	c.Parts = []impl.Ptr{ptr(15, 1, 1)}
	if free := impl.RoomFree(c, 17); !slices.Equal(free, []int{14, 15, 16}) {
		t.Error(free)
	}
	if a, b, e := impl.RoomSums(c, 17); a != 1 || b != 0 || e != 3 {
		t.Error(a, b, e)
	}
	c.Safe = impl.RoomReach(c, 16)
	if free := impl.RoomFree(c, 19); !slices.Equal(free, []int{17, 18}) {
		t.Error(free)
	}
}

func TestRoomRefusesCores(t *testing.T) {
	for name, c := range badCores() {
		for _, n := range []int{-1, 0, impl.CoreFirst, impl.CoreFirst + 1, 60, impl.DiskMaxAt, impl.DiskMaxAt + 1} {
			tellsNothing(t, name, c, n)
		}
		for _, root := range []int{-1, 0, impl.CoreFirst, 50, impl.DiskMaxAt} {
			if list := impl.RoomReach(c, root); len(list) != 0 {
				t.Errorf("%s, root %d: reached: %v", name, root, list)
			}
		}
	}
}

func TestRoomRefusesSectors(t *testing.T) {
	for name, c := range goodCores() {
		for _, n := range []int{impl.DiskMaxAt + 1, impl.DiskMaxAt + 8, 128, 129, 1000, math.MaxInt - 1, math.MaxInt} {
			tellsNothing(t, name, c, n)
		}
	}
}

// mayByHand says whether one more block may be allocated, condition by condition as the document lists them.
func mayByHand(c impl.Core, n int) bool {
	_, _, free := shareByHand(c, n)
	return n <= impl.DiskMaxAt && len(free) > 16 && n-13 >= len(c.Ddt)+1+32 && len(c.Ddt) < 48
}

func TestRoomMay(t *testing.T) {
	for _, x := range []struct {
		name   string
		blocks []int
		safe   []int
		n      int
		want   bool
	}{
		{"nothing", nil, nil, impl.DiskMaxAt, true},
		{"nothing, exactly RoomTwice", nil, nil, 46, true},
		{"nothing, one sector less", nil, nil, 45, false},
		{"an entry, exactly RoomTwice", []int{20}, nil, 47, true},
		{"an entry, one sector less", []int{20}, nil, 46, false},
		{"40 entries, exactly RoomTwice", upTo(13, 53), nil, 86, true},
		{"40 entries, one sector less", upTo(13, 53), nil, 85, false},
		{"an entry before the blocks, exactly RoomTwice", []int{12}, nil, 47, true},
		{"an entry before the blocks, one sector less", []int{12}, nil, 46, false},
		{"an entry beyond n, exactly RoomTwice", []int{60}, nil, 47, true},
		{"an entry beyond n, one sector less", []int{60}, nil, 46, false},
		{"one more than RoomKeep", nil, upTo(13, 33), 50, true},
		{"RoomKeep", nil, upTo(13, 34), 50, false},
		{"entries and one more than RoomKeep", upTo(13, 23), upTo(20, 43), 60, true},
		{"entries and RoomKeep", upTo(13, 23), upTo(20, 44), 60, false},
		{"DiskMaxAt, one more than RoomKeep", nil, upTo(30, 120), impl.DiskMaxAt, true},
		{"DiskMaxAt, RoomKeep", nil, upTo(29, 120), impl.DiskMaxAt, false},
		{"none free", nil, upTo(13, 120), impl.DiskMaxAt, false},
		{"DdtMax - 1", upTo(13, 60), nil, impl.DiskMaxAt, true},
		{"DdtMax", upTo(13, 61), nil, impl.DiskMaxAt, false},
		{"DdtMax - 1, exactly RoomTwice", upTo(13, 60), nil, 93, true},
		{"DdtMax - 1, one sector less", upTo(13, 60), nil, 92, false},
		{"DdtMax, most of them before the blocks", upTo(1, 49), nil, impl.DiskMaxAt, false},
		{"released blocks are not free", upTo(13, 18), upTo(13, 45), 61, false},
		{"released blocks after a commit", upTo(13, 18), upTo(13, 19), 61, true},
	} {
		c := coreAt(x.blocks, x.safe)
		if !impl.CoreOk(c) {
			t.Fatal(x.name, "is no case")
		}
		if impl.RoomMay(c, x.n) != x.want || mayByHand(c, x.n) != x.want {
			t.Errorf("%s: not %v", x.name, x.want)
		}
	}
}

func TestRoomMayOfFewSectors(t *testing.T) {
	for name, c := range goodCores() {
		for _, n := range []int{math.MinInt, math.MinInt + 12, math.MinInt + 14, -40, -1, 0, 1, impl.CoreFirst - 1, impl.CoreFirst, impl.CoreFirst + 1, 30} {
			if impl.RoomMay(c, n) {
				t.Error(name, n)
			}
		}
	}
}

// All numbers of entries, and of safe sectors from the last one on, with all numbers of sectors.
func TestRoomMayOfAllNumbers(t *testing.T) {
	for entries := range impl.DdtMax + 1 {
		for first := impl.CoreFirst; first <= impl.DiskMaxAt; first += 3 {
			c := coreAt(upTo(13, 13+entries), upTo(first, impl.DiskMaxAt))
			for n := 30 + first%2; n <= impl.DiskMaxAt; n += 2 {
				if impl.RoomMay(c, n) != mayByHand(c, n) {
					t.Fatal(entries, "entries, safe from", first, "on,", n, "sectors: not", mayByHand(c, n))
				}
			}
		}
	}
}

// reachCore is a core with entries at 14, 17 and 20, Homes at 16 and 30, and Parts at 18 and 15.
func reachCore() impl.Core {
	c := coreOf(homed(coreVolume("a", ptr(20, 1, 1), ptr(14, 2, 1)), ptr(30, 1, 1)), homed(coreVolume("b", ptr(17, 3, 1), ptr(14, 2, 1)), ptr(16, 1, 1)))
	c.Parts = []impl.Ptr{ptr(18, 1, 1), ptr(15, 1, 1)}
	c.Safe = []int{13, 14, 99}
	return c
}

func TestRoomReach(t *testing.T) {
	all := []int{14, 15, 16, 17, 18, 20, 30}
	reach := func(change func(c *impl.Core)) impl.Core {
		c := reachCore()
		change(&c)
		return c
	}
	for _, x := range []struct {
		name string
		c    impl.Core
		root int
		want []int
	}{
		{"least root", reachCore(), math.MinInt, all},
		{"root -1", reachCore(), -1, all},
		{"root 0", reachCore(), 0, all},
		{"root of the ring", reachCore(), impl.CoreRing, all},
		{"root CoreFirst - 1", reachCore(), impl.CoreFirst - 1, all},
		{"root CoreFirst", reachCore(), impl.CoreFirst, append([]int{13}, all...)},
		{"root between", reachCore(), 19, []int{14, 15, 16, 17, 18, 19, 20, 30}},
		{"root behind", reachCore(), 31, append(slices.Clone(all), 31)},
		{"last root", reachCore(), impl.DiskMaxAt - 1, append(slices.Clone(all), 119)},
		{"root that no disk has", reachCore(), impl.DiskMaxAt, append(slices.Clone(all), 120)},
		{"greatest root", reachCore(), math.MaxInt, append(slices.Clone(all), math.MaxInt)},
		{"root at an entry", reachCore(), 17, all},
		{"root at a Home", reachCore(), 16, all},
		{"root at a Part", reachCore(), 18, all},
		{"null Homes", reach(func(c *impl.Core) { c.Sets[0].Home, c.Sets[1].Home = impl.Ptr{}, impl.Ptr{} }), 13, []int{13, 14, 15, 17, 18, 20}},
		{"a null Home", reach(func(c *impl.Core) { c.Sets[0].Home = impl.Ptr{} }), 13, []int{13, 14, 15, 16, 17, 18, 20}},
		{"no Parts", reach(func(c *impl.Core) { c.Parts = nil }), 13, []int{13, 14, 16, 17, 20, 30}},
		{"no Safe", reach(func(c *impl.Core) { c.Safe = nil }), 0, all},
		{"all Safe", reach(func(c *impl.Core) { c.Safe = allSectors() }), 0, all},
		{"all dirty", reach(func(c *impl.Core) { c.Dirty, c.Sets[0].Dirty = true, true }), 0, all},
		{"all at one sector", reach(func(c *impl.Core) {
			*c = coreOf(homed(coreVolume("a", ptr(14, 2, 1)), ptr(14, 1, 1)), homed(coreVolume("b"), ptr(14, 9, 1)))
			c.Parts = slices.Repeat([]impl.Ptr{ptr(14, 1, 1)}, mostParts)
		}), 14, []int{14}},
		{"all before the blocks", reach(func(c *impl.Core) {
			*c = coreOf(homed(coreVolume("a", ptr(12, 2, 1)), ptr(11, 1, 1)))
			c.Parts = []impl.Ptr{ptr(12, 1, 1), ptr(1, 1, 1)}
		}), 12, nil},
		{"nothing", impl.Core{}, 0, nil},
		{"only a root", impl.Core{}, 13, []int{13}},
		{"only Safe", impl.Core{Safe: []int{13, 20}}, 0, nil},
	} {
		if !impl.CoreOk(x.c) {
			t.Fatal(x.name, "is no case")
		}
		if list := impl.RoomReach(x.c, x.root); !slices.Equal(list, x.want) {
			t.Errorf("%s: %v, not %v", x.name, list, x.want)
		}
	}
}

func TestRoomReachOfCores(t *testing.T) {
	for name, c := range goodCores() {
		for root := -3; root < impl.DiskMaxAt+3; root++ {
			if list, want := impl.RoomReach(c, root), reachByHand(c, root); !slices.Equal(list, want) {
				t.Errorf("%s, root %d: %v, not %v", name, root, list, want)
			}
		}
	}
}

// roomStore is a store without texts: what is in memory, and what the last commit reaches.
type roomStore struct {
	c       impl.Core
	n       int
	root    int
	reached []int
}

// take is a sector that is free and not among those.
func (s *roomStore) take(t *testing.T, r *rand.Rand, taken map[int]bool) int {
	t.Helper()
	free := impl.RoomFree(s.c, s.n)
	free = slices.DeleteFunc(free, func(at int) bool { return taken[at] })
	if len(free) == 0 {
		t.Fatal("no room for a commit")
	}
	at := free[r.IntN(len(free))]
	taken[at] = true
	return at
}

// put sets a pointer to a new block, to one that is there already, or to none.
func (s *roomStore) put(t *testing.T, r *rand.Rand) {
	t.Helper()
	set := &s.c.Sets[r.IntN(len(s.c.Sets))]
	p := impl.Ptr{}
	switch r.IntN(4) {
	case 0:
		if len(s.c.Ddt) > 0 {
			e := s.c.Ddt[r.IntN(len(s.c.Ddt))]
			p = ptr(e.At, e.Sum, s.c.Txg+1)
		}
	case 1, 2:
		if impl.RoomMay(s.c, s.n) {
			p = ptr(s.take(t, r, map[int]bool{}), r.IntN(impl.SumMod), s.c.Txg+1)
		}
	}
	set.Map[r.IntN(impl.BookBlocks)] = p
	set.Dirty, s.c.Dirty = true, true
	s.c.Ddt = coreOf(s.c.Sets...).Ddt
}

// commit gives each set that is dirty a Home, the table its Parts and all a root, each a sector that is free.
func (s *roomStore) commit(t *testing.T, r *rand.Rand) {
	t.Helper()
	c, taken := ownCore(s.c), map[int]bool{}
	for i := range c.Sets {
		if c.Sets[i].Dirty {
			c.Sets[i].Home, c.Sets[i].Dirty = ptr(s.take(t, r, taken), 1, c.Txg+1), false
		}
	}
	if c.Dirty {
		c.Parts, c.Dirty = nil, false
		for i := 0; i < len(c.Ddt); i += impl.CorePart {
			c.Parts = append(c.Parts, ptr(s.take(t, r, taken), 1, c.Txg+1))
		}
	}
	s.root = s.take(t, r, taken)
	c.Txg++
	s.reached = reachByHand(c, s.root)
	c.Safe = impl.RoomReach(c, s.root)
	s.c = c
}

// newRoomStore is a store of n sectors with empty volumes.
func newRoomStore(t *testing.T, r *rand.Rand, n int) *roomStore {
	t.Helper()
	s := &roomStore{n: n}
	for i := range impl.BookMaxSets {
		set := coreVolume(string(rune('a' + i)))
		set.Dirty = true
		s.c.Sets = append(s.c.Sets, set)
	}
	s.c.Dirty = true
	s.commit(t, r)
	return s
}

// Promise 9: a free sector is reached neither by the state in memory nor by the last commit.
func TestRoomFreeIsNotReached(t *testing.T) {
	r := rand.New(rand.NewPCG(7, 9))
	for _, n := range []int{50, 64, 65, 80, impl.DiskMaxAt} {
		s := newRoomStore(t, r, n)
		released := 0
		for range 600 {
			if r.IntN(12) == 0 {
				s.commit(t, r)
			} else {
				s.put(t, r)
			}
			if !impl.CoreOk(s.c) {
				t.Fatalf("%+v", s.c)
			}
			splits(t, "a store", s.c, n)
			for _, at := range impl.RoomFree(s.c, n) {
				if slices.Contains(s.reached, at) || slices.Contains(reachByHand(s.c, s.root), at) {
					t.Fatalf("%d is free, the last commit reaches %v, and in memory is %+v", at, s.reached, s.c)
				}
			}
			now := reachByHand(s.c, s.root)
			if slices.ContainsFunc(s.reached, func(at int) bool { return !slices.Contains(now, at) }) {
				released++
			}
		}
		if released < 100 {
			t.Error(n, "sectors: released since the last commit only", released, "times")
		}
	}
}

// Promise 9: a sector that was released since the last commit is free only after the next one.
func TestRoomReleasedIsFreeAfterCommit(t *testing.T) {
	c := coreOf(homed(coreVolume("v", ptr(14, 7, 1), ptr(15, 8, 1)), ptr(16, 1, 1)))
	c.Txg, c.Parts = 1, []impl.Ptr{ptr(17, 1, 1)}
	c.Safe = impl.RoomReach(c, 13)
	steps := []struct {
		name   string
		change func()
		free   []int
		sums   [3]int
	}{
		{"after the commit", func() {}, []int{18, 19, 20, 21}, [3]int{2, 3, 4}},
		{"released", func() { c.Sets[0].Map[1] = impl.Ptr{} }, []int{18, 19, 20, 21}, [3]int{1, 4, 4}},
		{"another one added", func() { c.Sets[0].Map[2] = ptr(18, 9, 2) }, []int{19, 20, 21}, [3]int{2, 4, 3}},
		{"the other one released", func() { c.Sets[0].Map[2] = impl.Ptr{} }, []int{18, 19, 20, 21}, [3]int{1, 4, 4}},
		{"the next commit", func() {
			c.Sets[0].Home, c.Parts = ptr(18, 1, 2), []impl.Ptr{ptr(19, 1, 2)}
			c.Safe = impl.RoomReach(c, 20)
		}, []int{13, 15, 16, 17, 21}, [3]int{1, 3, 5}},
	}
	for _, step := range steps {
		step.change()
		c.Ddt = coreOf(c.Sets...).Ddt
		a, b, e := impl.RoomSums(c, 22)
		if free := impl.RoomFree(c, 22); !slices.Equal(free, step.free) || step.sums != [3]int{a, b, e} {
			t.Errorf("%s: %v, %d %d %d", step.name, free, a, b, e)
		}
	}
}

// What is told of a core leaves it and what is behind it, and has memory of its own.
func TestRoomsShareNoMemory(t *testing.T) {
	for name, call := range map[string]func(c impl.Core) []int{
		"RoomFree":           func(c impl.Core) []int { return impl.RoomFree(c, 60) },
		"RoomReach":          func(c impl.Core) []int { return impl.RoomReach(c, 55) },
		"RoomReach, far":     func(c impl.Core) []int { return impl.RoomReach(c, impl.DiskMaxAt) },
		"RoomFree, refused":  func(c impl.Core) []int { return impl.RoomFree(c, impl.DiskMaxAt+1) },
		"RoomReach, nothing": func(c impl.Core) []int { return impl.RoomReach(impl.Core{Safe: c.Safe}, 0) },
	} {
		c, room := roomyCore()
		impl.RoomMay(c, 60)
		impl.RoomSums(c, 60)
		first, second := call(c), call(c)
		want := slices.Clone(second)
		for i := range first[:cap(first)] {
			first[:cap(first)][i] = -9
		}
		if _, fresh := roomyCore(); !sameCore(room, fresh) {
			t.Error(name, "has changed an argument:", room)
		}
		spoilCore(c)
		if !slices.Equal(second, want) {
			t.Error(name, "has a result that changes:", second)
		}
	}
}

// A core that is asked twice tells the same twice, whatever was asked between.
func TestRoomsKeepNothing(t *testing.T) {
	cores := goodCores()
	names := slices.Sorted(maps.Keys(cores))
	told := map[string][]int{}
	for range 2 {
		for _, name := range names {
			list := slices.Concat(impl.RoomFree(cores[name], 70), []int{-1}, impl.RoomReach(cores[name], 69))
			if before, there := told[name]; there && !slices.Equal(before, list) {
				t.Errorf("%s: %v and then %v", name, before, list)
			}
			told[name] = list
		}
	}
}
