package tests

import (
	"math"
	"math/rand/v2"
	"slices"
	"strconv"
	"strings"
	"testing"

	"loop.example/palim/impl"
)

// The operations by their names, but for puts.
func makes(a string) impl.BookOp            { return impl.BookOp{Kind: impl.BookMakes, A: a} }
func kills(a string) impl.BookOp            { return impl.BookOp{Kind: impl.BookKills, A: a} }
func snaps(a string, b string) impl.BookOp  { return impl.BookOp{Kind: impl.BookSnaps, A: a, B: b} }
func clones(a string, b string) impl.BookOp { return impl.BookOp{Kind: impl.BookClones, A: a, B: b} }
func goes(a string, b string) impl.BookOp   { return impl.BookOp{Kind: impl.BookGoes, A: a, B: b} }

// poolOf is a store that is up.
func poolOf(d impl.Disk, c impl.Core) impl.Pool {
	return impl.Pool{Disk: d, Core: c, Up: true}
}

// down is a store that is not up.
func down(p impl.Pool) impl.Pool {
	p.Up = false
	return p
}

// samePool compares two stores without the function under test.
func samePool(a impl.Pool, b impl.Pool) bool {
	return sameDisk(a.Disk, b.Disk) && sameCore(a.Core, b.Core) && a.Up == b.Up
}

// ownPool is a copy that shares no list with the store.
func ownPool(p impl.Pool) impl.Pool {
	p.Disk, p.Core = ownDisk(p.Disk), ownCore(p.Core)
	return p
}

// bookPool is a store that has the blocks of a book, behind commit 5.
func bookPool(b impl.Book) impl.Pool {
	d, c := stored(b)
	c.Txg = 5
	return poolOf(impl.DiskFlush(d), c)
}

// smallPool is smallCore with its blocks, and with late writes of other sectors.
func smallPool() impl.Pool {
	p := bookPool(smallBook())
	p.Core = smallCore()
	p.Disk.Late = []impl.DiskLate{late(0, 0, "late"), late(1, 99, "later")}
	return p
}

// goodPool says by hand whether a store is valid.
func goodPool(p impl.Pool) bool {
	return impl.DiskOk(p.Disk) && len(p.Disk.Sides[0]) > 13 && coreByHand(p.Core)
}

// setAt is the index of the set of that name; -1, if there is none.
func setAt(c impl.Core, name string) int {
	return slices.IndexFunc(c.Sets, func(set impl.CoreSet) bool { return set.Name == name })
}

// shapeOf is the book of a state with empty blocks.
func shapeOf(c impl.Core) impl.Book {
	var b impl.Book
	for _, set := range c.Sets {
		b.Sets = append(b.Sets, setOf(set.Name, set.Kind, set.From))
	}
	return b
}

// callByHand is what PoolCall returns.
func callByHand(p impl.Pool, op impl.BookOp) (impl.Pool, int) {
	if !goodPool(p) {
		return impl.Pool{}, impl.BookForm
	}
	if !p.Up {
		return p, impl.PoolDown
	}
	if _, code := impl.BookDo(shapeOf(p.Core), op); code != impl.BookDone {
		return p, code
	}
	if op.Kind == impl.BookPuts {
		return writeByHand(p, op)
	}
	if x := commitByHand(p.Disk, turnedByHand(p.Core, op)); x.code == impl.BookDone {
		return poolOf(x.disk, x.core), impl.BookDone
	}
	return p, impl.BookRoom
}

// turnedByHand is a state behind an operation other than a write, which the book does, ahead of the commit.
func turnedByHand(c impl.Core, op impl.BookOp) impl.Core {
	c, dirty := setsByHand(c, op)
	slices.SortFunc(c.Sets, func(a, b impl.CoreSet) int { return strings.Compare(a.Name, b.Name) })
	c.Ddt, c.Dirty = coreOf(c.Sets...).Ddt, c.Dirty || dirty
	return c
}

// setsByHand is a state with the sets behind an operation other than a write, in some order, and whether a pointer is counted or discounted.
func setsByHand(c impl.Core, op impl.BookOp) (impl.Core, bool) {
	c = ownCore(c)
	a, b := setAt(c, op.A), setAt(c, op.B)
	null := [8]impl.Ptr{}
	set := coreVolume(op.A)
	switch op.Kind {
	case impl.BookKills:
		gone := c.Sets[a].Map
		c.Sets = slices.Delete(c.Sets, a, a+1)
		return c, gone != null
	case impl.BookGoes:
		gone := c.Sets[a].Map
		c.Sets[a].Map, c.Sets[a].Dirty = c.Sets[b].Map, true
		return c, gone != null || c.Sets[b].Map != null
	case impl.BookSnaps:
		set = coreSet(op.B, 2, op.A, c.Sets[a].Map[:]...)
	case impl.BookClones:
		set = coreSet(op.B, 1, op.A, c.Sets[a].Map[:]...)
	}
	set.Dirty = true
	c.Sets = append(c.Sets, set)
	return c, set.Map != null
}

// writeByHand is what PoolCall returns for a write that the book does.
func writeByHand(p impl.Pool, op impl.BookOp) (impl.Pool, int) {
	d, c := ownDisk(p.Disk), ownCore(p.Core)
	if c.LogN == 8 {
		x := commitByHand(d, c)
		if x.code != impl.BookDone {
			return p, x.code
		}
		d, c = ownDisk(x.disk), ownCore(x.core)
	}
	if !pointByHand(&d, &c, op) {
		return p, impl.BookRoom
	}
	d, c, ok := putByHand(d, c, puts(op.A, op.I, op.Text))
	if !ok {
		return p, impl.BookRoom
	}
	return poolOf(d, c), impl.BookDone
}

// pointByHand makes a block point at what a write sets it to, and says whether there is room for that. The lists of the disk and of the state have to be its own.
func pointByHand(d *impl.Disk, c *impl.Core, op impl.BookOp) bool {
	next := impl.Ptr{}
	if op.Text != "" {
		at := placeByHand(d, *c, op.Text)
		if c.Txg == 1000000 || at == 0 {
			return false
		}
		next = ptr(at, impl.SumOf(op.Text), c.Txg+1)
	}
	set := &c.Sets[setAt(*c, op.A)]
	if old := set.Map[op.I]; next.At == 0 || next.At != old.At {
		set.Map[op.I], set.Dirty = next, true
		c.Dirty = c.Dirty || old.At != 0 || next.At != 0
		c.Ddt = coreOf(c.Sets...).Ddt
	}
	return true
}

// placeByHand is the sector of the first block that has a text, or else the first free one, to which the text is written; 0, if there is no room.
func placeByHand(d *impl.Disk, c impl.Core, text string) int {
	for _, e := range c.Ddt {
		for side := range d.Sides {
			// The first side that has the sum tells.
			if read, ok := impl.DiskRead(*d, side, e.At); ok && impl.SumOf(read) == e.Sum {
				if read == text {
					return e.At
				}
				break
			}
		}
	}
	if !mayByHand(c, len(d.Sides[0])) || len(d.Late) > 598 {
		return 0
	}
	_, _, free := shareByHand(c, len(d.Sides[0]))
	d.Late = append(d.Late, late(0, free[0], text), late(1, free[0], text))
	return free[0]
}

// calls fails unless PoolCall returns what the document says, and leaves its argument. It returns the result.
func calls(t *testing.T, name string, p impl.Pool, op impl.BookOp) (impl.Pool, int) {
	t.Helper()
	want, wantCode := callByHand(p, op)
	old := ownPool(p)
	x, code := impl.PoolCall(p, op)
	if code != wantCode || !samePool(x, want) {
		t.Errorf("%s, %.99q: code %d, not %d: %+v, not %+v %s", name, kindOf(op), code, wantCode, x.Core, want.Core, otherwise(x.Disk, want.Disk))
	}
	if code != impl.BookDone && code != impl.BookForm && !samePool(x, old) || !samePool(p, old) {
		t.Errorf("%s, %.99q: the store has changed", name, kindOf(op))
	}
	return x, code
}

// kindOf tells of an operation.
func kindOf(op impl.BookOp) string {
	return strconv.Itoa(op.Kind) + " " + op.A + " " + op.B + " " + strconv.Itoa(op.I) + " " + op.Text
}

// called is a store after operations, each of which has to be done.
func called(t *testing.T, p impl.Pool, ops ...impl.BookOp) impl.Pool {
	t.Helper()
	for i, op := range ops {
		x, code := calls(t, "operation "+strconv.Itoa(i), p, op)
		if code != impl.BookDone {
			t.Fatalf("operation %d, %q: code %d", i, kindOf(op), code)
		}
		p = x
	}
	return p
}

// callRefused fails unless an operation has a code, and leaves the store as it was.
func callRefused(t *testing.T, name string, p impl.Pool, op impl.BookOp, want int) {
	t.Helper()
	if x, code := calls(t, name, p, op); code != want || !samePool(x, p) {
		t.Errorf("%s, %.99q: code %d, not %d", name, kindOf(op), code, want)
	}
}

// places is the sectors of the blocks of a set; 0 for those that are empty.
func places(p impl.Pool, name string) [8]int {
	var ats [8]int
	for k, q := range p.Core.Sets[setAt(p.Core, name)].Map {
		ats[k] = q.At
	}
	return ats
}

func TestPoolLimits(t *testing.T) {
	codes := []int{impl.BookDone, impl.BookNone, impl.BookThere, impl.BookKind, impl.BookFull, impl.BookForm, impl.BookBusy, impl.BookRoom, impl.PoolBad, impl.PoolDown}
	if !slices.Equal(codes, upTo(0, 10)) {
		t.Error(codes)
	}
}

// A store has at least one sector for a block, for its root, and at most DiskMaxAt.
func TestPoolOpen(t *testing.T) {
	for n := -20; n < 300; n++ {
		p := impl.PoolOpen(n)
		if n < 14 || n > 120 {
			if !samePool(p, impl.Pool{}) {
				t.Errorf("%d sectors: %+v", n, p)
			}
			continue
		}
		want := diskOf(make([]string, n), make([]string, n))
		for side := range want.Sides {
			want.Sides[side][13] = "root"
			want.Sides[side][2] = impl.SumSeal("1 13." + strconv.Itoa(impl.SumOf("root")) + ".1 1")
		}
		if !samePool(p, poolOf(want, impl.Core{Txg: 1, Safe: []int{13}})) || !impl.PoolOk(p) {
			t.Errorf("%d sectors: %+v %v %s", n, p.Core, p.Up, otherwise(p.Disk, want))
		}
	}
	for _, n := range []int{math.MinInt, math.MinInt + 60, -60, 316, 65596, 4294967356, math.MaxInt} {
		if p := impl.PoolOpen(n); !samePool(p, impl.Pool{}) {
			t.Errorf("%d sectors: %+v", n, p)
		}
	}
}

// badPools is stores that break one condition each.
func badPools() map[string]impl.Pool {
	pools := map[string]impl.Pool{"zero value": {}, "only a state": {Core: smallCore()}}
	for name, d := range badDisks() {
		pools["disk: "+name] = poolOf(d, impl.Core{Txg: 1})
		for side := range d.Sides {
			d.Sides[side] = append(slices.Clone(d.Sides[side]), make([]string, 40)...)
		}
		if !impl.DiskOk(d) {
			pools["disk with more sectors: "+name] = poolOf(d, smallCore())
		}
	}
	for name, c := range badCores() {
		pools["state: "+name] = poolOf(wideDisk(60, late(0, 3, "late")), c)
	}
	for n := 1; n <= 13; n++ {
		pools[strconv.Itoa(n)+" sectors"] = poolOf(wideDisk(n), impl.Core{Txg: 1})
	}
	for name, p := range pools {
		pools[name+", not up"] = down(p)
	}
	return pools
}

func TestPoolOk(t *testing.T) {
	for name, c := range goodCores() {
		for _, n := range []int{14, 15, 60, 119, 120} {
			for _, p := range []impl.Pool{poolOf(wideDisk(n), c), down(poolOf(impl.DiskOpen(n), c)), poolOf(wideDisk(n, lates(600)...), c)} {
				if !impl.PoolOk(p) {
					t.Errorf("%s, %d sectors: not valid", name, n)
				}
			}
		}
	}
	for name, p := range badPools() {
		if impl.PoolOk(p) {
			t.Errorf("%s: valid", name)
		}
	}
	for name, d := range goodDisks() {
		if impl.PoolOk(poolOf(d, impl.Core{})) != (name == "most sectors") {
			t.Error(name)
		}
	}
}

// onePoolChange is changes of exactly one field each of smallPool.
func onePoolChange() map[string]func(p *impl.Pool) {
	changes := map[string]func(p *impl.Pool){
		"Up":                     func(p *impl.Pool) { p.Up = false },
		"a text of side 0":       func(p *impl.Pool) { p.Disk.Sides[0][13] += "!" },
		"a text of side 1":       func(p *impl.Pool) { p.Disk.Sides[1][119] = "!" },
		"a sector less, side 0":  func(p *impl.Pool) { p.Disk.Sides[0] = p.Disk.Sides[0][:119] },
		"a sector less, side 1":  func(p *impl.Pool) { p.Disk.Sides[1] = p.Disk.Sides[1][:119] },
		"a sector more, side 0":  func(p *impl.Pool) { p.Disk.Sides[0] = append(p.Disk.Sides[0], "") },
		"a sector more, side 1":  func(p *impl.Pool) { p.Disk.Sides[1] = append(p.Disk.Sides[1], "") },
		"no disk":                func(p *impl.Pool) { p.Disk = impl.Disk{} },
		"no state":               func(p *impl.Pool) { p.Core = impl.Core{} },
		"no late writes":         func(p *impl.Pool) { p.Disk.Late = nil },
		"a late write less":      func(p *impl.Pool) { p.Disk.Late = p.Disk.Late[:1] },
		"a late write more":      func(p *impl.Pool) { p.Disk.Late = append(p.Disk.Late, impl.DiskLate{}) },
		"late writes turned":     func(p *impl.Pool) { slices.Reverse(p.Disk.Late) },
		"a side of a late write": func(p *impl.Pool) { p.Disk.Late[1].Side = 0 },
		"an At of a late write":  func(p *impl.Pool) { p.Disk.Late[0].At++ },
		"a text of a late write": func(p *impl.Pool) { p.Disk.Late[1].Text += " " },
	}
	for name, change := range fieldChanges() {
		changes["state: "+name] = func(p *impl.Pool) { change(&p.Core) }
	}
	return changes
}

func TestPoolSame(t *testing.T) {
	for name, change := range onePoolChange() {
		p, q := smallPool(), smallPool()
		change(&p)
		if impl.PoolSame(p, q) || impl.PoolSame(q, p) || !impl.PoolSame(p, ownPool(p)) {
			t.Error(name)
		}
	}
	if !impl.PoolSame(smallPool(), smallPool()) || !impl.PoolSame(impl.PoolOpen(60), impl.PoolOpen(60)) || impl.PoolSame(impl.PoolOpen(60), impl.PoolOpen(61)) {
		t.Error("stores that are valid")
	}
	for name, p := range badPools() {
		if !impl.PoolSame(p, ownPool(p)) || impl.PoolSame(p, smallPool()) || impl.PoolSame(smallPool(), p) || impl.PoolSame(p, impl.Pool{Up: !p.Up}) {
			t.Error(name)
		}
	}
	empty := impl.Pool{
		Disk: impl.Disk{Sides: [2][]string{{}, {}}, Late: []impl.DiskLate{}},
		Core: impl.Core{Sets: []impl.CoreSet{}, Ddt: []impl.DdtEntry{}, Parts: []impl.Ptr{}, Safe: []int{}},
	}
	if !impl.PoolSame(empty, impl.Pool{}) || !impl.PoolSame(impl.Pool{}, empty) || impl.PoolSame(empty, impl.Pool{Up: true}) {
		t.Error("nil lists and empty ones")
	}
}

// Whatever a store is asked, it is the zero value if it is not valid, whether it is up or not.
func TestPoolsThatAreNotValid(t *testing.T) {
	ops := []impl.BookOp{{}, makes("y"), makes("V"), kills("v"), puts("v", 0, "a"), puts("v", 9, "a"), snaps("v", "y"), clones("s", "y"), goes("v", "s")}
	for name, p := range badPools() {
		for _, op := range ops {
			if x, code := impl.PoolCall(p, op); code != impl.BookForm || !samePool(x, impl.Pool{}) {
				t.Errorf("%s, %q: code %d, %+v", name, kindOf(op), code, x)
			}
		}
		for _, i := range []int{-1, 0, 7, 8} {
			if text, code := impl.PoolGet(p, "v", i); text != "" || code != impl.BookForm {
				t.Errorf("%s, block %d: %q %d", name, i, text, code)
			}
		}
		if x, code := impl.PoolCommit(p); code != impl.BookForm || !samePool(x, impl.Pool{}) {
			t.Errorf("%s, commit: code %d, %+v", name, code, x)
		}
		for which, x := range map[string]impl.Pool{
			"sync": impl.PoolSync(p), "fall": impl.PoolFall(p, nil), "all kept": impl.PoolFall(p, slices.Repeat([]int{1}, 700)),
			"rot": impl.PoolRot(p, 0, 0, 0, 1), "no rot": impl.PoolRot(p, -1, 0, 0, 0),
		} {
			if !samePool(x, impl.Pool{}) {
				t.Errorf("%s, %s: %+v", name, which, x)
			}
		}
	}
}

// Promise 13: what a store does is what the abstract store does.
func TestPoolDoesWhatTheBookDoes(t *testing.T) {
	for _, x := range append(newSetCases(), changeCases()...) {
		p, code := calls(t, x.name, bookPool(x.b), x.op)
		if code != impl.BookDone || !p.Up || !sameBook(bookOn(t, p.Disk, p.Core), x.want) {
			t.Errorf("%s: code %d, %+v", x.name, code, p.Core)
		}
		reads(t, x.name, p, x.want)
		callRefused(t, x.name+", not up", down(bookPool(x.b)), x.op, impl.PoolDown)
	}
}

// reads fails unless PoolGet reads what a book has.
func reads(t *testing.T, name string, p impl.Pool, b impl.Book) {
	t.Helper()
	for _, set := range b.Sets {
		for i, want := range set.Blocks {
			if text, code := impl.PoolGet(p, set.Name, i); text != want || code != impl.BookDone {
				t.Errorf("%s: block %d of %s: %q, code %d, not %q", name, i, set.Name, text, code, want)
			}
		}
	}
}

// Promise 13: what the abstract store refuses, a store refuses with the same code, in every field as it was.
func TestPoolRefusesWhatTheBookRefuses(t *testing.T) {
	p := bookPool(fullBook())
	p.Core.LogN, p.Core.Safe = 3, []int{13, 15, 60}
	p.Disk.Late = []impl.DiskLate{late(1, 7, "late")}
	seen := map[[2]int]int{}
	for _, x := range refusals() {
		callRefused(t, "full", p, x.op, x.code)
		callRefused(t, "full, not up", down(p), x.op, impl.PoolDown)
		seen[[2]int{x.op.Kind, x.code}]++
	}
	for kind, codes := range [][]int{
		{impl.BookForm}, {impl.BookForm, impl.BookThere, impl.BookFull}, {impl.BookNone, impl.BookBusy}, {impl.BookNone, impl.BookForm, impl.BookKind},
		{impl.BookNone, impl.BookKind, impl.BookForm, impl.BookThere, impl.BookFull}, {impl.BookNone, impl.BookKind, impl.BookForm, impl.BookThere, impl.BookFull}, {impl.BookNone, impl.BookKind},
	} {
		for _, code := range codes {
			if seen[[2]int{kind, code}] == 0 {
				t.Error("kind", kind, "never has code", code)
			}
		}
	}
	// The book's code comes ahead of anything that has no room.
	p.Core.Txg, p.Core.LogN, p.Disk.Late = impl.BlkMaxBirth, impl.CoreLogs, lates(600)
	for _, x := range refusals() {
		callRefused(t, "no room", p, x.op, x.code)
	}
}

// The sizes of blocks that other layers leave in a state say nothing of what the book refuses, as its blocks are empty there.
func TestPoolTakesLongBlocks(t *testing.T) {
	long := strings.Repeat("l", 300)
	d, _ := impl.BlkWrite(wideDisk(60), 20, long)
	p := poolOf(impl.DiskFlush(d), coreOf(coreVolume("v", impl.BlkTo(20, long, 1))))
	p.Core.Txg = 1
	if text, code := impl.PoolGet(p, "v", 0); text != long || code != impl.BookDone {
		t.Errorf("%q %d", text, code)
	}
	p = called(t, p, snaps("v", "s"), puts("v", 1, "x"), goes("v", "s"), clones("s", "c"), kills("c"), puts("v", 0, ""))
	if text, code := impl.PoolGet(p, "s", 0); text != long || code != impl.BookDone {
		t.Errorf("%q %d", text, code)
	}
}

// ownOps is operations on smallPool, of each kind and with each code that the book may have.
func ownOps() []impl.BookOp {
	withB := puts("v", 2, "fresh")
	withB.B = "s"
	return []impl.BookOp{
		makes("a"), makes("m"), makes("zz"), makes("v"), makes("V"), kills("c"), kills("s"), kills("n"), snaps("v", "y"), snaps("c", "b"), snaps("s", "y"), snaps("v", "w"), snaps("w", ""),
		clones("s", "y"), clones("x", "a"), clones("v", "y"), clones("s", "s"), goes("v", "s"), goes("w", "x"), goes("c", "s"), goes("v", "n"), {}, {Kind: 7, A: "v"},
		puts("v", 0, "one"), puts("v", 1, "one"), puts("v", 1, "new"), puts("v", 0, "last"), puts("v", 2, ""), puts("v", 0, ""), puts("w", 0, ""), puts("v", 7, "other"), puts("w", 0, "past"), puts("c", 2, "two"),
		puts("v", 0, "fresh"), puts("v", 4, "fresh"), puts("c", 7, longestText()), puts("w", 0, "\xff\x00"), puts("s", 0, "one"), puts("v", 8, "one"), puts("v", -1, ""), puts("v", 0, longestText()+"o"), withB,
	}
}

// Each kind of state, behind several commits, with each number of records.
func TestPoolCallOfStates(t *testing.T) {
	seen := map[[2]int]int{}
	for name, c := range logCores() {
		p := smallPool()
		p.Core = c
		for _, op := range ownOps() {
			_, code := calls(t, name, p, op)
			seen[[2]int{op.Kind, code}]++
		}
	}
	for kind := impl.BookMakes; kind <= impl.BookGoes; kind++ {
		// A set that is removed or reset comes up in stores with room only.
		if seen[[2]int{kind, impl.BookDone}] == 0 || seen[[2]int{kind, impl.BookRoom}] == 0 {
			t.Error("kind", kind, seen)
		}
	}
	for name, c := range goodCores() {
		for _, n := range []int{14, 46, 60, 90, 120} {
			for _, op := range ownOps() {
				calls(t, name+", "+strconv.Itoa(n)+" sectors", poolOf(wideDisk(n, late(1, 3, "late")), c), op)
			}
		}
	}
}

// Where a store has few sectors, or many late writes, there is room for some operations and not for other ones.
func TestPoolCallNeedsRoom(t *testing.T) {
	script := []impl.BookOp{
		makes("v"), puts("v", 0, "one"), puts("v", 1, "two"), puts("v", 2, "one"), snaps("v", "s"), puts("v", 0, "three"), clones("s", "c"), goes("v", "s"), kills("c"), makes("w"),
		puts("w", 0, "four"), puts("w", 1, "five"), puts("w", 2, "six"), puts("w", 3, "seven"), puts("w", 4, "eight"), puts("w", 5, "nine"), puts("w", 6, "ten"), puts("w", 7, "eleven"), puts("w", 0, "twelve"),
		puts("v", 1, ""), snaps("w", "x"), clones("x", "y"), kills("y"), goes("w", "x"), kills("x"), kills("w"),
	}
	seen := map[[2]int]int{}
	for n := 14; n <= 70; n++ {
		p := impl.PoolOpen(n)
		for _, op := range script {
			x, code := calls(t, strconv.Itoa(n)+" sectors", p, op)
			seen[[2]int{op.Kind, code}]++
			for _, k := range []int{580, 590, 596, 597, 598, 599, 600} {
				q := ownPool(p)
				q.Disk.Late = append(q.Disk.Late, lates(k-len(q.Disk.Late))...)
				calls(t, strconv.Itoa(n)+" sectors, "+strconv.Itoa(k)+" late writes", q, op)
			}
			p = x
		}
	}
	for kind := impl.BookMakes; kind <= impl.BookGoes; kind++ {
		if seen[[2]int{kind, impl.BookDone}] == 0 {
			t.Error("kind", kind, seen)
		}
	}
	if seen[[2]int{impl.BookMakes, impl.BookRoom}] == 0 || seen[[2]int{impl.BookPuts, impl.BookRoom}] == 0 {
		t.Error(seen)
	}
}

// A new store of 16 sectors has room for a volume; one of 46 has room for one block, one of 45 for none.
func TestPoolOfFewSectors(t *testing.T) {
	for n, code := range map[int]int{14: impl.BookRoom, 15: impl.BookRoom, 16: impl.BookDone} {
		if _, c := calls(t, "few sectors", impl.PoolOpen(n), makes("v")); c != code {
			t.Error(n, c)
		}
	}
	callRefused(t, "16 sectors", called(t, impl.PoolOpen(16), makes("v")), makes("w"), impl.BookRoom)
	callRefused(t, "16 sectors", called(t, impl.PoolOpen(16), makes("v")), puts("v", 0, "a"), impl.BookRoom)
	called(t, impl.PoolOpen(16), makes("v"), puts("v", 0, ""))
	callRefused(t, "45 sectors", called(t, impl.PoolOpen(45), makes("v")), puts("v", 0, "a"), impl.BookRoom)
	p := called(t, impl.PoolOpen(46), makes("v"), puts("v", 0, "a"), puts("v", 1, "a"))
	callRefused(t, "46 sectors", p, puts("v", 2, "b"), impl.BookRoom)
	// One text more than there is room for takes no place of the one that it would replace.
	p = called(t, p, puts("v", 1, ""))
	callRefused(t, "46 sectors", p, puts("v", 0, "b"), impl.BookRoom)
	called(t, p, puts("v", 0, ""), puts("v", 0, "b"))
}

// New stores and their first operations, in every field.
func TestPoolFirstOperations(t *testing.T) {
	p := called(t, impl.PoolOpen(60), makes("v"))
	v := homed(coreVolume("v"), impl.BlkTo(14, "- - - - - - - -", 2))
	if want := (impl.Core{Txg: 2, Sets: []impl.CoreSet{v}, Safe: []int{14, 15}}); !sameCore(p.Core, want) {
		t.Fatalf("%+v", p.Core)
	}
	p = called(t, p, puts("v", 0, "x"))
	v.Map[0], v.Dirty = impl.BlkTo(13, "x", 3), true
	sum := impl.SumOf("x")
	if want := (impl.Core{Txg: 2, Sets: []impl.CoreSet{v}, Ddt: entries(entry(sum, 13, 1)), Dirty: true, Safe: []int{14, 15}, LogN: 1}); !sameCore(p.Core, want) {
		t.Fatalf("%+v", p.Core)
	}
	record := recWords("2.0", "v", "0", "78", "2.0")
	if want := []impl.DiskLate{late(0, 13, "x"), late(1, 13, "x"), late(0, 5, record), late(1, 5, record)}; !slices.Equal(p.Disk.Late, want) {
		t.Fatalf("%+v", p.Disk.Late)
	}
	p = called(t, p, snaps("v", "s"))
	text := "13." + strconv.Itoa(sum) + ".3 - - - - - - -"
	part := impl.BlkTo(18, strconv.Itoa(sum)+".13.2", 3)
	v.Home, v.Dirty = impl.BlkTo(17, text, 3), false
	s := homed(coreSet("s", impl.BookSnapshot, "v", v.Map[0]), impl.BlkTo(16, text, 3))
	if want := (impl.Core{Txg: 3, Sets: []impl.CoreSet{s, v}, Ddt: entries(entry(sum, 13, 2)), Parts: []impl.Ptr{part}, Safe: []int{13, 16, 17, 18, 19}}); !sameCore(p.Core, want) {
		t.Fatalf("%+v", p.Core)
	}
	if len(p.Disk.Late) != 0 || p.Disk.Sides[0][19] != impl.CoreRoot(p.Core) || p.Disk.Sides[1][16] != text {
		t.Fatalf("%+v", p.Disk)
	}
}

// A block that is overwritten by its own text is logged, and else as it was.
func TestPoolPutsWhatIsThere(t *testing.T) {
	p := called(t, impl.PoolOpen(60), makes("v"), puts("v", 0, "x"), puts("v", 1, "y"), snaps("v", "s"))
	q := called(t, p, puts("v", 0, "x"))
	want := ownCore(p.Core)
	want.LogN = 1
	record := recText(recOf(p.Core.Txg, 0, puts("v", 0, "x")))
	if !sameCore(q.Core, want) || !slices.Equal(q.Disk.Late, []impl.DiskLate{late(0, 5, record), late(1, 5, record)}) {
		t.Errorf("%+v %+v", q.Core, q.Disk.Late)
	}
	if q.Core.Sets[1].Dirty || q.Core.Dirty || q.Core.Sets[1].Map[0].Birth != 3 {
		t.Errorf("%+v", q.Core)
	}
	// An empty block is null as it was, but its set is Dirty.
	q = called(t, p, puts("v", 5, ""))
	want.Sets[1].Dirty = true
	if !sameCore(q.Core, want) || len(q.Disk.Late) != 2 {
		t.Errorf("%+v %+v", q.Core, q.Disk.Late)
	}
}

// A block that gets a text that is stored already points at that block, from the next commit on.
func TestPoolPutsWhatIsStored(t *testing.T) {
	p := called(t, impl.PoolOpen(60), makes("v"), puts("v", 0, "x"), puts("v", 1, "y"), makes("w"), puts("w", 0, "z"), snaps("w", "s"), puts("w", 0, "new"))
	at := map[string]int{"x": places(p, "v")[0], "y": places(p, "v")[1], "z": places(p, "s")[0], "new": places(p, "w")[0]}
	for text, kept := range map[string]string{"y": "another block of the set", "new": "another set", "z": "a snapshot"} {
		q := called(t, p, puts("v", 0, text))
		if m := q.Core.Sets[setAt(q.Core, "v")].Map[0]; m != impl.BlkTo(at[text], text, p.Core.Txg+1) {
			t.Errorf("%s: %+v", kept, m)
		}
		// The block x is not reached any more, and the last commit reaches it.
		if impl.DdtCount(q.Core.Ddt, at["x"]) != 0 || impl.DdtCount(q.Core.Ddt, at[text]) != 2 || len(q.Disk.Late) != len(p.Disk.Late)+2 || !slices.Contains(q.Core.Safe, at["x"]) {
			t.Errorf("%s: %+v", kept, q.Core)
		}
	}
	q := called(t, p, puts("v", 0, ""))
	if m := q.Core.Sets[setAt(q.Core, "v")].Map[0]; m != (impl.Ptr{}) || impl.DdtCount(q.Core.Ddt, at["x"]) != 0 || !q.Core.Dirty {
		t.Errorf("%+v", q.Core)
	}
	q = called(t, p, puts("v", 1, "x"), puts("v", 0, ""))
	if impl.DdtCount(q.Core.Ddt, at["x"]) != 1 || impl.DdtCount(q.Core.Ddt, at["y"]) != 0 {
		t.Errorf("%+v", q.Core)
	}
}

// The sector of a block that no pointer refers to is free at once, unless the last commit reaches it; then it is free behind the next one.
func TestPoolFreesWhatNothingPointsAt(t *testing.T) {
	free := func(p impl.Pool, at int) bool { return slices.Contains(impl.RoomFree(p.Core, 60), at) }
	p := called(t, impl.PoolOpen(60), makes("v"), puts("v", 0, "x"))
	at := places(p, "v")[0]
	if free(p, at) {
		t.Error("free while it is reached")
	}
	q := called(t, p, puts("v", 0, "y"))
	if !free(q, at) {
		t.Error("not free, but no commit reaches it")
	}
	if q = called(t, q, puts("v", 1, "z")); places(q, "v")[1] != at {
		t.Error("not taken:", q.Core.Sets)
	}
	p, _ = impl.PoolCommit(p)
	for name, op := range map[string]impl.BookOp{"another text": puts("v", 0, "y"), "no text": puts("v", 0, "")} {
		q = called(t, p, op)
		if free(q, at) || impl.DdtCount(q.Core.Ddt, at) != 0 {
			t.Errorf("%s: free, but the last commit reaches it: %+v", name, q.Core)
		}
		if q, _ = impl.PoolCommit(q); !free(q, at) {
			t.Errorf("%s: not free behind the next commit: %+v", name, q.Core)
		}
	}
	if q = called(t, p, kills("v")); !free(q, at) || len(q.Core.Ddt) != 0 || len(q.Core.Parts) != 0 {
		t.Errorf("not free without its set: %+v", q.Core)
	}
	q = called(t, p, snaps("v", "s"), puts("v", 0, ""), kills("s"))
	if !free(q, at) || len(q.Core.Ddt) != 0 {
		t.Errorf("not free without its snapshot: %+v", q.Core)
	}
	q = called(t, p, snaps("v", "s"), puts("v", 0, ""), goes("v", "s"), kills("s"))
	if free(q, at) || impl.DdtCount(q.Core.Ddt, at) != 1 || places(q, "v")[0] != at {
		t.Errorf("free behind a reset: %+v", q.Core)
	}
}

// A set that is added or removed makes the table Dirty only if it has pointers, so only then are new Parts written.
func TestPoolWritesTheTableIfCounted(t *testing.T) {
	p := called(t, impl.PoolOpen(60), makes("v"), puts("v", 0, "x"), makes("w"), snaps("w", "e"), snaps("v", "s"))
	for name, x := range map[string]struct {
		op     impl.BookOp
		writes bool
	}{
		"a new volume":                {makes("a"), false},
		"a removed empty snapshot":    {kills("e"), false},
		"a removed snapshot":          {kills("s"), true},
		"a snapshot of nothing":       {snaps("w", "y"), false},
		"a snapshot":                  {snaps("v", "y"), true},
		"a clone of nothing":          {clones("e", "y"), false},
		"a clone":                     {clones("s", "y"), true},
		"a reset of nothing":          {goes("w", "e"), false},
		"a reset to the set's own":    {goes("v", "s"), true},
		"an empty block, once more":   {puts("w", 3, ""), false},
		"a block's own text":          {puts("v", 0, "x"), false},
		"a block more":                {puts("w", 3, "x"), true},
		"a block less":                {puts("v", 0, ""), true},
		"a new text":                  {puts("w", 0, "y"), true},
		"a new text in another place": {puts("v", 0, "y"), true},
	} {
		q := called(t, p, x.op)
		if q.Core.LogN > 0 {
			if q.Core.Dirty != x.writes {
				t.Errorf("%s: the table is Dirty: %v", name, q.Core.Dirty)
			}
			q, _ = impl.PoolCommit(q)
		}
		if slices.Equal(q.Core.Parts, p.Core.Parts) == x.writes || q.Core.Txg != p.Core.Txg+1 {
			t.Errorf("%s: Parts %v, which were %v", name, q.Core.Parts, p.Core.Parts)
		}
	}
}

// A reset to a snapshot whose pointers are the set's own changes no count, and is committed all the same.
func TestPoolGoesWhereItIs(t *testing.T) {
	p := called(t, impl.PoolOpen(60), makes("v"), puts("v", 0, "x"), puts("v", 1, "x"), puts("v", 2, "y"), snaps("v", "s"))
	q := called(t, p, goes("v", "s"))
	v, old := q.Core.Sets[1], p.Core.Sets[1]
	if !slices.Equal(q.Core.Ddt, p.Core.Ddt) || v.Map != old.Map || v.Home.At == old.Home.At || v.Home.Birth != p.Core.Txg+1 || v.Dirty || q.Core.Txg != p.Core.Txg+1 {
		t.Errorf("%+v", q.Core)
	}
	if q.Core.Sets[0] != p.Core.Sets[0] {
		t.Errorf("the snapshot has changed: %+v", q.Core.Sets[0])
	}
	// A reset of an empty volume to an empty snapshot, and back from each to the other.
	p = called(t, impl.PoolOpen(60), makes("v"), snaps("v", "s"), goes("v", "s"), puts("v", 0, "x"), snaps("v", "t"), goes("v", "s"))
	if len(p.Core.Ddt) != 1 || p.Core.Ddt[0].Count != 1 || places(p, "v")[0] != 0 {
		t.Errorf("%+v", p.Core)
	}
	if p = called(t, p, goes("v", "t")); p.Core.Ddt[0].Count != 2 {
		t.Errorf("%+v", p.Core)
	}
}

// A write with a B is that without one, also in the log.
func TestPoolPutsWithAB(t *testing.T) {
	p := called(t, impl.PoolOpen(60), makes("v"), snaps("v", "s"))
	for _, b := range append(badNames(), "s", "v", "none") {
		for _, text := range []string{"", "x", longestText()} {
			op := puts("v", 3, text)
			want := called(t, p, op)
			op.B = b
			q := called(t, p, op)
			if ops := impl.LogFind(q.Disk, q.Core.Txg); !samePool(q, want) || !slices.Equal(ops, []impl.BookOp{puts("v", 3, text)}) {
				t.Errorf("B %.20q: %+v %+v", b, q.Core, ops)
			}
		}
	}
}

// fullLog is a store whose log is full, and the operations in it.
func fullLog(t *testing.T, n int) (impl.Pool, []impl.BookOp) {
	t.Helper()
	p := called(t, impl.PoolOpen(n), makes("v"))
	var ops []impl.BookOp
	for i := range impl.CoreLogs {
		ops = append(ops, puts("v", 0, "text "+strconv.Itoa(i)))
	}
	p = called(t, p, ops...)
	if p.Core.LogN != 8 || !slices.Equal(impl.LogFind(p.Disk, p.Core.Txg), ops) || len(p.Core.Ddt) != 1 {
		t.Fatalf("%+v", p.Core)
	}
	return p, ops
}

// A write for which the log has no room comes behind a commit.
func TestPoolPutsIntoAFullLog(t *testing.T) {
	p, ops := fullLog(t, 60)
	for name, op := range map[string]impl.BookOp{"a new text": puts("v", 1, "x"), "its own text": ops[7], "no text": puts("v", 0, ""), "an empty block": puts("v", 4, "")} {
		q := called(t, p, op)
		done, code := impl.PoolCommit(p)
		if code != impl.BookDone || !samePool(q, called(t, done, op)) || q.Core.Txg != 3 || q.Core.LogN != 1 {
			t.Errorf("%s: %+v", name, q.Core)
		}
		if list := impl.LogFind(q.Disk, 3); !slices.Equal(list, []impl.BookOp{op}) || !slices.Equal(lastOnDisk(t, q.Disk).Ddt, p.Core.Ddt) {
			t.Errorf("%s: %+v", name, list)
		}
		if at := q.Core.Sets[0].Map[op.I]; name == "a new text" && at != impl.BlkTo(at.At, "x", 4) || name == "its own text" && at.Birth != 3 {
			t.Errorf("%s: %+v", name, at)
		}
	}
	// Operations of another kind begin the log anew by themselves.
	if q := called(t, p, snaps("v", "s")); q.Core.Txg != 3 || q.Core.LogN != 0 {
		t.Errorf("%+v", q.Core)
	}
	// What the book refuses is not committed.
	callRefused(t, "full log", p, puts("w", 0, "x"), impl.BookNone)
	callRefused(t, "full log", p, puts("v", 8, "x"), impl.BookForm)
}

// Where the commit ahead of a write has no room, or the write behind it has none, nothing has happened.
func TestPoolFullLogWithoutRoom(t *testing.T) {
	p, ops := fullLog(t, 60)
	anyText := []impl.BookOp{puts("v", 1, "x"), puts("v", 1, ""), ops[7], puts("v", 0, "")}
	for _, op := range anyText {
		q := ownPool(p)
		q.Core.Safe = upTo(13, 120)
		callRefused(t, "no free sector", q, op, impl.BookRoom)
		q = ownPool(p)
		q.Core.Txg = impl.BlkMaxBirth
		callRefused(t, "the last commit number", q, op, impl.BookRoom)
		q = ownPool(p)
		q.Disk.Late = lates(600)
		callRefused(t, "no late write", q, op, impl.BookRoom)
	}
	// The commit takes the last number, or leaves no room for one more block.
	q := ownPool(p)
	q.Core.Txg = impl.BlkMaxBirth - 1
	callRefused(t, "the last but one", q, puts("v", 1, "x"), impl.BookRoom)
	callRefused(t, "the last but one", q, ops[7], impl.BookRoom)
	if q = called(t, q, puts("v", 0, "")); q.Core.Txg != impl.BlkMaxBirth || q.Core.LogN != 1 {
		t.Errorf("%+v", q.Core)
	}
	q = called(t, impl.PoolOpen(46), makes("v"))
	q = called(t, q, slices.Repeat([]impl.BookOp{puts("v", 0, "x")}, impl.CoreLogs)...)
	callRefused(t, "46 sectors", q, puts("v", 1, "y"), impl.BookRoom)
	if q = called(t, q, puts("v", 1, "x")); q.Core.Txg != 3 || q.Core.LogN != 1 {
		t.Errorf("%+v", q.Core)
	}
}

// Whether one more block may be allocated, and where it comes to lie, is asked behind the commit.
func TestPoolFullLogMakesRoom(t *testing.T) {
	p, _ := fullLog(t, 60)
	p.Core.Safe = upTo(14, 46)
	op := puts("v", 1, "x")
	if q := called(t, p, op); q.Core.Txg != 3 || places(q, "v")[1] != 14 {
		t.Errorf("%+v", q.Core)
	}
	p.Core.LogN = 7
	callRefused(t, "nearly full log", p, op, impl.BookRoom)
}

// A write takes two late writes for its record, and two more for a new block.
func TestPoolPutsNeedLateWrites(t *testing.T) {
	p := called(t, impl.PoolOpen(60), makes("v"), puts("v", 0, "x"))
	p = impl.PoolSync(p)
	for k := 590; k <= 600; k++ {
		for _, x := range []struct {
			op    impl.BookOp
			needs int
		}{
			{puts("v", 1, "new"), 4}, {puts("v", 0, "new"), 4}, {puts("v", 0, "x"), 2}, {puts("v", 1, "x"), 2}, {puts("v", 0, ""), 2}, {puts("v", 1, ""), 2},
		} {
			q := ownPool(p)
			q.Disk.Late = lates(k)
			if k+x.needs > 600 {
				callRefused(t, strconv.Itoa(k)+" late writes", q, x.op, impl.BookRoom)
			} else if q = called(t, q, x.op); len(q.Disk.Late) != k+x.needs {
				t.Error(k, x.op, len(q.Disk.Late))
			}
		}
		for _, op := range []impl.BookOp{makes("w"), snaps("v", "s")} {
			q := ownPool(p)
			q.Disk.Late = lates(k)
			if _, code := calls(t, strconv.Itoa(k)+" late writes", q, op); k > 596 && code != impl.BookRoom {
				t.Error(k, op, code)
			}
		}
	}
}

// crowded is a store of six volumes with 48 blocks of texts of their own.
func crowded(t *testing.T) impl.Pool {
	t.Helper()
	p := impl.PoolOpen(impl.DiskMaxAt)
	for _, name := range []string{"a", "b", "c", "d", "e", "f"} {
		p = called(t, p, makes(name))
		for i := range impl.BookBlocks {
			p = called(t, p, puts(name, i, name+strconv.Itoa(i)))
		}
	}
	if len(p.Core.Ddt) != impl.DdtMax {
		t.Fatal(p.Core.Ddt)
	}
	return p
}

// A table that is full takes no new text, whatever block it would replace, but texts that are stored.
func TestPoolOfAFullTable(t *testing.T) {
	p := crowded(t)
	for _, name := range []string{"a", "f"} {
		for i := range impl.BookBlocks {
			callRefused(t, "full table", p, puts(name, i, "new"), impl.BookRoom)
		}
	}
	callRefused(t, "full table", p, makes("g"), impl.BookFull)
	called(t, p, puts("a", 0, "a0"))
	q := called(t, p, puts("a", 0, "b1"))
	if len(q.Core.Ddt) != 47 || impl.DdtCount(q.Core.Ddt, places(q, "b")[1]) != 2 {
		t.Error(q.Core.Ddt)
	}
	if q = called(t, q, puts("f", 7, "new")); len(q.Core.Ddt) != 47 {
		t.Error(q.Core.Ddt)
	}
	// With the replaced block in two places, the new one is one more.
	if q = called(t, p, puts("c", 0, ""), puts("a", 0, "new")); len(q.Core.Ddt) != 47 {
		t.Error(q.Core.Ddt)
	}
	if q = called(t, q, puts("c", 0, "newer")); len(q.Core.Ddt) != 48 {
		t.Error(q.Core.Ddt)
	}
	if q = called(t, p, kills("b"), snaps("a", "s"), puts("a", 0, "new")); len(q.Core.Ddt) != 41 {
		t.Error(q.Core.Ddt)
	}
}

// Every block of six sets may be one and the same; a count that is greater is of no valid store.
func TestPoolCountsUpToAllPointers(t *testing.T) {
	p := called(t, impl.PoolOpen(60), makes("v"))
	for i := range impl.BookBlocks {
		p = called(t, p, puts("v", i, "x"))
	}
	p = called(t, p, snaps("v", "a"), snaps("v", "b"), clones("a", "c"), clones("a", "d"), snaps("d", "e"))
	if len(p.Core.Ddt) != 1 || p.Core.Ddt[0].Count != 48 {
		t.Fatal(p.Core.Ddt)
	}
	q := called(t, p, goes("v", "a"), goes("d", "e"), puts("v", 0, "x"), puts("v", 0, "y"), puts("c", 0, "y"), puts("v", 0, "x"), puts("c", 0, "x"))
	if len(q.Core.Ddt) != 1 || q.Core.Ddt[0].Count != 48 {
		t.Fatal(q.Core.Ddt)
	}
	for _, count := range []int{47, 49, mostCount, mostCount + 1} {
		q := ownPool(p)
		q.Core.Ddt[0].Count = count
		if x, code := calls(t, "another count", q, puts("v", 0, "x")); code != impl.BookForm || !samePool(x, impl.Pool{}) {
			t.Error(count, code)
		}
	}
	for n := range 3 {
		p = called(t, p, kills([]string{"e", "d", "c"}[n]))
		if p.Core.Ddt[0].Count != 40-8*n {
			t.Error(p.Core.Ddt)
		}
	}
}

// Behind the last commit, only writes of no text are done, up to the last record.
func TestPoolBehindTheLastCommit(t *testing.T) {
	p := called(t, impl.PoolOpen(60), makes("v"), puts("v", 0, "x"), snaps("v", "s"))
	p.Core.Txg = impl.BlkMaxBirth
	for _, op := range []impl.BookOp{puts("v", 0, "x"), puts("v", 1, "x"), puts("v", 0, "new"), makes("w"), kills("s"), snaps("v", "y"), clones("s", "y"), goes("v", "s")} {
		callRefused(t, "last commit", p, op, impl.BookRoom)
	}
	if x, code := impl.PoolCommit(p); code != impl.BookRoom || !samePool(x, p) {
		t.Error(code)
	}
	for i := range impl.CoreLogs {
		p = called(t, p, puts("v", i, ""))
	}
	callRefused(t, "last commit, full log", p, puts("v", 0, ""), impl.BookRoom)
	p = called(t, impl.PoolOpen(60), makes("v"), snaps("v", "s"))
	p.Core.Txg = impl.BlkMaxBirth - 1
	p = called(t, p, puts("v", 0, "x"), puts("v", 1, "x"))
	if m := p.Core.Sets[1].Map[0]; m.Birth != impl.BlkMaxBirth {
		t.Error(m)
	}
	if p = called(t, p, goes("v", "s")); p.Core.Txg != impl.BlkMaxBirth {
		t.Error(p.Core.Txg)
	}
}

// Texts with one checksum are blocks of their own; a text that two blocks have is found in the first one.
func TestPoolPutsTwins(t *testing.T) {
	texts := twins(t, impl.SumOf("abc"), 4)
	p := called(t, impl.PoolOpen(60), makes("v"))
	for i, text := range texts {
		p = called(t, p, puts("v", i, text))
	}
	if len(p.Core.Ddt) != 4 {
		t.Fatal(p.Core.Ddt)
	}
	for i, text := range texts {
		q := called(t, p, puts("v", 5, text), puts("v", 0, texts[3-i]))
		if places(q, "v")[5] != places(p, "v")[i] || places(q, "v")[0] != places(p, "v")[3-i] {
			t.Error(places(q, "v"), places(p, "v"))
		}
		if got, code := impl.PoolGet(q, "v", i); i > 0 && (got != text || code != impl.BookDone) {
			t.Errorf("%q %d", got, code)
		}
	}
	d := impl.DiskOpen(60)
	for side := range d.Sides {
		d.Sides[side][20], d.Sides[side][30], d.Sides[side][3] = "x", "x", "low"
	}
	p = poolOf(d, coreOf(coreVolume("v", impl.BlkTo(20, "x", 1), impl.BlkTo(30, "x", 1), impl.BlkTo(3, "low", 1))))
	p.Core.Txg = 1
	q := called(t, p, puts("v", 1, "x"))
	if m := q.Core.Sets[0].Map; m[1] != impl.BlkTo(20, "x", 2) || m[0] != impl.BlkTo(20, "x", 1) || !slices.Equal(q.Core.Ddt, entries(entry(impl.SumOf("low"), 3, 1), entry(impl.SumOf("x"), 20, 2))) {
		t.Errorf("%+v", q.Core)
	}
	// Where blocks lie ahead of CoreFirst, they are found there too.
	if q = called(t, p, puts("v", 5, "low")); places(q, "v")[5] != 3 {
		t.Errorf("%+v", q.Core)
	}
}

// rotten is a store with one side of a sector damaged, or both.
func rotten(p impl.Pool, at int, sides ...int) impl.Pool {
	for _, side := range sides {
		p = impl.PoolRot(p, side, at, 0, 129)
	}
	return p
}

// A text whose block is damaged on both sides is stored anew; on one side, it is found.
func TestPoolPutsWhatIsDamaged(t *testing.T) {
	p := impl.PoolSync(called(t, impl.PoolOpen(60), makes("v"), puts("v", 0, "x"), puts("v", 1, "y")))
	at := places(p, "v")[0]
	for _, side := range []int{0, 1} {
		q := called(t, rotten(p, at, side), puts("v", 0, "x"), puts("v", 2, "x"))
		if places(q, "v")[0] != at || places(q, "v")[2] != at {
			t.Error(side, places(q, "v"))
		}
	}
	q := called(t, rotten(p, at, 0, 1), puts("v", 2, "x"))
	if places(q, "v")[0] != at || places(q, "v")[2] == at || len(q.Core.Ddt) != 3 {
		t.Error(places(q, "v"))
	}
	if q = called(t, q, puts("v", 0, "x")); places(q, "v")[0] != places(q, "v")[2] || len(q.Core.Ddt) != 2 {
		t.Error(places(q, "v"))
	}
	q = called(t, rotten(p, at, 0, 1), puts("v", 0, "x"))
	if text, code := impl.PoolGet(q, "v", 0); text != "x" || code != impl.BookDone || places(q, "v")[0] == at {
		t.Error(text, code, places(q, "v"))
	}
}

func TestPoolGet(t *testing.T) {
	for name, b := range goodBooks() {
		p := bookPool(b)
		reads(t, name, p, b)
		for _, a := range append(badNames(), "none", "aaaaab", "y") {
			for i := range impl.BookBlocks {
				if text, code := impl.PoolGet(p, a, i); setAt(p.Core, a) < 0 && (text != "" || code != impl.BookNone) {
					t.Errorf("%s, %.20q: %q %d", name, a, text, code)
				}
			}
		}
	}
	p := bookPool(fullBook())
	for _, a := range []string{"v", "s", "none", ""} {
		for _, i := range []int{math.MinInt, -9, -1, 0, 1, 6, 7, 8, 9, 256, math.MaxInt} {
			want := impl.PoolDown
			if i < 0 || i > 7 {
				want = impl.BookForm
			}
			if text, code := impl.PoolGet(down(p), a, i); text != "" || code != want {
				t.Errorf("not up, %s %d: %q %d", a, i, text, code)
			}
			if text, code := impl.PoolGet(p, a, i); want == impl.BookForm && (text != "" || code != want) {
				t.Errorf("%s %d: %q %d", a, i, text, code)
			}
		}
	}
	// A store without sets.
	if text, code := impl.PoolGet(impl.PoolOpen(60), "v", 0); text != "" || code != impl.BookNone {
		t.Error(text, code)
	}
	if text, code := impl.PoolGet(impl.PoolFall(impl.PoolOpen(60), nil), "v", 0); text != "" || code != impl.PoolDown {
		t.Error(text, code)
	}
}

// A block is read as long as one side has it.
func TestPoolGetOfDamagedBlocks(t *testing.T) {
	p := bookPool(smallBook())
	at := places(p, "v")[1]
	for name, x := range map[string]struct {
		p    impl.Pool
		text string
		code int
	}{
		"side 0":                        {rotten(p, at, 0), "new", impl.BookDone},
		"side 1":                        {rotten(p, at, 1), "new", impl.BookDone},
		"both":                          {rotten(p, at, 0, 1), "", impl.PoolBad},
		"both, twice":                   {rotten(p, at, 0, 1, 0, 1), "new", impl.BookDone},
		"both, side 0 restored":         {rotten(p, at, 0, 1, 0), "new", impl.BookDone},
		"another block":                 {rotten(p, at+1, 0, 1), "new", impl.BookDone},
		"late writes on both":           {poolOf(impl.Disk{Sides: p.Disk.Sides, Late: []impl.DiskLate{late(0, at, "x"), late(1, at, "")}}, p.Core), "", impl.PoolBad},
		"a late write on side 0":        {poolOf(impl.Disk{Sides: p.Disk.Sides, Late: []impl.DiskLate{late(0, at, "x")}}, p.Core), "new", impl.BookDone},
		"both, side 1 written anew":     {poolOf(impl.Disk{Sides: rotten(p, at, 0, 1).Disk.Sides, Late: []impl.DiskLate{late(1, at, "new")}}, p.Core), "new", impl.BookDone},
		"a sector that is not there":    {poolOf(impl.DiskOpen(14), p.Core), "", impl.PoolBad},
		"a disk without blocks":         {poolOf(impl.DiskOpen(60), p.Core), "", impl.PoolBad},
		"not up, both":                  {down(rotten(p, at, 0, 1)), "", impl.PoolDown},
		"an empty text where one ought": {poolOf(impl.DiskOpen(60), coreOf(coreVolume("v", impl.Ptr{}, impl.BlkTo(20, "", 1)))), "", impl.BookDone},
	} {
		if text, code := impl.PoolGet(x.p, "v", 1); text != x.text || code != x.code {
			t.Errorf("%s: %q %d", name, text, code)
		}
		if text, code := impl.PoolGet(x.p, "v", 7); x.p.Up && (text != "" || code != impl.BookDone) {
			t.Errorf("%s, empty block: %q %d", name, text, code)
		}
	}
}

// everyPool is valid stores, with late writes and without, up and not.
func everyPool(t *testing.T) map[string]impl.Pool {
	t.Helper()
	p := called(t, impl.PoolOpen(60), makes("v"), puts("v", 0, "x"), puts("v", 1, "y"))
	log, _ := fullLog(t, 60)
	pools := map[string]impl.Pool{
		"new": impl.PoolOpen(60), "fewest sectors": impl.PoolOpen(14), "most sectors": impl.PoolOpen(120), "written": p, "full log": log, "crowded": crowded(t), "small": smallPool(), "synced": impl.PoolSync(p),
		"two late writes to one sector": poolOf(wideDisk(60, late(0, 13, "first"), late(0, 13, "second"), late(1, 59, "third")), impl.Core{Txg: 1}),
		"most late writes":              poolOf(wideDisk(60, lates(600)...), smallCore()),
		"nothing dirty":                 poolOf(wideDisk(60, late(0, 0, "w")), noneDirty(smallCore())),
		"no commit":                     poolOf(wideDisk(20), impl.Core{}),
		"fallen":                        impl.PoolFall(p, []int{1, 2}),
	}
	for name, p := range pools {
		pools[name+", not up"] = down(p)
	}
	return pools
}

func TestPoolSync(t *testing.T) {
	for name, p := range everyPool(t) {
		want := ownPool(p)
		for _, w := range p.Disk.Late {
			if p.Up {
				want.Disk.Sides[w.Side][w.At] = w.Text
			}
		}
		if p.Up {
			want.Disk.Late = nil
		}
		old := ownPool(p)
		if x := impl.PoolSync(p); !samePool(x, want) || !samePool(p, old) {
			t.Errorf("%s: %+v %s", name, x.Core, otherwise(x.Disk, want.Disk))
		} else if y := impl.PoolSync(x); !samePool(y, x) {
			t.Errorf("%s: twice", name)
		}
	}
}

func TestPoolCommit(t *testing.T) {
	for name, p := range everyPool(t) {
		old := ownPool(p)
		want, wantCode := p, impl.PoolDown
		if p.Up {
			if x := commitByHand(p.Disk, p.Core); x.code == impl.BookDone {
				want, wantCode = poolOf(x.disk, x.core), impl.BookDone
			} else {
				wantCode = x.code
			}
		}
		x, code := impl.PoolCommit(p)
		if code != wantCode || !samePool(x, want) || !samePool(p, old) {
			t.Errorf("%s: code %d, not %d: %+v %s", name, code, wantCode, x.Core, otherwise(x.Disk, want.Disk))
		}
		if refused := name == "fewest sectors" || name == "most late writes"; p.Up && (code == impl.BookRoom) != refused {
			t.Error(name, code)
		}
	}
	// The last number of a commit, and as many free sectors as there must be.
	for txg, want := range map[int]int{0: impl.BookDone, 1: impl.BookDone, impl.BlkMaxBirth - 1: impl.BookDone, impl.BlkMaxBirth: impl.BookRoom} {
		for _, up := range []bool{true, false} {
			p := smallPool()
			if p.Core.Txg, p.Up = txg, up; !up {
				want = impl.PoolDown
			}
			if x, code := impl.PoolCommit(p); code != want || code != impl.BookDone && !samePool(x, p) || x.Up != up {
				t.Error(txg, up, code)
			}
		}
	}
	p := poolOf(wideDisk(20), allDirty(coreAt(upTo(13, 17), nil)))
	if x, code := impl.PoolCommit(p); code != impl.BookDone || x.Core.Dirty || !x.Up {
		t.Error(code, x.Core)
	}
	p.Core.Safe = []int{19}
	if x, code := impl.PoolCommit(p); code != impl.BookRoom || !samePool(x, p) {
		t.Error(code, x.Core)
	}
}

// A power failure leaves the disk as DiskFall does, and nothing in memory.
func TestPoolFall(t *testing.T) {
	for name, p := range everyPool(t) {
		for which, fate := range fates(len(p.Disk.Late)) {
			old, kept := ownPool(p), slices.Clone(fate)
			x := impl.PoolFall(p, fate)
			if want := (impl.Pool{Disk: impl.DiskFall(p.Disk, fate)}); !samePool(x, want) || !impl.PoolOk(x) || !samePool(p, old) || !slices.Equal(fate, kept) {
				t.Errorf("%s, fate %s: %+v %v %s", name, which, x.Core, x.Up, otherwise(x.Disk, want.Disk))
			}
			if y := impl.PoolFall(x, fate); !samePool(y, x) {
				t.Errorf("%s, fate %s: twice", name, which)
			}
			for _, op := range []impl.BookOp{makes("y"), kills("v"), puts("v", 0, "a"), snaps("v", "y"), clones("s", "y"), goes("v", "s"), {}, puts("v", 8, "a"), makes("V")} {
				if y, code := impl.PoolCall(x, op); code != impl.PoolDown || !samePool(y, x) {
					t.Errorf("%s, fate %s, %q: code %d", name, which, kindOf(op), code)
				}
			}
			y, code := impl.PoolCommit(x)
			if text, c := impl.PoolGet(x, "v", 0); text != "" || c != impl.PoolDown || code != impl.PoolDown || !samePool(y, x) || !samePool(impl.PoolSync(x), x) {
				t.Errorf("%s, fate %s: a store that is not up is in operation", name, which)
			}
		}
	}
}

// Which late writes a power failure performs, to the letter.
func TestPoolFallOfFates(t *testing.T) {
	start := func() impl.Pool {
		return poolOf(wideDisk(20, late(0, 14, "abcdef"), late(1, 14, "uvwxyz"), late(0, 15, "")), smallCore())
	}
	a, b, c := "what side 0 contains in sector 14", "what side 1 contains in sector 14", "what side 0 contains in sector 15"
	for _, x := range []struct {
		fate    []int
		a, b, c string
	}{
		{nil, a, b, c}, {[]int{1}, "abcdef", b, c}, {[]int{0, 1}, a, "uvwxyz", c}, {[]int{2, 2, 2, 1, 1}, "abct side 0 contains in sector 14", "uvwt side 1 contains in sector 14", c},
		{[]int{0, 0, 1}, a, b, ""}, {[]int{3, -1, 0, 1}, a, b, c}, {[]int{1, 1, 1}, "abcdef", "uvwxyz", ""},
	} {
		want := wideDisk(20)
		want.Sides[0][14], want.Sides[1][14], want.Sides[0][15] = x.a, x.b, x.c
		if p := impl.PoolFall(start(), x.fate); !samePool(p, impl.Pool{Disk: want}) {
			t.Errorf("%v: %+v %s", x.fate, p.Core, otherwise(p.Disk, want))
		}
	}
}

// PoolRot changes the sectors and nothing else, also where it changes nothing.
func TestPoolRot(t *testing.T) {
	for name, p := range everyPool(t) {
		n := len(p.Disk.Sides[0])
		for _, side := range []int{-1, 0, 1, 2, math.MinInt, math.MaxInt} {
			for _, at := range []int{-1, 0, 2, 13, n - 1, n, math.MaxInt} {
				for _, k := range []int{-1, 0, 1, 3, 419, 420, math.MaxInt} {
					for _, mask := range []int{-1, 0, 1, 128, 255, 256, 257} {
						want := ownPool(p)
						if side >= 0 && side < 2 && at >= 0 && at < n && mask >= 1 && mask <= 255 && k >= 0 && k < len(p.Disk.Sides[side][at]) {
							bytes := []byte(want.Disk.Sides[side][at])
							bytes[k] ^= byte(mask)
							want.Disk.Sides[side][at] = string(bytes)
						}
						if x := impl.PoolRot(p, side, at, k, mask); !samePool(x, want) {
							t.Errorf("%s: side %d, sector %d, byte %d, mask %d: %s", name, side, at, k, mask, otherwise(x.Disk, want.Disk))
						}
					}
				}
			}
		}
	}
}

// poolHistory is a store, the book that it has to be, the book of its last commit, and the writes since, of which the first ones are synchronized.
type poolHistory struct {
	p     impl.Pool
	book  impl.Book
	base  impl.Book
	since []impl.BookOp
	sure  int
	texts []string
	seen  map[[2]int]int
}

// newPoolHistory is a new store of n sectors.
func newPoolHistory(t *testing.T, n int) *poolHistory {
	texts := append(twins(t, impl.SumOf("abc"), 4), "", "", "a", "b", "\x00", "\xff\xfe", " ", "-", "root", longestText())
	return &poolHistory{p: impl.PoolOpen(n), texts: texts, seen: map[[2]int]int{}}
}

// call performs some operation on the store and on the book, and fails where they differ.
func (h *poolHistory) call(t *testing.T, op impl.BookOp) {
	t.Helper()
	x, code := calls(t, "history", h.p, op)
	want, wantCode := impl.BookDo(h.book, op)
	if h.seen[[2]int{op.Kind, code}]++; code == impl.BookRoom {
		if wantCode != impl.BookDone || !samePool(x, h.p) {
			t.Fatalf("%q: BookRoom, not %d", kindOf(op), wantCode)
		}
		return
	}
	if code != wantCode || code != impl.BookDone && !samePool(x, h.p) {
		t.Fatalf("%q: code %d, not %d", kindOf(op), code, wantCode)
	}
	if code != impl.BookDone {
		return
	}
	switch {
	case op.Kind != impl.BookPuts:
		h.base, h.since, h.sure = want, nil, 0
	case len(h.since) == impl.CoreLogs:
		h.base, h.since, h.sure = h.book, []impl.BookOp{op}, 0
	default:
		h.since = append(h.since, op)
	}
	h.p, h.book = x, want
}

// someOp is an operation, whose text is one of few ones or a new one.
func (h *poolHistory) someOp(r *rand.Rand) impl.BookOp {
	op := someOp(r, h.book)
	op.Text = h.texts[r.IntN(len(h.texts))]
	if r.IntN(3) == 0 {
		op.Text = "text " + strconv.Itoa(r.IntN(60))
	}
	if r.IntN(40) == 0 {
		op.Text = longestText() + "o"
	}
	if op.Kind == impl.BookKills && r.IntN(2) == 0 {
		// Fewer sets are removed, so that the book is full at times.
		op.Kind = impl.BookMakes
	}
	if r.IntN(3) == 0 && len(h.book.Sets) > 0 {
		op.Kind, op.A, op.I = impl.BookPuts, h.book.Sets[r.IntN(len(h.book.Sets))].Name, r.IntN(8)
	}
	return op
}

// check fails unless what is read is what the book has, and equal blocks are stored once.
func (h *poolHistory) check(t *testing.T) {
	t.Helper()
	if !impl.PoolOk(h.p) || !h.p.Up || h.p.Core.LogN != len(h.since) || !sameBook(bookOn(t, h.p.Disk, h.p.Core), h.book) {
		t.Fatalf("%+v, not %+v", h.p.Core, h.book)
	}
	reads(t, "history", h.p, h.book)
	texts := impl.BookTexts(h.book)
	if stored, _, _ := impl.RoomSums(h.p.Core, len(h.p.Disk.Sides[0])); stored != len(texts) || len(h.p.Core.Ddt) != len(texts) {
		t.Fatalf("%d blocks for the texts %q", stored, texts)
	}
	for _, text := range texts {
		if impl.DdtFind(h.p.Disk, h.p.Core.Ddt, text) == 0 {
			t.Fatalf("%q is not stored", text)
		}
	}
}

// fall lets power fail, and starts the store anew from the last commit and from the log, by hand.
func (h *poolHistory) fall(t *testing.T, r *rand.Rand) {
	t.Helper()
	x := impl.PoolFall(h.p, someFate(r, r.IntN(40)))
	if text, code := impl.PoolGet(x, "a", 0); x.Up || text != "" || code != impl.PoolDown {
		t.Fatal(text, code)
	}
	h.seen[[2]int{impl.BookPuts, callCode(x, puts("a", 0, "a"))}]++
	c := lastOnDisk(t, x.Disk)
	if !sameBook(bookOn(t, x.Disk, c), h.base) {
		t.Fatalf("the last commit is %+v, not %+v", c, h.base)
	}
	ops := impl.LogFind(x.Disk, c.Txg)
	if len(ops) < h.sure || len(ops) > len(h.since) {
		t.Fatalf("%d records of %d, %d are synchronized", len(ops), len(h.since), h.sure)
	}
	for i, op := range ops {
		if whole := h.since[i]; op != puts(whole.A, whole.I, whole.Text) {
			t.Fatalf("record %d is %+v, not %+v", i, op, whole)
		}
	}
	h.p, h.book, h.since, h.sure = poolOf(x.Disk, c), h.base, nil, 0
	for _, op := range ops {
		h.call(t, op)
	}
	if len(h.since) != len(ops) {
		t.Fatalf("%d of %d records are done again", len(h.since), len(ops))
	}
	h.commit(t)
}

// callCode is the code of an operation.
func callCode(p impl.Pool, op impl.BookOp) int {
	_, code := impl.PoolCall(p, op)
	return code
}

// commit commits.
func (h *poolHistory) commit(t *testing.T) {
	t.Helper()
	x, code := impl.PoolCommit(h.p)
	if code != impl.BookDone {
		t.Fatalf("code %d: %+v", code, h.p.Core)
	}
	h.p, h.base, h.since, h.sure = x, h.book, nil, 0
}

// Promises 13 and 14, for whole histories: each code, and each block that is read afterwards.
func TestPoolHistories(t *testing.T) {
	r := rand.New(rand.NewPCG(10, 13))
	seen := map[[2]int]int{}
	for _, n := range []int{46, 50, 60, 80, 120} {
		for range 6 {
			h := newPoolHistory(t, n)
			for range 300 {
				switch k := r.IntN(30); k {
				case 0:
					h.fall(t, r)
				case 1:
					h.commit(t)
				case 2, 3, 4:
					h.p, h.sure = impl.PoolSync(h.p), len(h.since)
				default:
					h.call(t, h.someOp(r))
				}
				h.check(t)
			}
			for which, count := range h.seen {
				seen[which] += count
			}
		}
	}
	// Each code of each kind of operation has come up; only writes have no room, as RoomMay keeps enough for commits.
	for kind, codes := range [][]int{
		{impl.BookForm}, {impl.BookDone, impl.BookForm, impl.BookThere, impl.BookFull}, {impl.BookDone, impl.BookNone, impl.BookBusy}, {impl.BookDone, impl.BookNone, impl.BookForm, impl.BookKind, impl.BookRoom, impl.PoolDown},
		{impl.BookDone, impl.BookNone, impl.BookKind, impl.BookForm, impl.BookThere, impl.BookFull}, {impl.BookDone, impl.BookNone, impl.BookKind, impl.BookForm, impl.BookThere, impl.BookFull}, {impl.BookDone, impl.BookNone, impl.BookKind},
	} {
		for _, code := range codes {
			if seen[[2]int{kind, code}] == 0 {
				t.Error("kind", kind, "never has code", code)
			}
		}
		if kind != impl.BookPuts && seen[[2]int{kind, impl.BookRoom}] > 0 {
			t.Error("kind", kind, "has no room")
		}
	}
}

// Promise 13, where one side is damaged again and again: what is read and done is the same.
func TestPoolHistoriesOnOneSide(t *testing.T) {
	r := rand.New(rand.NewPCG(10, 14))
	for side := range 2 {
		h := newPoolHistory(t, 70)
		for range 400 {
			switch r.IntN(8) {
			case 0, 1:
				at := r.IntN(70)
				h.p = impl.PoolRot(h.p, side, at, r.IntN(1+len(h.p.Disk.Sides[side][at])), 1+r.IntN(255))
			case 2:
				h.p, h.sure = impl.PoolSync(h.p), len(h.since)
			default:
				h.call(t, h.someOp(r))
			}
			h.check(t)
		}
	}
}

// Promise 14: there are as many blocks as different texts, wherever the texts are and however they came there.
func TestPoolStoresEqualBlocksOnce(t *testing.T) {
	p := impl.PoolOpen(impl.DiskMaxAt)
	alike := twins(t, impl.SumOf("abc"), 3)
	b := impl.Book{}
	ops := []impl.BookOp{makes("v"), makes("w")}
	for i := range impl.BookBlocks {
		ops = append(ops, puts("v", i, alike[i%3]), puts("w", i, alike[(i+1)%3]))
	}
	ops = append(ops, snaps("v", "s"), clones("s", "c"), puts("c", 0, "c"), puts("w", 3, "c"), snaps("w", "t"), puts("v", 1, "c"), puts("v", 0, ""), goes("v", "s"), kills("c"), puts("w", 3, "d"), kills("t"), puts("v", 2, "d"), kills("w"))
	for _, op := range ops {
		var code int
		if b, code = impl.BookDo(b, op); code != impl.BookDone {
			t.Fatal(op, code)
		}
		p = called(t, p, op)
		sectors := map[string][]int{}
		for _, set := range p.Core.Sets {
			for k, q := range set.Map {
				text, _ := impl.PoolGet(p, set.Name, k)
				if q.At != 0 && !slices.Contains(sectors[text], q.At) {
					sectors[text] = append(sectors[text], q.At)
				}
			}
		}
		if texts := impl.BookTexts(b); len(sectors) != len(texts) || len(p.Core.Ddt) != len(texts) {
			t.Fatalf("%q: %v for %q", kindOf(op), p.Core.Ddt, texts)
		}
		for text, ats := range sectors {
			if len(ats) != 1 {
				t.Fatalf("%q: %q is in %v", kindOf(op), text, ats)
			}
		}
	}
	if len(p.Core.Ddt) != 4 {
		t.Error(p.Core.Ddt)
	}
}

// roomyPool is a store with unused capacity behind each list that is in use elsewhere, and the whole of it.
func roomyPool(k int, txg int, n int) (p impl.Pool, whole impl.Pool) {
	d, wide := roomyWide(k)
	c, room := roomyCore()
	c.Txg, c.LogN = txg, n
	return poolOf(d, c), poolOf(wide, room)
}

// poolTurns is each function that returns a store, also where it refuses.
func poolTurns() map[string]func(p impl.Pool) impl.Pool {
	turns := map[string]func(p impl.Pool) impl.Pool{
		"sync":           impl.PoolSync,
		"sync, not up":   func(p impl.Pool) impl.Pool { return impl.PoolSync(down(p)) },
		"fall":           func(p impl.Pool) impl.Pool { return impl.PoolFall(p, []int{1, 2}) },
		"lost":           func(p impl.Pool) impl.Pool { return impl.PoolFall(p, nil) },
		"rot":            func(p impl.Pool) impl.Pool { return impl.PoolRot(p, 0, 1, 2, 1) },
		"no rot":         func(p impl.Pool) impl.Pool { return impl.PoolRot(p, 2, 1, 2, 1) },
		"commit":         func(p impl.Pool) impl.Pool { x, _ := impl.PoolCommit(p); return x },
		"commit, not up": func(p impl.Pool) impl.Pool { x, _ := impl.PoolCommit(down(p)); return x },
		"call, not up":   func(p impl.Pool) impl.Pool { x, _ := impl.PoolCall(down(p), makes("y")); return x },
		"questions": func(p impl.Pool) impl.Pool {
			impl.PoolGet(p, "v", 0)
			impl.PoolOk(p)
			impl.PoolSame(p, p)
			return ownPool(p)
		},
	}
	for _, op := range ownOps() {
		turns[kindOf(op)] = func(p impl.Pool) impl.Pool { x, _ := impl.PoolCall(p, op); return x }
	}
	return turns
}

// spoilPool overwrites all lists of a store and their unused capacity.
func spoilPool(p impl.Pool) {
	spoil(p.Disk)
	spoilCore(p.Core)
}

// A store leaves its argument and what is behind it, and has memory of its own, also where it refuses.
func TestPoolsShareNoMemory(t *testing.T) {
	for name, turn := range poolTurns() {
		for _, k := range []int{0, 3, 595, 600} {
			for _, n := range []int{0, 3, 8} {
				for _, txg := range []int{-1, 5, impl.BlkMaxBirth} {
					p, whole := roomyPool(k, txg, n)
					x, other := turn(p), turn(p)
					want := ownPool(other)
					spoilPool(x)
					_, fresh := roomyPool(k, txg, n)
					if !samePool(whole, fresh) {
						t.Errorf("%s, %d late writes, %d records: an argument has changed", name, k, n)
					}
					spoilPool(p)
					if !samePool(other, want) {
						t.Errorf("%s, %d late writes, %d records: a result has changed", name, k, n)
					}
					sides := slices.Clone(other.Disk.Sides[1])
					spoil(impl.Disk{Sides: [2][]string{other.Disk.Sides[0], nil}})
					if !slices.Equal(other.Disk.Sides[1], sides) {
						t.Errorf("%s: the sides share memory", name)
					}
				}
			}
		}
	}
}

func TestNewPoolsShareNoMemory(t *testing.T) {
	p, other := impl.PoolOpen(20), impl.PoolOpen(20)
	want := ownPool(other)
	spoilPool(p)
	if !samePool(other, want) || !samePool(impl.PoolOpen(20), want) {
		t.Error(other)
	}
	room := []int{1, 2, 77}
	q := smallPool()
	impl.PoolFall(q, room[:1])
	if x := impl.PoolFall(q, room[:1]); !slices.Equal(room, []int{1, 2, 77}) || x.Disk.Sides[1][99] != "" || x.Disk.Sides[0][0] != "late" {
		t.Error("a fate beyond the length counts:", room)
	}
}
