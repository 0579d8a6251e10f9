package tests

import (
	"math"
	"math/rand/v2"
	"slices"
	"strconv"
	"strings"
	"testing"

	"loop.example/palim/impl"
)

// planned is a write of a commit, to both sides.
type planned struct {
	at   int
	text string
}

// wideDisk is a disk of n sectors, each with a text of its own, and these late writes.
func wideDisk(n int, writes ...impl.DiskLate) impl.Disk {
	d := diskOf(nil, nil, writes...)
	for side := range d.Sides {
		for at := range n {
			d.Sides[side] = append(d.Sides[side], "what side "+strconv.Itoa(side)+" contains in sector "+strconv.Itoa(at))
		}
	}
	return d
}

// needsByHand is how many blocks a commit writes.
func needsByHand(c impl.Core) int {
	needs := 1
	for _, set := range c.Sets {
		if set.Dirty {
			needs++
		}
	}
	for i := 0; c.Dirty && i < len(c.Ddt); i += 6 {
		needs++
	}
	return needs
}

// planByHand is what a commit writes, the ring's record last, and the core afterwards, where there is room.
func planByHand(c impl.Core, n int) (list []planned, after impl.Core) {
	_, _, free := shareByHand(c, n)
	after = ownCore(c)
	after.Txg++
	block := func(text string) impl.Ptr {
		at := free[len(list)]
		list = append(list, planned{at, text})
		return ptr(at, impl.SumOf(text), after.Txg)
	}
	for i, set := range c.Sets {
		if set.Dirty {
			after.Sets[i].Home, after.Sets[i].Dirty = block(impl.CoreMap(set.Map)), false
		}
	}
	if c.Dirty {
		after.Parts, after.Dirty = nil, false
		for i := 0; i < len(c.Ddt); i += 6 {
			after.Parts = append(after.Parts, block(textOf(c.Ddt[i:min(i+6, len(c.Ddt))])))
		}
	}
	root := block(impl.CoreRoot(after))
	number := strconv.Itoa(after.Txg)
	list = append(list, planned{1 + after.Txg%4, impl.SumSeal(number + " " + impl.PtrText(root) + " " + number)})
	after.Safe, after.LogN = reachByHand(after, root.At), 0
	return list, after
}

// outcome is what a commit leads to, and what the disk is ahead of each flush, or where the commit stops.
type outcome struct {
	disk  impl.Disk
	core  impl.Core
	code  int
	ahead [2]impl.Disk
}

// commitByHand is the outcome of a commit of a valid core to a disk with sectors for blocks.
func commitByHand(d impl.Disk, c impl.Core) outcome {
	stop := outcome{d, c, impl.BookRoom, [2]impl.Disk{d, d}}
	_, _, free := shareByHand(c, len(d.Sides[0]))
	if c.Txg == impl.BlkMaxBirth || len(free) < needsByHand(c) {
		return stop
	}
	list, after := planByHand(c, len(d.Sides[0]))
	blocks, ring := list[:len(list)-1], list[len(list)-1]
	first := ownDisk(d)
	for _, w := range blocks {
		if len(first.Late) > 600-2 {
			stop.ahead = [2]impl.Disk{first, first}
			return stop
		}
		first.Late = append(first.Late, late(0, w.at, w.text), late(1, w.at, w.text))
	}
	second := impl.DiskFlush(first)
	second.Late = []impl.DiskLate{late(0, ring.at, ring.text), late(1, ring.at, ring.text)}
	return outcome{impl.DiskFlush(second), after, impl.BookDone, [2]impl.Disk{first, second}}
}

// otherwise tells where a disk is not the one that is wanted.
func otherwise(d impl.Disk, want impl.Disk) string {
	if len(d.Sides[0]) != len(want.Sides[0]) || len(d.Sides[1]) != len(want.Sides[1]) || len(d.Late) != len(want.Late) {
		return "a disk of other sectors or late writes"
	}
	told := ""
	for side := range d.Sides {
		for at, text := range d.Sides[side] {
			if text != want.Sides[side][at] {
				told += "\nsector " + strconv.Itoa(at) + " of side " + strconv.Itoa(side) + ": " + strconv.Quote(text) + ", not " + strconv.Quote(want.Sides[side][at])
			}
		}
	}
	return told
}

// fates is what may become of n late writes.
func fates(n int) map[string][]int {
	one := func(i int, becomes int) []int {
		fate := make([]int, n)
		fate[i] = becomes
		return fate
	}
	cases := map[string][]int{
		"none":               nil,
		"all kept":           slices.Repeat([]int{impl.DiskKept}, n),
		"all torn":           slices.Repeat([]int{impl.DiskTorn}, n),
		"all lost":           make([]int, n),
		"other numbers":      slices.Repeat([]int{-1, 3, math.MaxInt, math.MinInt}, n/4+1)[:n],
		"in turn":            slices.Repeat([]int{1, 2, 0}, n/3+1)[:n],
		"one too many, kept": slices.Repeat([]int{impl.DiskKept}, n+1),
		"far too many, torn": slices.Repeat([]int{impl.DiskTorn}, n+700),
	}
	if n > 0 {
		cases["one too few, kept"] = slices.Repeat([]int{impl.DiskKept}, n-1)
		cases["half, torn"] = slices.Repeat([]int{impl.DiskTorn}, n/2)
	}
	for i := 0; i < n && n <= 60; i++ {
		cases["only write "+strconv.Itoa(i)+" kept"] = one(i, impl.DiskKept)
		cases["only write "+strconv.Itoa(i)+" torn"] = one(i, impl.DiskTorn)
	}
	return cases
}

// commits fails unless a commit leads to what the document says, also where power fails.
func commits(t *testing.T, name string, d impl.Disk, c impl.Core) outcome {
	t.Helper()
	want := commitByHand(d, c)
	x, core, code := impl.CommitDo(d, c)
	if code != want.code || !sameCore(core, want.core) {
		t.Errorf("%s: code %d, %+v, not code %d, %+v", name, code, core, want.code, want.core)
	}
	if !sameDisk(x, want.disk) {
		t.Errorf("%s: %s", name, otherwise(x, want.disk))
	}
	for _, stage := range []int{math.MinInt, -1, 0, 1, 2, math.MaxInt} {
		ahead := want.ahead[min(max(stage, 0), 1)]
		for which, fate := range fates(len(ahead.Late)) {
			if (stage < 0 || stage > 1) && strings.HasPrefix(which, "only") {
				continue
			}
			if x, y := impl.CommitCut(d, c, stage, fate), impl.DiskFall(ahead, fate); !sameDisk(x, y) {
				t.Errorf("%s: cut in stage %d, fate %s: %s", name, stage, which, otherwise(x, y))
			}
		}
	}
	return want
}

// allDirty is a core whose sets and table are all Dirty.
func allDirty(c impl.Core) impl.Core {
	c = ownCore(c)
	for i := range c.Sets {
		c.Sets[i].Dirty = true
	}
	c.Dirty = true
	return c
}

// noneDirty is a core of which nothing is Dirty.
func noneDirty(c impl.Core) impl.Core {
	c = ownCore(c)
	for i := range c.Sets {
		c.Sets[i].Dirty = false
	}
	c.Dirty = false
	return c
}

func TestCommitNeeds(t *testing.T) {
	for _, x := range []struct{ entries, parts int }{
		{0, 0}, {1, 1}, {5, 1}, {6, 1}, {7, 2}, {11, 2}, {12, 2}, {13, 3}, {42, 7}, {43, 8}, {47, 8}, {impl.DdtMax, 8},
	} {
		c := noneDirty(coreAt(upTo(13, 13+x.entries), nil))
		if needs := impl.CommitNeeds(c); needs != 1 {
			t.Error(x.entries, "entries, nothing Dirty:", needs)
		}
		c.Dirty = true
		if needs := impl.CommitNeeds(c); needs != 1+x.parts {
			t.Error(x.entries, "entries:", needs)
		}
		if needs := impl.CommitNeeds(allDirty(c)); needs != 1+len(c.Sets)+x.parts {
			t.Error(x.entries, "entries,", len(c.Sets), "sets:", needs)
		}
	}
	for name, c := range goodCores() {
		for _, c := range []impl.Core{c, allDirty(c), noneDirty(c)} {
			if needs := impl.CommitNeeds(c); needs != needsByHand(c) {
				t.Errorf("%s: %d, not %d", name, needs, needsByHand(c))
			}
		}
	}
}

// Each subset of the sets may be Dirty, whatever the table is.
func TestCommitNeedsOfDirtySets(t *testing.T) {
	for mask := range 1 << impl.BookMaxSets {
		c, n := noneDirty(fullCore()), 0
		for i := range c.Sets {
			if mask>>i&1 == 1 {
				c.Sets[i].Dirty = true
				n++
			}
		}
		if needs := impl.CommitNeeds(c); needs != 1+n {
			t.Errorf("%b: %d", mask, needs)
		}
		c.Dirty = true
		if needs := impl.CommitNeeds(c); needs != 1+n+8 {
			t.Errorf("%b, table: %d", mask, needs)
		}
	}
}

// partlyCore is three volumes of seven blocks, of which the second one is not Dirty.
func partlyCore() impl.Core {
	a, b, d := coreVolume("a"), coreVolume("b"), coreVolume("d")
	copy(a.Map[:], []impl.Ptr{ptr(13, 513, 1), ptr(15, 515, 1), ptr(17, 517, 5)})
	copy(b.Map[6:], []impl.Ptr{ptr(19, 519, 2)})
	copy(d.Map[1:], []impl.Ptr{ptr(21, 521, 3), ptr(22, 522, 3), ptr(23, 523, 6)})
	c := coreOf(homed(a, ptr(41, 7, 5)), homed(b, ptr(40, 8, 2)), d)
	c.Sets[0].Dirty, c.Sets[2].Dirty, c.Dirty = true, true, true
	c.Txg, c.LogN, c.Safe = 5, 3, []int{14, 40, 41, 42}
	c.Parts = []impl.Ptr{ptr(42, 9, 5)}
	return c
}

// What is Dirty is written in order, to the first free sectors, and refers to what was written.
func TestCommitWritesWhatIsDirty(t *testing.T) {
	x, c, code := impl.CommitDo(wideDisk(60, late(0, 13, "late"), late(1, 30, "later")), partlyCore())
	mapA, mapD := "13.513.1 15.515.1 17.517.5 - - - - -", "- 21.521.3 22.522.3 23.523.6 - - - -"
	part1, part2 := "513.13.1 515.15.1 517.17.1 519.19.1 521.21.1 522.22.1", "523.23.1"
	pointed := func(at int, text string) string {
		return strconv.Itoa(at) + "." + strconv.Itoa(impl.SumOf(text)) + ".6"
	}
	root := "root\na 1 - " + pointed(16, mapA) + "\nb 1 - 40.8.2\nd 1 - " + pointed(18, mapD) +
		"\n. " + pointed(20, part1) + "\n. " + pointed(24, part2)
	ring := impl.SumSeal("6 " + pointed(25, root) + " 6")
	want := impl.DiskFlush(wideDisk(60, late(0, 13, "late"), late(1, 30, "later")))
	for at, text := range map[int]string{16: mapA, 18: mapD, 20: part1, 24: part2, 25: root, 3: ring} {
		want.Sides[0][at], want.Sides[1][at] = text, text
	}
	if code != impl.BookDone || !sameDisk(x, want) {
		t.Errorf("code %d: %s", code, otherwise(x, want))
	}
	after := partlyCore()
	after.Txg, after.LogN, after.Dirty = 6, 0, false
	after.Sets[0] = homed(after.Sets[0], ptr(16, impl.SumOf(mapA), 6))
	after.Sets[2] = homed(after.Sets[2], ptr(18, impl.SumOf(mapD), 6))
	after.Sets[0].Dirty, after.Sets[2].Dirty = false, false
	after.Parts = []impl.Ptr{ptr(20, impl.SumOf(part1), 6), ptr(24, impl.SumOf(part2), 6)}
	after.Safe = []int{13, 15, 16, 17, 18, 19, 20, 21, 22, 23, 24, 25, 40}
	if !sameCore(c, after) {
		t.Errorf("%+v, not %+v", c, after)
	}
}

// Where nothing is Dirty, only the root is written, and all that it tells stays as it was.
func TestCommitOfNothingDirty(t *testing.T) {
	c := noneDirty(partlyCore())
	x, after, code := impl.CommitDo(wideDisk(60), c)
	root := "root\na 1 - 41.7.5\nb 1 - 40.8.2\nd 1 - -\n. 42.9.5"
	ring := impl.SumSeal("6 16." + strconv.Itoa(impl.SumOf(root)) + ".6 6")
	want := wideDisk(60)
	for side := range want.Sides {
		want.Sides[side][16], want.Sides[side][3] = root, ring
	}
	if code != impl.BookDone || !sameDisk(x, want) {
		t.Errorf("code %d: %s", code, otherwise(x, want))
	}
	c.Txg, c.LogN, c.Safe = 6, 0, []int{13, 15, 16, 17, 19, 21, 22, 23, 40, 41, 42}
	if !sameCore(after, c) {
		t.Errorf("%+v, not %+v", after, c)
	}
}

// Each subset of the sets may be Dirty: only those get a new Home, in order.
func TestCommitOfDirtySets(t *testing.T) {
	for mask := range 1 << impl.BookMaxSets {
		c := noneDirty(fullCore())
		want, next := fullCore(), 14
		for i := range c.Sets {
			if mask>>i&1 == 1 {
				c.Sets[i].Dirty = true
				want.Sets[i].Home = ptr(next, impl.SumOf(impl.CoreMap(c.Sets[i].Map)), 1)
				next += 2
			}
		}
		x, after, code := impl.CommitDo(wideDisk(impl.DiskMaxAt), c)
		if code != impl.BookDone || !slices.Equal(after.Sets, want.Sets) || after.Dirty || len(after.Parts) != 0 {
			t.Errorf("%b: code %d, %+v", mask, code, after)
		}
		for i, set := range after.Sets {
			text, read := impl.BlkRead(x, set.Home)
			if m, ok := impl.CoreMapRead(text); mask>>i&1 == 1 && (read != impl.BlkFine || !ok || m != c.Sets[i].Map) {
				t.Errorf("%b, set %d: %q", mask, i, text)
			}
		}
		if text := x.Sides[1][next]; text != impl.CoreRoot(want) {
			t.Errorf("%b: root %q", mask, text)
		}
	}
}

// A table that is Dirty is written in parts of six entries; one that is not keeps its Parts, whatever they are.
func TestCommitOfTables(t *testing.T) {
	for n := range impl.DdtMax + 1 {
		c := noneDirty(coreAt(upTo(13, 13+n), nil))
		c.Parts = []impl.Ptr{ptr(100, 1, 1), ptr(90, 2, 1)}
		c.Safe = []int{13 + n, 90, 100}
		name := strconv.Itoa(n) + " entries"
		want := commits(t, name+", not Dirty", wideDisk(impl.DiskMaxAt), c)
		if !slices.Equal(want.core.Parts, c.Parts) {
			t.Error(name, want.core.Parts)
		}
		c.Dirty = true
		x, after, code := impl.CommitDo(wideDisk(impl.DiskMaxAt), c)
		if code != impl.BookDone || after.Dirty || len(after.Parts) != (n+5)/6 || !slices.Equal(after.Ddt, c.Ddt) {
			t.Errorf("%s: code %d, %+v", name, code, after)
		}
		var read []impl.DdtEntry
		for i, part := range after.Parts {
			text, _ := impl.BlkRead(x, part)
			list, ok := impl.DdtRead(text)
			if !ok || part.At != 14+n+i || part.Birth != 1 || len(list) != min(6, n-6*i) {
				t.Errorf("%s, part %d: %v %q", name, i, part, text)
			}
			read = append(read, list...)
		}
		if !slices.Equal(read, c.Ddt) {
			t.Error(name, read)
		}
	}
}

// commitCases is states to commit, valid ones at the limits among them.
func commitCases() map[string]impl.Core {
	cases := map[string]impl.Core{"partly Dirty": partlyCore()}
	for name, c := range goodCores() {
		cases[name] = c
		cases[name+", all Dirty"] = allDirty(c)
		cases[name+", none Dirty"] = noneDirty(c)
	}
	return cases
}

func TestCommitOfCores(t *testing.T) {
	for name, c := range commitCases() {
		commits(t, name, wideDisk(impl.DiskMaxAt), c)
		commits(t, name+", late writes", wideDisk(61, late(0, 0, "a"), late(1, 13, "b"), late(0, 13, "c"), late(1, 2, "d")), c)
	}
}

// The order of the writes and of the flushes, told by what a power failure keeps of the late writes.
func TestCommitOrder(t *testing.T) {
	d := wideDisk(60, late(0, 13, "late"), late(1, 30, "later"))
	lateAt := [][2]int{{0, 13}, {1, 30}, {0, 16}, {1, 16}, {0, 18}, {1, 18}, {0, 20}, {1, 20}, {0, 24}, {1, 24}, {0, 25}, {1, 25}}
	done, _, _ := impl.CommitDo(d, partlyCore())
	for stage, ahead := range [][][2]int{lateAt, {{0, 3}, {1, 3}}} {
		start := impl.CommitCut(d, partlyCore(), stage, nil)
		if stage == 0 && !sameDisk(start, wideDisk(60)) {
			t.Error("something is flushed ahead of the first flush")
		}
		for i := range len(ahead) + 2 {
			want := ownDisk(start)
			if i < len(ahead) {
				side, at := ahead[i][0], ahead[i][1]
				want.Sides[side][at] = done.Sides[side][at]
			}
			fate := make([]int, i+1)
			fate[i] = impl.DiskKept
			if x := impl.CommitCut(d, partlyCore(), stage, fate); !sameDisk(x, want) {
				t.Errorf("stage %d, only write %d kept: %s", stage, i, otherwise(x, want))
			}
		}
		all := slices.Repeat([]int{impl.DiskKept}, len(ahead))
		if x := impl.CommitCut(d, partlyCore(), stage, all); stage == 1 && !sameDisk(x, done) {
			t.Errorf("all kept: %s", otherwise(x, done))
		}
	}
	// Ahead of the second flush all but the ring's record is on the disk.
	want := ownDisk(done)
	for side := range want.Sides {
		want.Sides[side][3] = wideDisk(60).Sides[side][3]
	}
	if x := impl.CommitCut(d, partlyCore(), 1, nil); !sameDisk(x, want) {
		t.Error(otherwise(x, want))
	}
}

// The ring's sectors are written in turn, and a commit leaves the other ones.
func TestCommitGoesRound(t *testing.T) {
	d, c, ok := impl.CommitNew(40)
	if !ok {
		t.Fatal("no store")
	}
	for txg := 2; txg < 30; txg++ {
		before := d
		var code int
		d, c, code = impl.CommitDo(d, c)
		if code != impl.BookDone || c.Txg != txg {
			t.Fatal(txg, code, c)
		}
		for slot := 1; slot <= 4; slot++ {
			for side := range d.Sides {
				text := d.Sides[side][slot]
				number, root, ok := impl.CoreUberRead(text)
				if slot == 1+txg%4 && (!ok || number != txg || root.At != c.Safe[0] || root.Birth != txg) {
					t.Errorf("commit %d, slot %d: %q", txg, slot, text)
				}
				if slot != 1+txg%4 && text != before.Sides[side][slot] {
					t.Errorf("commit %d: slot %d: %q", txg, slot, text)
				}
			}
		}
	}
}

// On the fewest sectors a store is new and takes no second commit; with one sector more, each root takes the place of the one before the last.
func TestCommitOfFewSectors(t *testing.T) {
	d, c, ok := impl.CommitNew(14)
	x, after, code := impl.CommitDo(d, c)
	if !ok || code != impl.BookRoom || !sameDisk(x, d) || !sameCore(after, c) {
		t.Error(ok, code, x, after)
	}
	d, c, ok = impl.CommitNew(15)
	for i := range 9 {
		if !ok || !slices.Equal(c.Safe, []int{13 + i%2}) || d.Sides[0][c.Safe[0]] != "root" {
			t.Fatal(i, ok, c, d)
		}
		d, c, code = impl.CommitDo(d, c)
		ok = code == impl.BookDone
	}
}

// Each commit number has a sector of the ring of its own, up to the last one.
func TestCommitNumbers(t *testing.T) {
	for _, txg := range []int{0, 1, 2, 3, 4, 5, 6, 7, 8, 99, 4095, 65535, 999996, 999997, impl.BlkMaxBirth - 2, impl.BlkMaxBirth - 1} {
		c := impl.Core{Txg: txg}
		commits(t, "Txg "+strconv.Itoa(txg), wideDisk(20), c)
		x, after, code := impl.CommitDo(impl.DiskOpen(20), c)
		number, root, ok := impl.CoreUberRead(x.Sides[0][impl.CoreRing+(txg+1)%impl.CoreSlots])
		if code != impl.BookDone || after.Txg != txg+1 || !ok || number != txg+1 || root.At != 13 || root.Birth != txg+1 {
			t.Error(txg, code, after, number, root)
		}
	}
	for _, c := range []impl.Core{{Txg: impl.BlkMaxBirth}, changed(func(c *impl.Core) { c.Txg = impl.BlkMaxBirth })} {
		d := wideDisk(60, late(1, 3, "late"))
		commits(t, "the last commit number", d, c)
		if x, after, code := impl.CommitDo(d, c); code != impl.BookRoom || !sameDisk(x, d) || !sameCore(after, c) {
			t.Error(code, x, after)
		}
		for stage := -1; stage < 3; stage++ {
			if x := impl.CommitCut(d, c, stage, []int{impl.DiskKept}); x.Sides[1][3] != "late" || !sameDisk(x, impl.DiskFlush(d)) {
				t.Errorf("stage %d: %s", stage, otherwise(x, impl.DiskFlush(d)))
			}
		}
	}
}

// With as many free sectors as a commit needs there is room for it, with one fewer there is not.
func TestCommitNeedsRoom(t *testing.T) {
	for name, c := range commitCases() {
		_, _, free := shareByHand(c, impl.DiskMaxAt)
		needs := needsByHand(c)
		if len(free) < needs || c.Txg == impl.BlkMaxBirth {
			continue
		}
		// The sectors up to the last one that is needed, and all but that one.
		n := free[needs-1] + 1
		if want := commits(t, name, wideDisk(n), c); want.code != impl.BookDone {
			t.Error(name, "is no case")
		}
		if n-1 <= impl.CoreFirst {
			continue
		}
		d := wideDisk(n-1, late(0, 1, "late"), late(1, 0, "later"))
		if want := commits(t, name+", one fewer", d, c); want.code != impl.BookRoom {
			t.Error(name, "is no case")
		}
		x, after, code := impl.CommitDo(d, c)
		if code != impl.BookRoom || !sameDisk(x, d) || !sameCore(after, c) {
			t.Error(name, code, x, after)
		}
		if x := impl.CommitCut(d, c, 1, []int{impl.DiskLost, impl.DiskKept}); x.Sides[0][1] == "late" || x.Sides[1][0] != "later" {
			t.Error(name, x.Sides[0][1], x.Sides[1][0])
		}
	}
}

// Only sectors that are neither At of an entry nor Safe count as free.
func TestCommitNeedsFreeSectors(t *testing.T) {
	for _, x := range []struct {
		name string
		c    impl.Core
		n    int
		code int
	}{
		{"all safe", coreAt(nil, upTo(13, 20)), 20, impl.BookRoom},
		{"all but the last one safe", coreAt(nil, upTo(13, 19)), 20, impl.BookDone},
		{"all but the first one safe", coreAt(nil, upTo(14, 20)), 20, impl.BookDone},
		{"all blocks", coreAt(upTo(13, 20), nil), 20, impl.BookRoom},
		{"all but one blocks", coreAt(upTo(13, 19), nil), 20, impl.BookDone},
		{"blocks and safe ones", coreAt(upTo(13, 17), upTo(15, 20)), 20, impl.BookRoom},
		{"one between", coreAt(upTo(13, 17), upTo(18, 20)), 20, impl.BookDone},
		{"all Dirty, needs 4", allDirty(coreAt(upTo(13, 17), nil)), 20, impl.BookDone},
		{"all Dirty, needs 3, 2 free", allDirty(coreAt(upTo(13, 18), nil)), 20, impl.BookRoom},
		{"all Dirty, most needs", allDirty(fullCore()), 116, impl.BookDone},
	} {
		commits(t, x.name, wideDisk(x.n), x.c)
		if _, _, code := impl.CommitDo(wideDisk(x.n), x.c); code != x.code {
			t.Error(x.name, code)
		}
	}
}

// A write for which the late writes leave no room makes the commit one that did not happen.
func TestCommitNeedsLateWrites(t *testing.T) {
	for name, c := range map[string]impl.Core{
		"only the root": {}, "partly Dirty": partlyCore(), "all Dirty": allDirty(partlyCore()), "full": allDirty(coreAt(upTo(13, 61), nil)),
	} {
		needs := needsByHand(c)
		for k := 600 - 2*needs - 3; k <= 600; k++ {
			d := wideDisk(90, lates(k)...)
			want := commits(t, name+", "+strconv.Itoa(k)+" late writes", d, c)
			if (want.code == impl.BookDone) != (k+2*needs <= 600) {
				t.Error(name, k, "is no case")
			}
		}
	}
}

// Where a write fails, power finds what was written ahead of it, in whatever stage, and neither flush.
func TestCommitCutWhereAWriteFails(t *testing.T) {
	c := partlyCore()
	for k, written := range map[int][]int{600: nil, 599: nil, 598: {16}, 597: {16}, 596: {16, 18}, 594: {16, 18, 20}, 592: {16, 18, 20, 24}, 591: {16, 18, 20, 24}} {
		d := wideDisk(60, lates(k)...)
		for stage := -1; stage < 4; stage++ {
			x := impl.CommitCut(d, c, stage, slices.Repeat([]int{impl.DiskKept}, 700))
			for at := 1; at < 60; at++ {
				changed := x.Sides[0][at] != d.Sides[0][at]
				if changed != slices.Contains(written, at) || (x.Sides[1][at] != d.Sides[1][at]) != changed {
					t.Errorf("%d late writes, stage %d, sector %d: %q", k, stage, at, x.Sides[0][at])
				}
			}
			if x := impl.CommitCut(d, c, stage, nil); !sameDisk(x, wideDisk(60)) {
				t.Errorf("%d late writes, stage %d, all lost: %s", k, stage, otherwise(x, wideDisk(60)))
			}
		}
	}
}

// Blocks begin at CoreFirst, so a disk has to have one sector more.
func TestCommitNeedsBlocks(t *testing.T) {
	for name, c := range commitCases() {
		for n := 1; n <= impl.CoreFirst; n++ {
			commitRefuses(t, name+", "+strconv.Itoa(n)+" sectors", wideDisk(n), c)
		}
		commits(t, name+", one sector of blocks", wideDisk(impl.CoreFirst+1), c)
	}
	if _, c, code := impl.CommitDo(wideDisk(impl.CoreFirst+1), impl.Core{}); code != impl.BookDone || !slices.Equal(c.Safe, []int{13}) {
		t.Error(code, c)
	}
}

// commitRefuses fails unless the arguments of a commit are told to be no valid ones.
func commitRefuses(t *testing.T, name string, d impl.Disk, c impl.Core) {
	t.Helper()
	x, after, code := impl.CommitDo(d, c)
	if code != impl.BookForm || !sameDisk(x, impl.Disk{}) || !sameCore(after, impl.Core{}) {
		t.Errorf("%s: code %d, %v, %v", name, code, x, after)
	}
	for stage := -1; stage < 3; stage++ {
		for _, fate := range [][]int{nil, {1, 2, 1}} {
			if x := impl.CommitCut(d, c, stage, fate); !sameDisk(x, impl.Disk{}) {
				t.Errorf("%s: cut in stage %d: %v", name, stage, x)
			}
		}
	}
}

func TestCommitRefusesCores(t *testing.T) {
	for name, c := range badCores() {
		if needs := impl.CommitNeeds(c); needs != 0 {
			t.Error(name, needs)
		}
		if needs := impl.CommitNeeds(allDirty(c)); needs != 0 {
			t.Error(name, "all Dirty:", needs)
		}
		commitRefuses(t, name, wideDisk(60, late(0, 0, "late")), c)
	}
}

func TestCommitRefusesDisks(t *testing.T) {
	full := func(d impl.Disk) impl.Disk {
		// Enough sectors on both sides, so that only what makes the disk one that is not valid is left.
		for side := range d.Sides {
			d.Sides[side] = append(slices.Clone(d.Sides[side]), make([]string, 40)...)
		}
		return d
	}
	for name, d := range badDisks() {
		commitRefuses(t, name, d, impl.Core{})
		commitRefuses(t, name+", partly Dirty", d, partlyCore())
		commitRefuses(t, name+", the last commit number", d, impl.Core{Txg: impl.BlkMaxBirth})
		if x := full(d); !impl.DiskOk(x) {
			commitRefuses(t, name+", more sectors", x, partlyCore())
		}
	}
	for name, c := range badCores() {
		commitRefuses(t, "zero value, "+name, impl.Disk{}, c)
	}
}

func TestCommitNew(t *testing.T) {
	root := "root"
	ring := impl.SumSeal("1 13." + strconv.Itoa(impl.SumOf(root)) + ".1 1")
	for n := impl.CoreFirst + 1; n <= impl.DiskMaxAt; n++ {
		d, c, ok := impl.CommitNew(n)
		want := diskOf(make([]string, n), make([]string, n))
		for side := range want.Sides {
			want.Sides[side][13], want.Sides[side][2] = root, ring
		}
		if !ok || !sameDisk(d, want) || !sameCore(c, impl.Core{Txg: 1, Safe: []int{13}}) {
			t.Errorf("%d sectors: %v %+v %s", n, ok, c, otherwise(d, want))
		}
		if stored, safe, free := impl.RoomSums(c, n); stored != 0 || safe != 1 || free != n-14 {
			t.Error(n, stored, safe, free)
		}
	}
	refused := []int{math.MinInt, math.MaxInt, -1, impl.DiskMaxAt + 1, impl.DiskMaxAt + 2, 1000}
	for _, n := range append(refused, upTo(0, impl.CoreFirst+1)...) {
		if d, c, ok := impl.CommitNew(n); ok || !sameDisk(d, impl.Disk{}) || !sameCore(c, impl.Core{}) {
			t.Errorf("%d sectors: %v %v %+v", n, ok, d, c)
		}
	}
}

// lastOnDisk is the state of the last commit as the disk tells it, with nothing from memory.
func lastOnDisk(t *testing.T, d impl.Disk) impl.Core {
	t.Helper()
	txg, root := 0, impl.Ptr{}
	for slot := 1; slot <= 4; slot++ {
		for side := range d.Sides {
			text, _ := impl.DiskRead(d, side, slot)
			if n, p, ok := impl.CoreUberRead(text); ok && n > txg {
				txg, root = n, p
			}
		}
	}
	text, _ := impl.BlkRead(d, root)
	c, ok := impl.CoreRootRead(text)
	if !ok {
		t.Fatalf("commit %d: no root at %v: %q", txg, root, text)
	}
	for i, set := range c.Sets {
		text, _ := impl.BlkRead(d, set.Home)
		if c.Sets[i].Map, ok = impl.CoreMapRead(text); !ok {
			t.Fatalf("commit %d: no pointers of %s at %v: %q", txg, set.Name, set.Home, text)
		}
	}
	for _, part := range c.Parts {
		text, _ := impl.BlkRead(d, part)
		list, ok := impl.DdtRead(text)
		if !ok {
			t.Fatalf("commit %d: no part at %v: %q", txg, part, text)
		}
		c.Ddt = append(c.Ddt, list...)
	}
	c.Txg, c.Safe = txg, reachByHand(c, root.At)
	return c
}

// bookOn is the book of a state, which there must be.
func bookOn(t *testing.T, d impl.Disk, c impl.Core) impl.Book {
	t.Helper()
	b, ok := impl.CoreBook(d, c)
	if !ok {
		t.Fatalf("a block is not read: %+v", c)
	}
	return b
}

// liveStore is a store that changes, with its last commit.
type liveStore struct {
	d    impl.Disk
	c    impl.Core
	last impl.Core
	book impl.Book
	full int
}

// newLiveStore is a store of n sectors without sets.
func newLiveStore(t *testing.T, n int) *liveStore {
	t.Helper()
	d, c, ok := impl.CommitNew(n)
	if !ok {
		t.Fatal(n)
	}
	return &liveStore{d: d, c: c, last: c}
}

// take is the sector of a block: where it is already, or a free one; 0, if no block may be allocated.
func (s *liveStore) take(t *testing.T, text string) int {
	t.Helper()
	if at := impl.DdtFind(s.d, s.c.Ddt, text); at != 0 {
		return at
	}
	if !impl.RoomMay(s.c, len(s.d.Sides[0])) {
		s.full++
		return 0
	}
	at := impl.RoomFree(s.c, len(s.d.Sides[0]))[0]
	var ok bool
	if s.d, ok = impl.BlkWrite(s.d, at, text); !ok {
		t.Fatal("a block is not written")
	}
	return at
}

// put sets a block of a set; an empty text has a null pointer.
func (s *liveStore) put(t *testing.T, i int, k int, text string) {
	t.Helper()
	if len(s.d.Late) > 500 {
		s.d = impl.DiskFlush(s.d)
	}
	p := impl.Ptr{}
	if text != "" {
		at := s.take(t, text)
		if at == 0 {
			return
		}
		p = impl.BlkTo(at, text, s.c.Txg+1)
	}
	set := &s.c.Sets[i]
	if set.Map[k].At != p.At {
		set.Map[k], set.Dirty = p, true
		s.c.Ddt, s.c.Dirty = coreOf(s.c.Sets...).Ddt, true
	}
}

// change has other sets than before, if those are valid ones. A new set is Dirty.
func (s *liveStore) change(sets []impl.CoreSet) {
	c := ownCore(s.c)
	c.Sets = sets
	slices.SortFunc(c.Sets, func(a, b impl.CoreSet) int { return strings.Compare(a.Name, b.Name) })
	if c.Ddt = coreOf(c.Sets...).Ddt; impl.CoreOk(c) {
		c.Dirty = c.Dirty || !slices.Equal(c.Ddt, s.c.Ddt)
		s.c = c
	}
}

// someChange adds a set, an empty one or a copy of another one, or removes one.
func (s *liveStore) someChange(r *rand.Rand) {
	sets := slices.Clone(s.c.Sets)
	set := coreVolume(string(rune('a' + r.IntN(9))))
	if len(sets) > 0 {
		i := r.IntN(len(sets))
		switch r.IntN(3) {
		case 0:
			s.change(slices.Delete(sets, i, i+1))
			return
		case 1:
			set.Kind, set.From, set.Map = 3-sets[i].Kind, sets[i].Name, sets[i].Map
		}
	}
	set.Dirty = true
	s.change(append(sets, set))
}

// commit commits, and fails unless that changes nothing that is read, overwrites nothing that the last commit reaches, and brings the state in memory on the disk.
func (s *liveStore) commit(t *testing.T, r *rand.Rand) {
	t.Helper()
	book := bookOn(t, s.d, s.c)
	s.cut(t, r, book)
	d, c, code := impl.CommitDo(s.d, s.c)
	if code != impl.BookDone {
		t.Fatalf("code %d: %+v", code, s.c)
	}
	if !sameBook(bookOn(t, d, c), book) || !sameBook(bookOn(t, d, s.c), book) {
		t.Fatal("what is read has changed")
	}
	if len(d.Late) != 0 || !sameCore(lastOnDisk(t, d), c) || !impl.CoreOk(c) || c.Txg != s.c.Txg+1 || c.LogN != 0 {
		t.Fatalf("in memory %+v, on the disk %+v", c, lastOnDisk(t, d))
	}
	kept := slices.Clone(s.last.Safe)
	for _, e := range s.c.Ddt {
		kept = append(kept, e.At)
	}
	before, after := readAll(t, s.d), readAll(t, d)
	for side := range before {
		for _, at := range kept {
			if before[side][at] != after[side][at] {
				t.Fatalf("sector %d of side %d, which is in use, is overwritten: %q", at, side, after[side][at])
			}
		}
	}
	s.d, s.c, s.last, s.book = d, c, ownCore(c), book
}

// cut lets power fall during the commit of a book: what is on the disk then is the last commit or this one.
func (s *liveStore) cut(t *testing.T, r *rand.Rand, book impl.Book) {
	t.Helper()
	for stage := range 2 {
		fate := make([]int, r.IntN(60))
		for i := range fate {
			fate[i] = r.IntN(3)
		}
		x := impl.CommitCut(s.d, s.c, stage, fate)
		c := lastOnDisk(t, x)
		switch {
		case c.Txg == s.last.Txg:
			if !sameCore(c, s.last) || !sameBook(bookOn(t, x, c), s.book) {
				t.Fatalf("stage %d, fate %v: the last commit is lost: %+v", stage, fate, c)
			}
		case stage == 0 || c.Txg != s.last.Txg+1 || !sameBook(bookOn(t, x, c), book):
			t.Fatalf("stage %d, fate %v: %+v", stage, fate, c)
		}
	}
}

// Promise 10: a commit changes nothing that is read and overwrites nothing that the last commit reaches; afterwards the state in memory is the one on the disk.
func TestCommitKeepsWhatIsRead(t *testing.T) {
	r := rand.New(rand.NewPCG(8, 10))
	for _, n := range []int{46, 60, 80, impl.DiskMaxAt} {
		s := newLiveStore(t, n)
		for range 150 {
			for range r.IntN(12) {
				if len(s.c.Sets) == 0 || r.IntN(8) == 0 {
					s.someChange(r)
				} else {
					s.put(t, r.IntN(len(s.c.Sets)), r.IntN(8), strings.Repeat("x", r.IntN(3))+strconv.Itoa(r.IntN(30)))
				}
			}
			if len(s.c.Sets) > 0 && r.IntN(3) == 0 {
				s.put(t, r.IntN(len(s.c.Sets)), r.IntN(8), "")
			}
			s.commit(t, r)
		}
		if s.c.Txg != 151 {
			t.Error(s.c.Txg)
		}
	}
}

// hasRoom fails unless there is room for a commit of the state as it is.
func (s *liveStore) hasRoom(t *testing.T) {
	t.Helper()
	if free := len(impl.RoomFree(s.c, len(s.d.Sides[0]))); free < impl.CommitNeeds(s.c) {
		t.Fatalf("%d sectors are free, %d are needed: %+v", free, impl.CommitNeeds(s.c), s.c)
	}
	if _, _, code := impl.CommitDo(s.d, s.c); code != impl.BookDone {
		t.Fatalf("code %d: %+v", code, s.c)
	}
}

// Promise 11: as long as RoomMay was checked before each allocation, there is always room for a commit. Each block gets a new text in each round, so that as much as possible is in use.
func TestCommitHasRoom(t *testing.T) {
	r := rand.New(rand.NewPCG(8, 11))
	for _, n := range []int{46, 47, 50, 60, 76, 92, 93, 94, 105, impl.DiskMaxAt} {
		s := newLiveStore(t, n)
		for i := range impl.BookMaxSets {
			set := coreVolume(string(rune('a' + i)))
			set.Dirty = true
			s.change(append(slices.Clone(s.c.Sets), set))
			s.hasRoom(t)
		}
		most := 0
		for round := range 12 {
			for _, i := range r.Perm(impl.BookMaxSets * impl.BookBlocks) {
				s.put(t, i%6, i/6, "round "+strconv.Itoa(round)+", block "+strconv.Itoa(i))
				s.hasRoom(t)
			}
			most = max(most, len(s.c.Ddt))
			if round%3 != 2 {
				s.commit(t, r)
			}
		}
		if s.full == 0 || most != min(n-45, impl.DdtMax) {
			t.Errorf("%d sectors: refused %d times, %d blocks at most", n, s.full, most)
		}
	}
}

// Promise 11, where sets come and go too.
func TestCommitHasRoomForChanges(t *testing.T) {
	r := rand.New(rand.NewPCG(8, 12))
	for _, n := range []int{46, 55, 90, 100, impl.DiskMaxAt} {
		s := newLiveStore(t, n)
		for i := range 1500 {
			switch k := r.IntN(100); {
			case len(s.c.Sets) == 0 || k < 8:
				s.someChange(r)
			case k < 10:
				s.commit(t, r)
			case k < 15:
				s.put(t, r.IntN(len(s.c.Sets)), r.IntN(8), "")
			default:
				s.put(t, r.IntN(len(s.c.Sets)), r.IntN(8), "text "+strconv.Itoa(i))
			}
			s.hasRoom(t)
		}
		if s.full == 0 {
			t.Error(n, "sectors: never full")
		}
	}
}

// roomyWide is a disk of 60 sectors with k late writes and unused capacity behind each list that is in use elsewhere, and the whole of it.
func roomyWide(k int) (d impl.Disk, whole impl.Disk) {
	whole = wideDisk(62, lates(k+2)...)
	return diskOf(whole.Sides[0][:60], whole.Sides[1][:60], whole.Late[:k]...), whole
}

// A commit leaves its arguments and what is behind them, and has memory of its own, also where it is refused.
func TestCommitsShareNoMemory(t *testing.T) {
	for name, x := range map[string]struct{ k, txg, code int }{
		"done":                   {3, 5, impl.BookDone},
		"no late writes":         {0, 5, impl.BookDone},
		"the last commit number": {3, impl.BlkMaxBirth, impl.BookRoom},
		"no room for a write":    {598, 5, impl.BookRoom},
		"not valid":              {3, -1, impl.BookForm},
	} {
		args := func() (d, whole impl.Disk, c, room impl.Core) {
			d, whole = roomyWide(x.k)
			c, room = roomyCore()
			c.Txg = x.txg
			return d, whole, c, room
		}
		d, whole, c, room := args()
		fate := []int{impl.DiskTorn, impl.DiskKept, 77}
		cut, otherCut := impl.CommitCut(d, c, 0, fate[:2]), impl.CommitCut(d, c, 1, fate[:2])
		disk, core, code := impl.CommitDo(d, c)
		otherDisk, otherCore, _ := impl.CommitDo(d, c)
		if code != x.code {
			t.Error(name, code)
		}
		wantDisk, wantCore, wantCut := ownDisk(otherDisk), ownCore(otherCore), ownDisk(otherCut)
		spoil(disk)
		spoil(cut)
		spoilCore(core)
		_, freshWhole, _, freshRoom := args()
		if !sameDisk(whole, freshWhole) || !sameCore(room, freshRoom) || !slices.Equal(fate, []int{impl.DiskTorn, impl.DiskKept, 77}) {
			t.Errorf("%s: an argument has changed", name)
		}
		spoil(d)
		spoilCore(c)
		if !sameDisk(otherDisk, wantDisk) || !sameCore(otherCore, wantCore) || !sameDisk(otherCut, wantCut) {
			t.Errorf("%s: a result has changed", name)
		}
		sides := slices.Clone(otherDisk.Sides[1])
		spoil(impl.Disk{Sides: [2][]string{otherDisk.Sides[0], nil}})
		if !slices.Equal(otherDisk.Sides[1], sides) {
			t.Errorf("%s: the sides share memory", name)
		}
	}
}

func TestNewStoresShareNoMemory(t *testing.T) {
	d, c, _ := impl.CommitNew(20)
	other, core, _ := impl.CommitNew(20)
	want, kept := ownDisk(other), ownCore(core)
	spoil(d)
	spoilCore(c)
	if !sameDisk(other, want) || !sameCore(core, kept) {
		t.Error(other, core)
	}
}
