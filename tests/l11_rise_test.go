package tests

import (
	"maps"
	"math"
	"math/rand/v2"
	"slices"
	"strconv"
	"strings"
	"testing"

	"loop.example/palim/impl"
)

// ringText is the record of a commit in the ring.
func ringText(txg int, root impl.Ptr) string {
	number := strconv.Itoa(txg)
	return uberText(number, impl.PtrText(root), number)
}

// lay is a disk on which sectors of both sides contain texts.
func lay(d impl.Disk, texts map[int]string) impl.Disk {
	d = ownDisk(d)
	for at, text := range texts {
		d.Sides[0][at], d.Sides[1][at] = text, text
	}
	return d
}

// bestByHand is what RiseBest returns.
func bestByHand(d impl.Disk) (txg int, root impl.Ptr, ok bool) {
	for at := 1; at <= 4 && at < len(d.Sides[0]) && impl.DiskOk(d); at++ {
		for side := range d.Sides {
			text, _ := impl.DiskRead(d, side, at)
			if n, p, there := uberByHand(text); there && n > txg {
				txg, root, ok = n, p, true
			}
		}
	}
	return txg, root, ok
}

// blockByHand is the block of a pointer as the first side that has it tells.
func blockByHand(d impl.Disk, p impl.Ptr) (string, bool) {
	for side := range d.Sides {
		if text, ok := impl.DiskRead(d, side, p.At); ok && p.At > 0 && impl.SumOf(text) == p.Sum {
			return text, true
		}
	}
	return "", false
}

// stateByHand is what RiseRead returns.
func stateByHand(d impl.Disk) (impl.Core, int) {
	txg, root, ok := bestByHand(d)
	if !ok {
		return impl.Core{}, impl.BookNone
	}
	text, ok := blockByHand(d, root)
	c, isRoot := rootByHand(text)
	for i, set := range c.Sets {
		text, there := blockByHand(d, set.Home)
		m, isMap := mapByHand(text)
		c.Sets[i].Map, ok = m, ok && there && isMap
	}
	for _, part := range c.Parts {
		text, there := blockByHand(d, part)
		list, isTable := impl.DdtRead(text)
		c.Ddt, ok = append(c.Ddt, list...), ok && there && isTable
	}
	c.Txg = txg
	if !ok || !isRoot || !coreByHand(c) {
		return impl.Core{}, impl.PoolBad
	}
	c.Safe = reachByHand(c, root.At)
	return c, impl.BookDone
}

// risen is what a recovery leads to, and what the disk is ahead of each flush of its commit, or where it stops.
type risen struct {
	pool  impl.Pool
	code  int
	ahead [2]impl.Disk
}

// riseByHand is what a recovery of a disk leads to.
func riseByHand(t *testing.T, d impl.Disk) risen {
	t.Helper()
	stop := func(code int) risen { return risen{code: code, ahead: [2]impl.Disk{d, d}} }
	c, code := stateByHand(d)
	if code != impl.BookDone {
		return stop(code)
	}
	x := ownDisk(d)
	for _, op := range findByHand(t, d, c.Txg) {
		if len(d.Sides[0]) <= 13 {
			return stop(impl.BookForm)
		}
		if _, code := impl.BookDo(shapeOf(c), op); code != impl.BookDone {
			return stop(code)
		}
		if !pointByHand(&x, &c, op) {
			return stop(impl.BookRoom)
		}
	}
	if len(d.Sides[0]) <= 13 {
		return risen{code: impl.BookForm}
	}
	y := commitByHand(x, c)
	if y.code != impl.BookDone {
		return risen{code: y.code, ahead: y.ahead}
	}
	return risen{poolOf(y.disk, y.core), impl.BookDone, y.ahead}
}

// rises fails unless a disk is read and recovered as the document says, also where power fails meanwhile.
func rises(t *testing.T, name string, d impl.Disk) risen {
	t.Helper()
	old := ownDisk(d)
	txg, root, ok := bestByHand(d)
	if n, p, there := impl.RiseBest(d); n != txg || p != root || there != ok {
		t.Errorf("%s: best: commit %d, %v, %v, not %d, %v, %v", name, n, p, there, txg, root, ok)
	}
	core, code := stateByHand(d)
	if c, x := impl.RiseRead(d); x != code || !sameCore(c, core) {
		t.Errorf("%s: state: code %d, not %d: %+v, not %+v", name, x, code, c, core)
	}
	want := riseByHand(t, d)
	p, code := impl.RiseDo(d)
	if code != want.code || !samePool(p, want.pool) {
		t.Errorf("%s: code %d, not %d: %+v, not %+v %s", name, code, want.code, p.Core, want.pool.Core, otherwise(p.Disk, want.pool.Disk))
	}
	cutsBriefly(t, name, want.ahead, riseCutOf(d))
	if !sameDisk(d, old) {
		t.Errorf("%s: the disk has changed", name)
	}
	return want
}

// riseCutOf is RiseCut of a disk.
func riseCutOf(d impl.Disk) func(stage int, fate []int) impl.Disk {
	return func(stage int, fate []int) impl.Disk { return impl.RiseCut(d, stage, fate) }
}

// cutsAs fails unless what is cut in a stage is the disk ahead of that stage's flush after a power failure.
func cutsAs(t *testing.T, name string, ahead impl.Disk, stage int, fate []int, cut func(stage int, fate []int) impl.Disk) {
	t.Helper()
	kept := slices.Clone(fate)
	if x, want := cut(stage, fate), impl.DiskFall(ahead, fate); !sameDisk(x, want) || !slices.Equal(fate, kept) {
		t.Errorf("%s: cut in stage %d, fate %v: %s", name, stage, fate, otherwise(x, want))
	}
}

// cutsBriefly is cutsAs for both stages and few fates.
func cutsBriefly(t *testing.T, name string, ahead [2]impl.Disk, cut func(stage int, fate []int) impl.Disk) {
	t.Helper()
	for stage := range ahead {
		cutsAs(t, name, ahead[stage], stage, nil, cut)
		cutsAs(t, name, ahead[stage], stage, slices.Repeat([]int{1, 0, 2}, 20), cut)
	}
}

// cutsFully is cutsAs for stages below 0, 0, 1 and more, and for many fates.
func cutsFully(t *testing.T, name string, ahead [2]impl.Disk, cut func(stage int, fate []int) impl.Disk) {
	t.Helper()
	for _, stage := range []int{math.MinInt, -1, 0, 1, 2, math.MaxInt} {
		x := ahead[min(max(stage, 0), 1)]
		for which, fate := range fates(len(x.Late)) {
			if stage == 0 || stage == 1 || !strings.HasPrefix(which, "only") {
				cutsAs(t, name, x, stage, fate, cut)
			}
		}
	}
}

// risesAs is rises, and fails unless a recovery has a code.
func risesAs(t *testing.T, name string, d impl.Disk, code int) impl.Pool {
	t.Helper()
	x := rises(t, name, d)
	if x.code != code {
		t.Errorf("%s: code %d, not %d", name, x.code, code)
	}
	return x.pool
}

// readsAs fails unless RiseRead has a code; whatever it is, what the document says is returned.
func readsAs(t *testing.T, name string, d impl.Disk, code int) impl.Core {
	t.Helper()
	rises(t, name, d)
	c, x := impl.RiseRead(d)
	if x != code {
		t.Errorf("%s: code %d, not %d", name, x, code)
	}
	return c
}

// best fails unless RiseBest returns this commit and root.
func best(t *testing.T, name string, d impl.Disk, txg int, root impl.Ptr) {
	t.Helper()
	rises(t, name, d)
	if n, p, ok := impl.RiseBest(d); n != txg || p != root || ok != (txg > 0) {
		t.Errorf("%s: commit %d, %v, %v, not %d, %v", name, n, p, ok, txg, root)
	}
}

// slotDisk is a disk with texts in the ring: of side 0 and of side 1 for each slot in turn, as far as there are any.
func slotDisk(texts ...string) impl.Disk {
	d := wideDisk(60)
	for i, text := range texts {
		d.Sides[i%2][1+i/2] = text
	}
	return d
}

func TestRiseBest(t *testing.T) {
	a, b, c, e := ptr(13, 7, 1), ptr(14, 8, 2), ptr(119, 65520, impl.BlkMaxBirth), ptr(1, 0, 0)
	best(t, "empty disk", impl.DiskOpen(60), 0, impl.Ptr{})
	best(t, "other texts", wideDisk(60), 0, impl.Ptr{})
	best(t, "new store", impl.PoolOpen(60).Disk, 1, ptr(13, impl.SumOf("root"), 1))
	for i := range 8 {
		for txg, root := range map[int]impl.Ptr{1: e, 2: a, 7: b, impl.BlkMaxBirth: c} {
			texts := make([]string, 8)
			texts[i] = ringText(txg, root)
			best(t, "one record, place "+strconv.Itoa(i), slotDisk(texts...), txg, root)
			// Every other place has a smaller number, or the same one ahead of it.
			for k := range texts {
				texts[k] = ringText(max(1, txg-1), a)
			}
			texts[i] = ringText(txg, root)
			if txg > 1 {
				best(t, "greatest in place "+strconv.Itoa(i), slotDisk(texts...), txg, root)
			}
			texts[7-i] = ringText(txg, b)
			if first := root; txg > 1 {
				if i > 3 {
					first = b
				}
				best(t, "the first of two in places "+strconv.Itoa(i)+" and "+strconv.Itoa(7-i), slotDisk(texts...), txg, first)
			}
		}
	}
	best(t, "two records", slotDisk(ringText(4, a), ringText(4, a), ringText(5, b), ringText(5, b)), 5, b)
	best(t, "two records turned", slotDisk(ringText(5, b), ringText(5, b), ringText(4, a), ringText(4, a)), 5, b)
	best(t, "numbers are no texts", slotDisk(ringText(9, a), "", ringText(10, b)), 10, b)
	best(t, "numbers are no texts, far apart", slotDisk(ringText(99999, a), "", "", ringText(100000, b), "", ringText(8, c)), 100000, b)
	best(t, "equal numbers, other pointers", slotDisk(ringText(4, a), ringText(4, b)), 4, a)
	best(t, "equal numbers, greater pointer last", slotDisk("", ringText(4, b), ringText(4, c), ringText(4, a)), 4, b)
	best(t, "number of another slot", slotDisk(ringText(7, a), "", ringText(6, b), ringText(8, c)), 8, c)
	best(t, "right on side 1 alone", slotDisk("", ringText(4, a)), 4, a)
	best(t, "right on side 1 alone, older on side 0", slotDisk(ringText(4, a), ringText(8, b)), 8, b)
	best(t, "right on side 0 alone, older on side 1", slotDisk(ringText(8, b), ringText(4, a)), 8, b)
	best(t, "spoilt on side 0", slotDisk(ringText(8, b)+" ", ringText(4, a), "7:7", ringText(3, c)), 4, a)
}

// Each order of the numbers of four commits in the ring, on one side and on both.
func TestRiseBestOfFourRecords(t *testing.T) {
	roots := []impl.Ptr{ptr(13, 1, 1), ptr(14, 2, 1), ptr(15, 3, 1), ptr(16, 4, 1)}
	for order := range 256 {
		for side := range 3 {
			var texts []string
			txg, root := 0, impl.Ptr{}
			for slot := range 4 {
				n := 96 + order>>(2*slot)&3
				both := []string{ringText(n, roots[slot]), ringText(n, roots[slot])}
				if side < 2 {
					both[side] = ""
				}
				texts = append(texts, both...)
				if n > txg {
					txg, root = n, roots[slot]
				}
			}
			if n, p, ok := impl.RiseBest(slotDisk(texts...)); n != txg || p != root || !ok {
				t.Errorf("order %d, side %d: commit %d, %v, not %d, %v", order, side, n, p, txg, root)
			}
		}
	}
}

// A record that is torn over an older one, or over none, does not count.
func TestRiseBestOfTornRecords(t *testing.T) {
	older, newer := ringText(96, ptr(13, 7, 96)), ringText(100, ptr(14, 5, 100))
	third := ringText(99, ptr(15, 3, 99))
	for k := range len(newer) {
		torn := newer[:k] + older[min(k, len(older)):]
		want, root := 99, ptr(15, 3, 99)
		d := slotDisk(torn, torn, "", third)
		if k == 0 {
			torn = newer[:k]
		}
		best(t, "torn on both sides", d, want, root)
		best(t, "torn over nothing", slotDisk(newer[:k], newer[:k], "", third), want, root)
		best(t, "torn on side 0", slotDisk(torn, newer, "", third), 100, ptr(14, 5, 100))
		best(t, "torn on side 1", slotDisk(newer, torn, "", third), 100, ptr(14, 5, 100))
	}
	best(t, "only torn", slotDisk(newer[:9], newer[:9]), 0, impl.Ptr{})
}

// Only the ring's sectors are read, as far as the disk has them, through the late writes.
func TestRiseBestElsewhere(t *testing.T) {
	root := ptr(13, 7, 1)
	for at := range 60 {
		for side := range 2 {
			d := wideDisk(60)
			d.Sides[side][at] = ringText(9, root)
			l := wideDisk(60, late(side, at, "first"), late(side, at, ringText(9, root)))
			over := ownDisk(d)
			over.Late = append(over.Late, late(side, at, "over"))
			if at < 1 || at > 4 {
				best(t, "elsewhere", d, 0, impl.Ptr{})
				best(t, "elsewhere, late", l, 0, impl.Ptr{})
				continue
			}
			best(t, "in the ring", d, 9, root)
			best(t, "in the ring, late", l, 9, root)
			best(t, "written over late", over, 0, impl.Ptr{})
		}
	}
	for n := 1; n <= 6; n++ {
		d := wideDisk(n)
		for at := range n {
			d.Sides[1][at] = ringText(10+at, root)
		}
		if n == 1 {
			best(t, "one sector", d, 0, impl.Ptr{})
		} else {
			best(t, strconv.Itoa(n)+" sectors", d, 10+min(n-1, 4), root)
		}
	}
}

// tale is what the last commit of a disk tells: the texts of the blocks by their sectors, each set with its Map, and the parts of the table.
type tale struct {
	txg    int
	blocks map[int]string
	sets   []string
	maps   []string
	parts  []string
}

// The sectors in which a tale has its root, and the first ones of its maps and of its parts.
const (
	taleRoot  = 25
	taleMaps  = 26
	taleParts = 32
)

// texts is what the sectors of a tale contain, but for the ring.
func (x tale) texts() map[int]string {
	texts := map[int]string{}
	maps.Copy(texts, x.blocks)
	root := "root"
	for i, set := range x.sets {
		texts[taleMaps+i] = x.maps[i]
		root += "\n" + set + " " + impl.PtrText(impl.BlkTo(taleMaps+i, x.maps[i], 6))
	}
	for i, part := range x.parts {
		texts[taleParts+i] = part
		root += "\n. " + impl.PtrText(impl.BlkTo(taleParts+i, part, 5))
	}
	texts[taleRoot] = root
	return texts
}

// disk is a disk of n sectors that tells a tale.
func (x tale) disk(n int) impl.Disk {
	texts := x.texts()
	return rooted(lay(wideDisk(n), texts), x.txg, taleRoot, texts[taleRoot])
}

// rooted is a disk whose last commit has a root with this text.
func rooted(d impl.Disk, txg int, at int, root string) impl.Disk {
	return lay(d, map[int]string{at: root, 1 + txg%4: ringText(txg, impl.BlkTo(at, root, txg))})
}

// pointsAt is the text of a pointer to a block.
func pointsAt(at int, text string) string { return impl.PtrText(impl.BlkTo(at, text, at-12)) }

// counts is the text of an entry of a block.
func counts(at int, text string, count int) string {
	return strconv.Itoa(impl.SumOf(text)) + "." + strconv.Itoa(at) + "." + strconv.Itoa(count)
}

// smallTale is a volume and a snapshot of it.
func smallTale() tale {
	one, two, three := pointsAt(13, "one"), pointsAt(14, "two"), pointsAt(17, "three")
	return tale{
		txg:    7,
		blocks: map[int]string{13: "one", 14: "two", 17: "three"},
		sets:   []string{"s 2 v", "v 1 -"},
		maps:   []string{one + " - - - - " + two + " - -", one + " " + three + " - - - - - " + one},
		parts:  []string{counts(13, "one", 3) + " " + counts(14, "two", 1), counts(17, "three", 1)},
	}
}

// retold is smallTale after a change.
func retold(change func(x *tale)) impl.Disk {
	x := smallTale()
	change(&x)
	return x.disk(60)
}

// blotted is a disk on which a sector contains something else on some sides.
func blotted(d impl.Disk, at int, sides ...int) impl.Disk {
	d = ownDisk(d)
	for _, side := range sides {
		d.Sides[side][at] = "blotted"
	}
	return d
}

func TestRiseRead(t *testing.T) {
	c := readsAs(t, "whole", smallTale().disk(60), impl.BookDone)
	x := smallTale()
	mapS, _ := mapByHand(x.maps[0])
	mapV, _ := mapByHand(x.maps[1])
	want := impl.Core{
		Txg:   7,
		Sets:  []impl.CoreSet{homed(coreSet("s", 2, "v", mapS[:]...), impl.BlkTo(26, x.maps[0], 6)), homed(coreVolume("v", mapV[:]...), impl.BlkTo(27, x.maps[1], 6))},
		Ddt:   []impl.DdtEntry{entry(impl.SumOf("one"), 13, 3), entry(impl.SumOf("two"), 14, 1), entry(impl.SumOf("three"), 17, 1)},
		Parts: []impl.Ptr{impl.BlkTo(32, x.parts[0], 5), impl.BlkTo(33, x.parts[1], 5)},
		Safe:  []int{13, 14, 17, 25, 26, 27, 32, 33},
	}
	if !sameCore(c, want) {
		t.Errorf("%+v, not %+v", c, want)
	}
	if b := bookOn(t, smallTale().disk(60), c); !sameBook(b, bookOf(snapshot("s", "v", "one", "", "", "", "", "two"), volume("v", "", "one", "three", "", "", "", "", "", "one"))) {
		t.Errorf("%+v", b)
	}
}

// A block is read where one side has it, and what the last commit tells is lost where none has.
func TestRiseReadOfDamagedBlocks(t *testing.T) {
	d := smallTale().disk(60)
	want, _ := impl.RiseRead(d)
	for at := range 60 {
		reached := slices.Contains([]int{25, 26, 27, 32, 33}, at)
		code := impl.BookDone
		if reached {
			code = impl.PoolBad
		}
		if at == 4 {
			code = impl.BookNone
		}
		name := "sector " + strconv.Itoa(at)
		if c := readsAs(t, name+" on side 0", blotted(d, at, 0), impl.BookDone); !sameCore(c, want) {
			t.Errorf("%s on side 0: %+v", name, c)
		}
		if c := readsAs(t, name+" on side 1", blotted(d, at, 1), impl.BookDone); !sameCore(c, want) {
			t.Errorf("%s on side 1: %+v", name, c)
		}
		readsAs(t, name+" on both sides", blotted(d, at, 0, 1), code)
		// The same as late writes.
		l := ownDisk(d)
		l.Late = []impl.DiskLate{late(1, at, "blotted")}
		readsAs(t, name+" on side 1, late", l, impl.BookDone)
		l.Late = append(l.Late, late(0, at, "blotted"))
		readsAs(t, name+" on both sides, late", l, code)
		l = blotted(d, at, 0, 1)
		l.Late = []impl.DiskLate{late(1, at, "first"), late(1, at, d.Sides[1][at])}
		if c := readsAs(t, name+" written anew on side 1", l, impl.BookDone); !sameCore(c, want) {
			t.Errorf("%s written anew: %+v", name, c)
		}
	}
	// Each side has what the other one has not.
	for mask := range 1 << 5 {
		x := d
		for i, at := range []int{25, 26, 27, 32, 33} {
			x = blotted(x, at, mask>>i&1)
		}
		if c := readsAs(t, strconv.FormatInt(int64(mask), 2), x, impl.BookDone); !sameCore(c, want) {
			t.Errorf("%b: %+v", mask, c)
		}
	}
}

// Where side 0 has another text of the right sum, that is what is read, whatever side 1 has.
func TestRiseReadTakesTheFirstSide(t *testing.T) {
	d := smallTale().disk(60)
	for _, at := range []int{25, 26, 27, 32, 33} {
		twin := otherText(t, impl.SumOf(d.Sides[0][at]), d.Sides[0][at])
		x := ownDisk(d)
		x.Sides[0][at] = twin
		readsAs(t, "twin on side 0", x, impl.PoolBad)
		x = ownDisk(d)
		x.Sides[1][at] = twin
		readsAs(t, "twin on side 1", x, impl.BookDone)
	}
}

// A root that is read but is none.
func TestRiseReadOfOtherRoots(t *testing.T) {
	whole := smallTale().texts()[taleRoot]
	lines := strings.Split(whole, "\n")
	roots := map[string]string{
		"nothing": "", "a text": "roots", "a map": smallTale().maps[0], "a part": smallTale().parts[0], "a ring's record": ringText(7, ptr(taleRoot, 7, 7)), "a record of the log": slotText(7, 0),
		"a newline more": whole + "\n", "a newline less": strings.Replace(whole, "\n", "", 1), "a space more": whole + " ", "no first line": strings.Join(lines[1:], "\n"), "a line twice": whole + "\n" + lines[1],
		"sets turned": strings.Join([]string{lines[0], lines[2], lines[1], lines[3], lines[4]}, "\n"), "parts first": strings.Join([]string{lines[0], lines[3], lines[4], lines[1], lines[2]}, "\n"),
		"no volume of the snapshot": strings.Join([]string{lines[0], lines[1], lines[3], lines[4]}, "\n"), "nine parts": whole + strings.Repeat("\n"+lines[4], 7),
		"a kind of none": strings.Replace(whole, "v 1 -", "v 3 -", 1), "a null part": whole + "\n. -", "a pointer too far": strings.Replace(whole, "\nv 1 - 27.", "\nv 1 - 127.", 1),
	}
	for name, root := range roots {
		if _, ok := rootByHand(root); ok {
			t.Error(name, "is a root")
		}
		readsAs(t, name, rooted(smallTale().disk(60), 7, taleRoot, root), impl.PoolBad)
	}
	// A root that tells nothing else is one; it may be in any sector that the disk has, whatever commit wrote it.
	if c := readsAs(t, "no sets", rooted(wideDisk(60), 7, taleRoot, "root"), impl.BookDone); !sameCore(c, impl.Core{Txg: 7, Safe: []int{taleRoot}}) {
		t.Errorf("%+v", c)
	}
	for at := 1; at < 120; at++ {
		d := lay(wideDisk(60), map[int]string{3: ringText(6, impl.BlkTo(at, "root", 2))})
		if at == 3 || at >= 60 {
			readsAs(t, "no root in sector "+strconv.Itoa(at), d, impl.PoolBad)
			continue
		}
		var safe []int
		if at >= 13 {
			safe = []int{at}
		}
		if c := readsAs(t, "root in sector "+strconv.Itoa(at), lay(d, map[int]string{at: "root"}), impl.BookDone); !sameCore(c, impl.Core{Txg: 6, Safe: safe}) {
			t.Errorf("root in sector %d: %+v", at, c)
		}
	}
	for _, txg := range []int{1, 2, 3, 4, 5, 99, impl.BlkMaxBirth - 1, impl.BlkMaxBirth} {
		if c := readsAs(t, "commit "+strconv.Itoa(txg), rooted(wideDisk(60), txg, 13, "root"), impl.BookDone); c.Txg != txg {
			t.Error(txg, c)
		}
	}
}

// A Home that is null, past the end of the disk, or of a block that holds no map.
func TestRiseReadOfHomes(t *testing.T) {
	for i := range 2 {
		root := strings.Split(smallTale().texts()[taleRoot], "\n")
		words := strings.Split(root[1+i], " ")
		line := func(home string) string {
			lines := slices.Clone(root)
			lines[1+i] = strings.Join(words[:3], " ") + " " + home
			return strings.Join(lines, "\n")
		}
		d := smallTale().disk(60)
		text := d.Sides[0][taleMaps+i]
		for name, home := range map[string]string{
			"null": "-", "past the end": impl.PtrText(impl.BlkTo(60, text, 6)), "far": impl.PtrText(impl.BlkTo(119, text, 6)),
			"another sum": impl.PtrText(ptr(taleMaps+i, impl.SumOf(text)+1, 6)), "the root": impl.PtrText(impl.BlkTo(taleRoot, text, 6)),
		} {
			readsAs(t, name, rooted(d, 7, taleRoot, line(home)), impl.PoolBad)
		}
		// A block may be anywhere, whatever commit wrote it.
		for _, at := range []int{1, 2, 5, 12, 13, 59} {
			x := rooted(lay(d, map[int]string{at: text}), 7, taleRoot, line(impl.PtrText(impl.BlkTo(at, text, 999))))
			if at == 13 {
				// What the blocks of a set contain is not read.
				x = lay(x, map[int]string{13: text})
			}
			readsAs(t, "sector "+strconv.Itoa(at), x, impl.BookDone)
		}
		for name, other := range map[string]string{
			"nothing": "", "a text": "text", "seven pointers": "- - - - - - -", "nine pointers": "- - - - - - - - -", "a space more": text + " ", "two spaces": strings.Replace(text, " ", "  ", 1), "a newline": text + "\n",
			"a root": "root", "a part": smallTale().parts[0], "a pointer that is none": strings.Replace(text, "13.", "013.", 1), "a pointer too far": strings.Replace(text, "13.", "120.", 1), "a ring's record": ringText(7, ptr(13, 1, 1)),
		} {
			readsAs(t, name, retold(func(x *tale) { x.maps[i] = other }), impl.PoolBad)
		}
		// A map is read as such, but its pointers are not those that are counted.
		readsAs(t, "no pointers", retold(func(x *tale) { x.maps[i] = "- - - - - - - -" }), impl.PoolBad)
	}
	// A map that is not read is not one without pointers, although no count tells them apart.
	empty := tale{7, nil, []string{"v 1 -", "w 1 -"}, []string{"- - - - - - - -", "- - - - - - - -"}, nil}
	readsAs(t, "empty volumes", empty.disk(60), impl.BookDone)
	for i := range 2 {
		readsAs(t, "empty volume, damaged", blotted(empty.disk(60), taleMaps+i, 0, 1), impl.PoolBad)
		x := tale{7, nil, empty.sets, slices.Clone(empty.maps), nil}
		x.maps[i] = "- - - - - - -"
		readsAs(t, "empty volume, no map", x.disk(60), impl.PoolBad)
		root := strings.Split(empty.texts()[taleRoot], "\n")
		root[1+i] = empty.sets[i] + " -"
		readsAs(t, "empty volume, null", rooted(empty.disk(60), 7, taleRoot, strings.Join(root, "\n")), impl.PoolBad)
	}
	// Two sets may have one block for their maps, and there may be no table.
	readsAs(t, "two sets", retold(func(x *tale) {
		x.maps[0] = x.maps[1]
		x.parts = []string{counts(13, "one", 4) + " " + counts(17, "three", 2)}
	}), impl.BookDone)
	readsAs(t, "no table", retold(func(x *tale) {
		x.maps[0], x.maps[1] = "- - - - - - - -", "- - - - - - - -"
		x.parts = nil
	}), impl.BookDone)
}

// Parts that are null, past the end of the disk, hold no table, or tell no table together, and counts that do not agree with the pointers.
func TestRiseReadOfParts(t *testing.T) {
	one, two, three := counts(13, "one", 3), counts(14, "two", 1), counts(17, "three", 1)
	for name, x := range map[string]struct {
		parts []string
		code  int
	}{
		"one part":                    {[]string{one + " " + two + " " + three}, impl.BookDone},
		"three parts":                 {[]string{one, two, three}, impl.BookDone},
		"parts without entries":       {[]string{"", one, "", "", two + " " + three, ""}, impl.BookDone},
		"eight parts":                 {[]string{"", one, "", "", two, three, "", ""}, impl.BookDone},
		"no parts":                    {nil, impl.PoolBad},
		"only parts without entries":  {[]string{"", ""}, impl.PoolBad},
		"parts turned":                {[]string{three, one + " " + two}, impl.PoolBad},
		"parts in another order":      {[]string{two, one, three}, impl.PoolBad},
		"an entry in both parts":      {[]string{one + " " + two, two + " " + three}, impl.PoolBad},
		"an entry divided":            {[]string{counts(13, "one", 1), counts(13, "one", 2) + " " + two + " " + three}, impl.PoolBad},
		"a part twice":                {[]string{one + " " + two + " " + three, one + " " + two + " " + three}, impl.PoolBad},
		"an entry less":               {[]string{one, three}, impl.PoolBad},
		"the first entry less":        {[]string{two, three}, impl.PoolBad},
		"the last entry less":         {[]string{one, two}, impl.PoolBad},
		"an entry more":               {[]string{one, two, counts(15, "two", 1), three}, impl.PoolBad},
		"an entry more behind":        {[]string{one, two, three, counts(18, "three", 1)}, impl.PoolBad},
		"a count less":                {[]string{counts(13, "one", 2), two, three}, impl.PoolBad},
		"a count more":                {[]string{counts(13, "one", 4), two, three}, impl.PoolBad},
		"another count more":          {[]string{one, counts(14, "two", 2), three}, impl.PoolBad},
		"a count of none":             {[]string{one, two, three, counts(18, "x", 0)}, impl.PoolBad},
		"another sum":                 {[]string{one, counts(14, "too", 1), three}, impl.PoolBad},
		"another sector":              {[]string{one, counts(15, "two", 1), three}, impl.PoolBad},
		"no table":                    {[]string{one, "text", two, three}, impl.PoolBad},
		"no table last":               {[]string{one, two, three, "text"}, impl.PoolBad},
		"a space more":                {[]string{one + " ", two, three}, impl.PoolBad},
		"a map":                       {[]string{one, two, three, "- - - - - - - -"}, impl.PoolBad},
		"a root":                      {[]string{one, two, three, "root"}, impl.PoolBad},
		"a part that is not in order": {[]string{two + " " + one + " " + three}, impl.PoolBad},
	} {
		readsAs(t, name, retold(func(y *tale) { y.parts = x.parts }), x.code)
	}
	d, root := smallTale().disk(60), smallTale().texts()[taleRoot]
	for name, part := range map[string]string{"null": "-", "past the end": impl.PtrText(impl.BlkTo(60, "", 5)), "far": "119.1.5", "another sum": pointsAt(33, counts(18, "three", 1)), "a number": "33"} {
		readsAs(t, name, rooted(d, 7, taleRoot, root[:strings.LastIndex(root, " ")+1]+part), impl.PoolBad)
		readsAs(t, name+", one more", rooted(d, 7, taleRoot, root+"\n. "+part), impl.PoolBad)
	}
	// The first part once more: its entries are not ascending behind the second one's.
	readsAs(t, "a part twice", rooted(d, 7, taleRoot, root+"\n. "+impl.PtrText(impl.BlkTo(32, smallTale().parts[0], 5))), impl.PoolBad)
}

// Maps and tables agree on the sums and sectors; commits in which the blocks were written do not matter.
func TestRiseReadOfPointers(t *testing.T) {
	for name, x := range map[string]struct {
		old, new string
		code     int
	}{
		"another commit":    {pointsAt(17, "three"), impl.PtrText(impl.BlkTo(17, "three", 88)), impl.BookDone},
		"another sum":       {pointsAt(17, "three"), pointsAt(17, "tree"), impl.PoolBad},
		"another sector":    {pointsAt(17, "three"), pointsAt(18, "three"), impl.PoolBad},
		"another block":     {pointsAt(17, "three"), pointsAt(14, "two"), impl.PoolBad},
		"null":              {pointsAt(17, "three"), "-", impl.PoolBad},
		"one more":          {"- -", "- " + pointsAt(13, "one"), impl.PoolBad},
		"one sum of two":    {pointsAt(13, "one"), pointsAt(13, "on"), impl.PoolBad},
		"past the last one": {pointsAt(17, "three"), "120.7.1", impl.PoolBad},
	} {
		readsAs(t, name, retold(func(y *tale) { y.maps[1] = strings.Replace(y.maps[1], x.old, x.new, 1) }), x.code)
	}
	// As many entries as there may be, and parts of all lengths.
	full := crowded(t)
	full, _ = impl.PoolCommit(full)
	if c := readsAs(t, "crowded", full.Disk, impl.BookDone); !sameCore(c, full.Core) || len(c.Parts) != 8 {
		t.Errorf("%+v", c)
	}
	// A part may have more entries than a commit writes into one.
	for n := 1; n <= 8; n++ {
		x := tale{7, map[int]string{}, []string{"v 1 -"}, []string{""}, []string{""}}
		var pointers, list []string
		for i := range 8 {
			if i >= n {
				pointers = append(pointers, "-")
				continue
			}
			x.blocks[13+i] = "text " + strconv.Itoa(i)
			pointers, list = append(pointers, pointsAt(13+i, x.blocks[13+i])), append(list, counts(13+i, x.blocks[13+i], 1))
		}
		x.maps[0], x.parts[0] = strings.Join(pointers, " "), strings.Join(list, " ")
		if c := readsAs(t, strconv.Itoa(n)+" entries in a part", x.disk(60), impl.BookDone); len(c.Ddt) != n || len(c.Parts) != 1 {
			t.Errorf("%d entries: %+v", n, c)
		}
	}
	// Blocks may be in sectors ahead of CoreFirst, as they are valid.
	x := tale{7, map[int]string{9: "nine"}, []string{"v 1 -"}, []string{impl.PtrText(impl.BlkTo(9, "nine", 3)) + " - - - - - - -"}, []string{counts(9, "nine", 1)}}
	if c := readsAs(t, "sector 9", x.disk(60), impl.BookDone); !slices.Equal(c.Safe, []int{25, 26, 32}) {
		t.Errorf("%+v", c)
	}
}

// risesTo fails unless a recovery leads to a book, and a second one to the same.
func risesTo(t *testing.T, name string, d impl.Disk, want impl.Book) impl.Pool {
	t.Helper()
	p := risesAs(t, name, d, impl.BookDone)
	if b := bookOn(t, p.Disk, p.Core); !sameBook(b, want) || !p.Up || len(p.Disk.Late) != 0 {
		t.Errorf("%s: %+v, not %+v", name, b, want)
	}
	again(t, name, p)
	return p
}

// again fails unless a store that has been recovered is what its disk tells, and is the same after another recovery, but for the commit and its root.
func again(t *testing.T, name string, p impl.Pool) {
	t.Helper()
	if c, code := impl.RiseRead(p.Disk); code != impl.BookDone || !sameCore(c, p.Core) {
		t.Errorf("%s: code %d, the disk tells %+v, not %+v", name, code, c, p.Core)
	}
	q, code := impl.RiseDo(p.Disk)
	if p.Core.Txg == impl.BlkMaxBirth {
		if code != impl.BookRoom || !samePool(q, impl.Pool{}) {
			t.Errorf("%s: another commit behind the last number: code %d, %+v", name, code, q.Core)
		}
		return
	}
	c := ownCore(q.Core)
	c.Txg, c.Safe = p.Core.Txg, p.Core.Safe
	if code != impl.BookDone || !sameCore(c, p.Core) || q.Core.Txg != p.Core.Txg+1 || !q.Up || len(q.Core.Safe) != len(p.Core.Safe) {
		t.Errorf("%s: code %d, recovered twice %+v, once %+v", name, code, q.Core, p.Core)
	}
	if !sameBook(bookOn(t, q.Disk, q.Core), bookOn(t, p.Disk, p.Core)) {
		t.Errorf("%s: a second recovery reads another book", name)
	}
}

// taleBook is the book of smallTale.
func taleBook() impl.Book {
	return bookOf(snapshot("s", "v", "one", "", "", "", "", "two"), volume("v", "", "one", "three", "", "", "", "", "", "one"))
}

// logged is a disk with records of writes from the first slot on.
func logged(d impl.Disk, txg int, ops ...impl.BookOp) impl.Disk {
	texts := map[int]string{}
	for seq, op := range ops {
		texts[5+seq] = recText(recOf(txg, seq, op))
	}
	return lay(d, texts)
}

// after is a book behind writes, each of which has to be done.
func after(t *testing.T, b impl.Book, ops ...impl.BookOp) impl.Book {
	t.Helper()
	for _, op := range ops {
		var code int
		if b, code = impl.BookDo(b, op); code != impl.BookDone {
			t.Fatalf("%q: code %d", kindOf(op), code)
		}
	}
	return b
}

// eightPuts is writes of v of all kinds.
func eightPuts() []impl.BookOp {
	return []impl.BookOp{
		puts("v", 0, "four"), puts("v", 0, "two"), puts("v", 1, ""), puts("v", 5, longestText()), puts("v", 7, "one"), puts("v", 2, ""), puts("v", 5, "five"), puts("v", 3, "three"),
	}
}

// The writes of the log are done again, up to the first slot that has no record of this commit and of its number.
func TestRiseDoesWhatWasLogged(t *testing.T) {
	for n := range 9 {
		ops := eightPuts()[:n]
		d := logged(smallTale().disk(60), 7, ops...)
		p := risesTo(t, strconv.Itoa(n)+" records", d, after(t, taleBook(), ops...))
		if p.Core.Txg != 8 || p.Core.LogN != 0 || p.Core.Dirty || len(impl.LogFind(p.Disk, 8)) != 0 {
			t.Errorf("%d records: %+v", n, p.Core)
		}
		if root, _, _ := impl.RiseBest(p.Disk); root != 8 {
			t.Error(n, root)
		}
		// The log stays as it was.
		for at := 5; at < 13; at++ {
			if p.Disk.Sides[0][at] != d.Sides[0][at] || p.Disk.Sides[1][at] != d.Sides[1][at] {
				t.Errorf("%d records: sector %d has changed", n, at)
			}
		}
	}
	all := eightPuts()
	whole := logged(smallTale().disk(60), 7, all...)
	for gap := range 8 {
		want := after(t, taleBook(), all[:gap]...)
		text := whole.Sides[0][5+gap]
		for name, other := range map[string]string{
			"nothing": "", "a text": "text", "torn": text[:len(text)/2] + recText(recOf(3, gap, puts("w", 1, "an older one")))[len(text)/2:], "torn over nothing": text[:len(text)/2],
			"an earlier commit": recText(recOf(6, gap, all[gap])), "a later commit": recText(recOf(99, gap, all[gap])),
			"the next number": recText(recOf(7, (gap+1)%8, all[gap])), "the number before": recText(recOf(7, (gap+7)%8, all[gap])), "a byte more": text + " ",
			"no write": sealedByHand("7." + strconv.Itoa(gap) + " v 8 - 7." + strconv.Itoa(gap)),
		} {
			d := ownDisk(whole)
			d.Sides[0][5+gap] = other
			risesTo(t, name+" on side 0", d, after(t, taleBook(), all...))
			d.Sides[1][5+gap] = other
			risesTo(t, name+" on both sides", d, want)
			d.Sides[0][5+gap] = text
			risesTo(t, name+" on side 1", d, after(t, taleBook(), all...))
		}
	}
	risesTo(t, "only an earlier commit's", logged(smallTale().disk(60), 6, all...), taleBook())
	risesTo(t, "only a later commit's", logged(smallTale().disk(60), 99, all...), taleBook())
	risesTo(t, "the rest of an earlier commit's", logged(logged(smallTale().disk(60), 6, all...), 7, all[:3]...), after(t, taleBook(), all[:3]...))
}

// Each kind of write, in every field of what it leads to.
func TestRiseOfWrites(t *testing.T) {
	for name, x := range map[string]struct {
		ops   []impl.BookOp
		v     [8]int
		table []impl.DdtEntry
		homes []int
		parts []int
	}{
		"nothing":                   {nil, [8]int{13, 17, 0, 0, 0, 0, 0, 13}, entries(entry(5, 13, 3), entry(6, 14, 1), entry(7, 17, 1)), []int{26, 27}, []int{32, 33}},
		"in place already":          {[]impl.BookOp{puts("v", 0, "one"), puts("v", 1, "three")}, [8]int{13, 17, 0, 0, 0, 0, 0, 13}, entries(entry(5, 13, 3), entry(6, 14, 1), entry(7, 17, 1)), []int{26, 27}, []int{32, 33}},
		"an empty block":            {[]impl.BookOp{puts("v", 2, "")}, [8]int{13, 17, 0, 0, 0, 0, 0, 13}, entries(entry(5, 13, 3), entry(6, 14, 1), entry(7, 17, 1)), []int{26, 15}, []int{32, 33}},
		"an empty text":             {[]impl.BookOp{puts("v", 0, "")}, [8]int{0, 17, 0, 0, 0, 0, 0, 13}, entries(entry(5, 13, 2), entry(6, 14, 1), entry(7, 17, 1)), []int{26, 15}, []int{16}},
		"the last pointer":          {[]impl.BookOp{puts("v", 1, "")}, [8]int{13, 0, 0, 0, 0, 0, 0, 13}, entries(entry(5, 13, 3), entry(6, 14, 1)), []int{26, 15}, []int{16}},
		"stored already":            {[]impl.BookOp{puts("v", 3, "two")}, [8]int{13, 17, 0, 14, 0, 0, 0, 13}, entries(entry(5, 13, 3), entry(6, 14, 2), entry(7, 17, 1)), []int{26, 15}, []int{16}},
		"a new text":                {[]impl.BookOp{puts("v", 3, "four")}, [8]int{13, 17, 0, 15, 0, 0, 0, 13}, entries(entry(5, 13, 3), entry(6, 14, 1), entry(8, 15, 1), entry(7, 17, 1)), []int{26, 16}, []int{18}},
		"a new text twice":          {[]impl.BookOp{puts("v", 3, "four"), puts("v", 4, "four")}, [8]int{13, 17, 0, 15, 15, 0, 0, 13}, entries(entry(5, 13, 3), entry(6, 14, 1), entry(8, 15, 2), entry(7, 17, 1)), []int{26, 16}, []int{18}},
		"two writes of one block":   {[]impl.BookOp{puts("v", 1, "four"), puts("v", 1, "five")}, [8]int{13, 16, 0, 0, 0, 0, 0, 13}, entries(entry(5, 13, 3), entry(6, 14, 1), entry(9, 16, 1)), []int{26, 15}, []int{18}},
		"and back":                  {[]impl.BookOp{puts("v", 1, "four"), puts("v", 1, "three")}, [8]int{13, 16, 0, 0, 0, 0, 0, 13}, entries(entry(5, 13, 3), entry(6, 14, 1), entry(7, 16, 1)), []int{26, 15}, []int{18}},
		"a text that nothing has":   {[]impl.BookOp{puts("v", 1, ""), puts("v", 0, "three")}, [8]int{15, 0, 0, 0, 0, 0, 0, 13}, entries(entry(5, 13, 2), entry(6, 14, 1), entry(7, 15, 1)), []int{26, 16}, []int{18}},
		"the snapshot keeps a text": {[]impl.BookOp{puts("v", 0, ""), puts("v", 7, ""), puts("v", 1, "one")}, [8]int{0, 13, 0, 0, 0, 0, 0, 0}, entries(entry(5, 13, 2), entry(6, 14, 1)), []int{26, 15}, []int{16}},
	} {
		p := risesTo(t, name, logged(smallTale().disk(60), 7, x.ops...), after(t, taleBook(), x.ops...))
		sums := map[int]string{5: "one", 6: "two", 7: "three", 8: "four", 9: "five"}
		for i, e := range x.table {
			x.table[i].Sum = impl.SumOf(sums[e.Sum])
		}
		if places(p, "v") != x.v || places(p, "s") != [8]int{13, 0, 0, 0, 0, 14} || !slices.Equal(p.Core.Ddt, x.table) {
			t.Errorf("%s: v %v, s %v, table %v", name, places(p, "v"), places(p, "s"), p.Core.Ddt)
		}
		var homes, parts []int
		for _, set := range p.Core.Sets {
			homes = append(homes, set.Home.At)
		}
		for _, part := range p.Core.Parts {
			parts = append(parts, part.At)
		}
		if !slices.Equal(homes, x.homes) || !slices.Equal(parts, x.parts) {
			t.Errorf("%s: homes %v, parts %v", name, homes, parts)
		}
	}
}

// A new pointer tells of the commit that ends the recovery; one that is in place already stays as it is.
func TestRiseOfBirths(t *testing.T) {
	p := risesAs(t, "births", logged(smallTale().disk(60), 7, puts("v", 0, "one"), puts("v", 1, "one"), puts("v", 2, "new")), impl.BookDone)
	v := p.Core.Sets[1].Map
	if v[0].Birth != 1 || v[1].Birth != 8 || v[2].Birth != 8 || v[7].Birth != 1 || p.Core.Sets[0].Home.Birth != 6 || p.Core.Sets[1].Home.Birth != 8 || p.Core.Parts[0].Birth != 8 {
		t.Errorf("%+v", p.Core)
	}
}

// A write that the book refuses ends the recovery, with what was done ahead of it.
func TestRiseRefusesWrites(t *testing.T) {
	for _, x := range []struct {
		op   impl.BookOp
		code int
	}{
		{puts("w", 0, "one"), impl.BookNone}, {puts("a", 0, ""), impl.BookNone}, {puts("vv", 0, "new"), impl.BookNone}, {puts("s", 0, "one"), impl.BookKind}, {puts("s", 7, ""), impl.BookKind},
	} {
		for n := range 8 {
			ops := append(slices.Clone(eightPuts()[:n]), x.op)
			d := logged(smallTale().disk(60), 7, append(ops, eightPuts()[n:7]...)...)
			risesAs(t, "refused write "+strconv.Itoa(n), d, x.code)
			// Behind a gap, or of another commit, it does not matter.
			risesTo(t, "behind a gap", blotted(logged(smallTale().disk(60), 7, append(slices.Clone(eightPuts()[:n]), puts("v", 0, "x"), x.op)[:min(n+2, 8)]...), 5+n, 0, 1), after(t, taleBook(), eightPuts()[:n]...))
			risesTo(t, "of another commit", lay(logged(smallTale().disk(60), 7, eightPuts()[:n]...), map[int]string{5 + n: recText(recOf(5, n, x.op))}), after(t, taleBook(), eightPuts()[:n]...))
			// What is cut then is the disk as it was.
			fate := []int{1, 1, 1, 1, 1, 1, 1, 1, 1, 1}
			if y := impl.RiseCut(d, 0, fate); !sameDisk(y, d) {
				t.Errorf("refused write %d: %s", n, otherwise(y, d))
			}
		}
	}
	// Where both apply, the write that comes first tells the code.
	d := logged(smallTale().disk(46), 7, puts("v", 0, "new"), puts("w", 0, "one"))
	risesAs(t, "no room ahead of a write that is refused", d, impl.BookRoom)
	risesAs(t, "a write that is refused ahead of no room", logged(smallTale().disk(46), 7, puts("w", 0, "one"), puts("v", 0, "new")), impl.BookNone)
	risesAs(t, "refused by the book and for room", logged(smallTale().disk(46), 7, puts("s", 0, "new")), impl.BookKind)
}

// What the chapters before say of room holds for each write and for the commit.
func TestRiseNeedsRoom(t *testing.T) {
	seen := map[int]int{}
	for n := 34; n <= 60; n++ {
		for k := range 9 {
			d := logged(smallTale().disk(n), 7, eightPuts()[:k]...)
			x := rises(t, strconv.Itoa(n)+" sectors, "+strconv.Itoa(k)+" records", d)
			seen[x.code]++
			if x.code != impl.BookDone && x.code != impl.BookRoom {
				t.Error(n, k, x.code)
			}
		}
	}
	if seen[impl.BookDone] == 0 || seen[impl.BookRoom] == 0 {
		t.Error(seen)
	}
	for n, code := range map[int]int{47: impl.BookRoom, 48: impl.BookRoom, 49: impl.BookDone, 50: impl.BookDone} {
		risesAs(t, strconv.Itoa(n)+" sectors", logged(smallTale().disk(n), 7, puts("v", 0, "four")), code)
	}
	// More sectors for the table's blocks than there are entries, and no more free ones than have to remain.
	d := smallTale().disk(60)
	risesAs(t, "no write", d, impl.BookDone)
	// A new store of 14 sectors has room for no other commit, one of 15 for one in turn.
	risesAs(t, "14 sectors", impl.PoolOpen(14).Disk, impl.BookRoom)
	risesTo(t, "15 sectors", impl.PoolOpen(15).Disk, impl.Book{})
	// A volume of 16 sectors is recovered, but not a write of an empty block, which takes one more block of the commit.
	p := called(t, impl.PoolOpen(16), makes("v"))
	risesTo(t, "16 sectors", p.Disk, bookOf(volume("v", "")))
	risesAs(t, "16 sectors, a write", called(t, p, puts("v", 0, "")).Disk, impl.BookRoom)
	risesTo(t, "17 sectors, a write", called(t, impl.PoolOpen(17), makes("v"), puts("v", 0, "")).Disk, bookOf(volume("v", "")))
}

// Late writes are read, and count against those that a recovery takes; a recovery flushes them.
func TestRiseWithLateWrites(t *testing.T) {
	seen := map[int]int{}
	for k := 570; k <= 600; k++ {
		for _, n := range []int{0, 1, 4} {
			d := logged(smallTale().disk(60), 7, eightPuts()[:n]...)
			d.Late = lates(k)
			x := rises(t, strconv.Itoa(k)+" late writes, "+strconv.Itoa(n)+" records", d)
			seen[x.code]++
		}
	}
	if seen[impl.BookDone] == 0 || seen[impl.BookRoom] == 0 || len(seen) != 2 {
		t.Error(seen)
	}
	// The whole store is late.
	d := logged(smallTale().disk(60), 7, eightPuts()...)
	l := wideDisk(60)
	for at := range d.Sides[0] {
		l.Late = append(l.Late, late(at%2, at, d.Sides[0][at]))
	}
	p := risesTo(t, "all late", l, after(t, taleBook(), eightPuts()...))
	if text := p.Disk.Sides[1][13]; text != "one" {
		t.Error(text)
	}
	// A store that is up is recovered as it would be, were all flushed.
	q := called(t, impl.PoolOpen(60), makes("v"), puts("v", 0, "x"), puts("v", 1, "y"))
	risesTo(t, "up", q.Disk, bookOf(volume("v", "", "x", "y")))
	if a, b := risesAs(t, "up", q.Disk, impl.BookDone), risesAs(t, "synchronized", impl.PoolSync(q).Disk, impl.BookDone); !samePool(a, b) {
		t.Error("late writes make a difference")
	}
}

// The last commit number is taken by a recovery, and there is none behind it.
func TestRiseOfTheLastCommits(t *testing.T) {
	last := impl.BlkMaxBirth
	for _, x := range []struct {
		txg  int
		ops  []impl.BookOp
		code int
	}{
		{last - 2, nil, impl.BookDone}, {last - 1, nil, impl.BookDone}, {last, nil, impl.BookRoom}, {last - 1, eightPuts(), impl.BookDone}, {last, eightPuts(), impl.BookRoom},
		{last, []impl.BookOp{puts("v", 0, "")}, impl.BookRoom}, {last, []impl.BookOp{puts("v", 0, "one")}, impl.BookRoom}, {last, []impl.BookOp{puts("v", 0, ""), puts("w", 0, "")}, impl.BookNone},
		{last, []impl.BookOp{puts("v", 0, "one"), puts("w", 0, "")}, impl.BookRoom}, {last - 1, []impl.BookOp{puts("v", 0, "new"), puts("w", 0, "")}, impl.BookNone},
	} {
		y := smallTale()
		y.txg = x.txg
		name := "commit " + strconv.Itoa(x.txg)
		d := logged(y.disk(60), x.txg, x.ops...)
		if x.code != impl.BookDone {
			risesAs(t, name, d, x.code)
			continue
		}
		if p := risesTo(t, name, d, after(t, taleBook(), x.ops...)); p.Core.Txg != x.txg+1 {
			t.Error(name, p.Core)
		}
	}
}

// Where blocks are damaged, texts of the log are stored anew, and the rest is recovered as it is.
func TestRiseOfDamagedBlocks(t *testing.T) {
	d := logged(smallTale().disk(60), 7, puts("v", 2, "two"), puts("v", 3, "three"))
	p := risesTo(t, "side 0", blotted(blotted(d, 14, 0), 17, 0), after(t, taleBook(), puts("v", 2, "two"), puts("v", 3, "three")))
	if places(p, "v") != [8]int{13, 17, 14, 17, 0, 0, 0, 13} {
		t.Error(places(p, "v"))
	}
	p = risesAs(t, "both sides", blotted(d, 14, 0, 1), impl.BookDone)
	if places(p, "v") != [8]int{13, 17, 15, 17, 0, 0, 0, 13} || places(p, "s")[5] != 14 {
		t.Error(places(p, "v"))
	}
	if text, code := impl.PoolGet(p, "s", 5); text != "" || code != impl.PoolBad {
		t.Error(text, code)
	}
	if text, code := impl.PoolGet(p, "v", 2); text != "two" || code != impl.BookDone {
		t.Error(text, code)
	}
}

// A disk that tells nothing, or that has no sectors for blocks.
func TestRiseRefusesDisks(t *testing.T) {
	for name, d := range goodDisks() {
		risesAs(t, name, d, impl.BookNone)
	}
	bad := badDisks()
	whole := logged(smallTale().disk(60), 7, eightPuts()...)
	for name, change := range map[string]func(d *impl.Disk){
		"a sector less on side 1": func(d *impl.Disk) { d.Sides[1] = d.Sides[1][:59] }, "a sector less on side 0": func(d *impl.Disk) { d.Sides[0] = d.Sides[0][:59] },
		"too long a text": func(d *impl.Disk) { d.Sides[1][50] = strings.Repeat("o", 421) }, "too many late writes": func(d *impl.Disk) { d.Late = lates(601) }, "a late write past the end": func(d *impl.Disk) { d.Late = []impl.DiskLate{late(0, 60, "")} },
		"too many sectors": func(d *impl.Disk) {
			d.Sides[0], d.Sides[1] = append(d.Sides[0], make([]string, 61)...), append(d.Sides[1], make([]string, 61)...)
		},
	} {
		d := ownDisk(whole)
		change(&d)
		bad["a store, "+name] = d
	}
	for name, d := range bad {
		risesAs(t, name, d, impl.BookNone)
		n, p, ok := impl.RiseBest(d)
		c, code := impl.RiseRead(d)
		if n != 0 || p != (impl.Ptr{}) || ok || !sameCore(c, impl.Core{}) || code != impl.BookNone {
			t.Errorf("%s: %d %v %v, %+v, %d", name, n, p, ok, c, code)
		}
		if x := impl.RiseCut(d, 0, []int{1}); !sameDisk(x, impl.Disk{}) {
			t.Errorf("%s: %v", name, x)
		}
	}
	// All of a store may be in the sectors ahead of CoreFirst, but no other commit.
	for n := 3; n <= 16; n++ {
		d := lay(wideDisk(n), map[int]string{n - 1: "root", 1: ringText(4, impl.BlkTo(n-1, "root", 4))})
		code := impl.BookForm
		if n == 14 {
			code = impl.BookRoom
		} else if n > 14 {
			code = impl.BookDone
		}
		readsAs(t, strconv.Itoa(n)+" sectors", d, impl.BookDone)
		risesAs(t, strconv.Itoa(n)+" sectors", d, code)
		if n < 14 {
			d.Late = []impl.DiskLate{late(0, 0, "late"), late(1, 0, "later")}
			if x := impl.RiseCut(d, 1, []int{1, 1}); !sameDisk(x, impl.Disk{}) {
				t.Errorf("%d sectors: %v", n, x)
			}
		}
	}
	// With a record, PoolCall tells the code, and the recovery ends ahead of its commit.
	x := tale{4, map[int]string{}, []string{"v 1 -"}, []string{"- - - - - - - -"}, nil}
	for _, op := range []impl.BookOp{puts("v", 0, ""), puts("v", 0, "one"), puts("w", 0, "one")} {
		home := impl.PtrText(impl.BlkTo(2, x.maps[0], 4))
		d := rooted(lay(wideDisk(13), map[int]string{2: x.maps[0]}), 4, 12, "root\nv 1 - "+home)
		d.Late = []impl.DiskLate{late(0, 0, "late")}
		risesAs(t, "13 sectors, no record", d, impl.BookForm)
		if y := impl.RiseCut(d, 0, []int{1}); !sameDisk(y, impl.Disk{}) {
			t.Errorf("%v", y)
		}
		d = logged(d, 4, op)
		risesAs(t, "13 sectors, a record", d, impl.BookForm)
		if y := impl.RiseCut(d, 0, []int{1}); y.Sides[0][0] != "late" || len(y.Late) != 0 || y.Sides[0][5] != d.Sides[0][5] {
			t.Errorf("%v", y)
		}
	}
}

// What is on the disk ahead of each flush of a recovery, to the letter.
func TestRiseCut(t *testing.T) {
	d := logged(smallTale().disk(60), 7, puts("v", 1, "four"), puts("v", 2, "one"))
	d.Late = []impl.DiskLate{late(1, 40, "late")}
	done, _ := impl.RiseDo(d)
	writes := [][2]int{{1, 40}, {0, 15}, {1, 15}, {0, 16}, {1, 16}, {0, 18}, {1, 18}, {0, 19}, {1, 19}}
	for stage, ahead := range [][][2]int{writes, {{0, 1}, {1, 1}}} {
		start := impl.RiseCut(d, stage, nil)
		want := ownDisk(done.Disk)
		if want.Sides[0][1], want.Sides[1][1] = d.Sides[0][1], d.Sides[1][1]; stage == 0 {
			want = impl.DiskFall(d, nil)
		}
		if !sameDisk(start, want) {
			t.Errorf("stage %d: %s", stage, otherwise(start, want))
		}
		for i, w := range append(ahead, [2]int{0, 0}) {
			want := ownDisk(start)
			want.Sides[w[0]][w[1]] = done.Disk.Sides[w[0]][w[1]]
			fate := make([]int, i+3)
			fate[i] = impl.DiskKept
			if x := impl.RiseCut(d, stage, fate); !sameDisk(x, want) {
				t.Errorf("stage %d, only write %d kept: %s", stage, i, otherwise(x, want))
			}
		}
	}
	for stage, same := range map[int]int{math.MinInt: 0, -7: 0, -1: 0, 2: 1, 3: 1, 256: 1, math.MaxInt: 1} {
		for name, fate := range fates(9) {
			if x, y := impl.RiseCut(d, stage, fate), impl.RiseCut(d, same, fate); !sameDisk(x, y) {
				t.Errorf("stage %d is not stage %d, fate %s", stage, same, name)
			}
		}
	}
}

// A recovery is cut where it is in each stage, whatever becomes of each late write, and a disk that can't be recovered is as a power failure leaves it.
func TestRiseCutOfDisks(t *testing.T) {
	d := logged(smallTale().disk(60), 7, puts("v", 1, "four"), puts("v", 2, "one"))
	up := called(t, impl.PoolOpen(60), makes("v"), puts("v", 0, "x"))
	small := called(t, impl.PoolOpen(16), makes("v"), puts("v", 0, ""))
	few := lay(wideDisk(13, late(0, 0, "late")), map[int]string{1: ringText(4, impl.BlkTo(12, "root", 4)), 12: "root"})
	for name, x := range map[string]struct {
		d    impl.Disk
		code int
	}{
		"two writes":              {d, impl.BookDone},
		"eight writes":            {logged(smallTale().disk(60), 7, eightPuts()...), impl.BookDone},
		"no write":                {smallTale().disk(60), impl.BookDone},
		"a new store":             {impl.PoolOpen(60).Disk, impl.BookDone},
		"late writes":             {up.Disk, impl.BookDone},
		"no commit":               {wideDisk(60, late(0, 3, "late"), late(1, 20, "later")), impl.BookNone},
		"no root":                 {blotted(d, taleRoot, 0, 1), impl.PoolBad},
		"a write that is refused": {logged(d, 7, puts("v", 0, "four"), puts("w", 0, "x")), impl.BookNone},
		"no room for a block":     {logged(smallTale().disk(47), 7, puts("v", 0, ""), puts("v", 0, "four")), impl.BookRoom},
		"no room for a commit":    {small.Disk, impl.BookRoom},
		"the last number":         {rooted(d, impl.BlkMaxBirth, taleRoot, d.Sides[0][taleRoot]), impl.BookRoom},
		"too few sectors":         {few, impl.BookForm},
		"most late writes":        {wideDisk(60, lates(600)...), impl.BookNone},
		"not valid":               {impl.Disk{}, impl.BookNone},
	} {
		risesAs(t, name, x.d, x.code)
		cutsFully(t, name, riseByHand(t, x.d).ahead, riseCutOf(x.d))
		fate := []int{1, 0, 1, 2}
		if y := impl.RiseCut(x.d, 1, fate); x.code == impl.BookNone || x.code == impl.PoolBad {
			if !sameDisk(y, impl.DiskFall(x.d, fate)) {
				t.Errorf("%s: %s", name, otherwise(y, x.d))
			}
		}
	}
	// A recovery whose commit fails leaves what has been written ahead of the write that fails: the block, the map, the part.
	d = logged(smallTale().disk(60), 7, puts("v", 1, "four"))
	for _, k := range []int{594, 595, 596, 597, 598} {
		l := ownDisk(d)
		l.Late = lates(k)
		risesAs(t, strconv.Itoa(k)+" late writes", l, impl.BookRoom)
		x := impl.RiseCut(l, 1, append(make([]int, k), 1, 1, 1, 1, 1, 1))
		var written []int
		for at := range d.Sides[0] {
			if x.Sides[0][at] != d.Sides[0][at] && x.Sides[0][at] == x.Sides[1][at] {
				written = append(written, at)
			}
		}
		if !slices.Equal(written, []int{15, 16, 18}[:(600-k)/2]) {
			t.Errorf("%d late writes: %v is written", k, written)
		}
	}
}

// cutByHand is the disk of a store ahead of each flush of an operation, or where it stops.
func cutByHand(p impl.Pool, op impl.BookOp) [2]impl.Disk {
	x, code := callByHand(p, op)
	switch {
	case !goodPool(p):
		return [2]impl.Disk{}
	case !p.Up || code != impl.BookDone:
		return [2]impl.Disk{p.Disk, p.Disk}
	case op.Kind != impl.BookPuts:
		return commitByHand(p.Disk, turnedByHand(p.Core, op)).ahead
	case p.Core.LogN == 8:
		return commitByHand(p.Disk, p.Core).ahead
	}
	return [2]impl.Disk{x.Disk, x.Disk}
}

// cuts fails unless PoolCut returns what the document says.
func cuts(t *testing.T, name string, p impl.Pool, op impl.BookOp) {
	t.Helper()
	old := ownPool(p)
	name += ", " + strconv.Quote(kindOf(op))
	cutsBriefly(t, name, cutByHand(p, op), poolCutOf(t, name, p, op))
	if !samePool(p, old) {
		t.Errorf("%s: the store has changed", name)
	}
}

// poolCutOf is the disk that PoolCut of a store returns; it fails unless the rest of the store is the zero value.
func poolCutOf(t *testing.T, name string, p impl.Pool, op impl.BookOp) func(stage int, fate []int) impl.Disk {
	return func(stage int, fate []int) impl.Disk {
		t.Helper()
		x := impl.PoolCut(p, op, stage, fate)
		if x.Up || !sameCore(x.Core, impl.Core{}) {
			t.Errorf("%s: %v %+v", name, x.Up, x.Core)
		}
		return x.Disk
	}
}

func TestPoolCutOfStates(t *testing.T) {
	for name, c := range logCores() {
		p := smallPool()
		p.Core = c
		for _, op := range ownOps() {
			cuts(t, name, p, op)
			if c.LogN == 3 {
				cuts(t, name+", not up", down(p), op)
			}
		}
	}
	for name, p := range everyPool(t) {
		for _, op := range []impl.BookOp{makes("y"), kills("c"), kills("v"), puts("v", 0, "x"), puts("v", 0, "new"), puts("v", 7, ""), puts("w", 0, "past"), snaps("v", "y"), clones("s", "y"), goes("v", "s"), {}, puts("v", 8, "x"), makes("V"), kills("n")} {
			cuts(t, name, p, op)
			if len(p.Disk.Late) < 20 {
				cutsFully(t, name, cutByHand(p, op), poolCutOf(t, name, p, op))
			}
		}
	}
}

// Each code with which an operation is refused leaves what a power failure leaves of the store.
func TestPoolCutOfRefusals(t *testing.T) {
	p := bookPool(fullBook())
	p.Core.LogN, p.Core.Safe = 3, []int{13, 15, 60}
	p.Disk.Late = []impl.DiskLate{late(1, 7, "late"), late(0, 8, "later")}
	for _, x := range refusals() {
		cuts(t, "refused", p, x.op)
		for _, fate := range [][]int{nil, {1}, {0, 1}, {2, 2, 2}} {
			if y := impl.PoolCut(p, x.op, 1, fate); !samePool(y, impl.PoolFall(p, fate)) {
				t.Errorf("%.99q, fate %v", kindOf(x.op), fate)
			}
		}
	}
	q, r, s := ownPool(p), ownPool(p), ownPool(p)
	q.Core.Safe, r.Core.Txg, s.Disk.Late = upTo(13, 120), impl.BlkMaxBirth, lates(600)
	for _, x := range append(newSetCases(), changeCases()...) {
		cuts(t, x.name, bookPool(x.b), x.op)
		cuts(t, x.name+", not up", down(bookPool(x.b)), x.op)
		for name, room := range map[string]impl.Pool{"no free sector": q, "the last commit number": r, "no late write": s} {
			y := bookPool(x.b)
			y.Core.Safe, y.Core.Txg, y.Disk.Late = room.Core.Safe, room.Core.Txg, room.Disk.Late
			cuts(t, x.name+", "+name, y, x.op)
		}
	}
}

// A write is cut behind its record, or, if the log is full, in the commit ahead of it.
func TestPoolCutOfWrites(t *testing.T) {
	p, ops := fullLog(t, 60)
	for name, op := range map[string]impl.BookOp{"a new text": puts("v", 1, "x"), "its own text": ops[7], "no text": puts("v", 0, ""), "an empty block": puts("v", 4, "")} {
		cuts(t, "full log, "+name, p, op)
		// The commit has room, and the write behind it has none: nothing is written.
		last := ownPool(p)
		last.Core.Txg = impl.BlkMaxBirth - 1
		cuts(t, "full log, last but one, "+name, last, op)
		if x := impl.PoolCut(last, op, 1, nil); op.Text != "" != samePool(x, impl.PoolFall(p, nil)) {
			t.Errorf("full log, last but one, %s", name)
		}
		none := ownPool(p)
		none.Core.Safe = upTo(13, 120)
		cuts(t, "full log, no free sector, "+name, none, op)
		if x := impl.PoolCut(none, op, 0, []int{1, 1}); !samePool(x, impl.PoolFall(p, []int{1, 1})) {
			t.Errorf("full log, no free sector, %s", name)
		}
		most := ownPool(p)
		most.Disk.Late = lates(600)
		cuts(t, "full log, no late write, "+name, most, op)
	}
	for n := range 8 {
		q := called(t, impl.PoolOpen(60), append([]impl.BookOp{makes("v")}, ops[:n]...)...)
		for _, op := range []impl.BookOp{puts("v", 1, "x"), puts("v", 0, ""), puts("v", 5, "text 0")} {
			cuts(t, strconv.Itoa(n)+" records", q, op)
			done := called(t, q, op)
			if x, y := impl.PoolCut(q, op, 0, slices.Repeat([]int{1}, 99)), impl.PoolFall(impl.PoolSync(done), nil); !samePool(x, y) {
				t.Errorf("%d records, %q: all kept: %s", n, kindOf(op), otherwise(x.Disk, y.Disk))
			}
			if x := impl.PoolCut(q, op, 1, nil); !samePool(x, impl.PoolFall(q, nil)) {
				t.Errorf("%d records, %q: none kept", n, kindOf(op))
			}
		}
	}
	// A B that a write does not use is none in its record.
	withB := puts("v", 1, "x")
	withB.B = "no set"
	q := called(t, impl.PoolOpen(60), makes("v"))
	if x, y := impl.PoolCut(q, withB, 0, []int{1, 1, 1, 1}), impl.PoolCut(q, puts("v", 1, "x"), 0, []int{1, 1, 1, 1}); !samePool(x, y) || len(impl.LogFind(x.Disk, 2)) != 1 {
		t.Error("a write with a B")
	}
}

func TestPoolCutOfWhatIsNotValid(t *testing.T) {
	for name, p := range badPools() {
		for _, op := range []impl.BookOp{{}, makes("y"), kills("v"), puts("v", 0, "a"), snaps("v", "y"), clones("s", "y"), goes("v", "s")} {
			for _, stage := range []int{-1, 0, 1} {
				if x := impl.PoolCut(p, op, stage, []int{1, 2, 1}); !samePool(x, impl.Pool{}) {
					t.Errorf("%s, %q: %+v", name, kindOf(op), x)
				}
			}
		}
	}
}

// rose is the store that a disk is recovered to, and which of these books it has; it fails if it has none of them.
func rose(t *testing.T, name string, d impl.Disk, books ...impl.Book) (impl.Pool, int) {
	t.Helper()
	p, code := impl.RiseDo(d)
	if code != impl.BookDone || !p.Up || len(p.Disk.Late) != 0 {
		t.Fatalf("%s: code %d", name, code)
	}
	b := bookOn(t, p.Disk, p.Core)
	i := slices.IndexFunc(books, func(x impl.Book) bool { return sameBook(b, x) })
	if i < 0 {
		t.Fatalf("%s: recovered %+v, which is none of %+v", name, b, books)
	}
	return p, i
}

// eachCut fails unless a power failure in which any of n late writes are performed, torn and lost leads to one of these books, and to each of them for some fate.
func eachCut(t *testing.T, name string, n int, cut func(fate []int) impl.Disk, books ...impl.Book) {
	t.Helper()
	seen := make([]int, len(books))
	eachFate(n, func(fate []int) {
		p, i := rose(t, name, cut(fate), books...)
		if seen[i]++; seen[i] == 1 {
			again(t, name, p)
		}
	})
	if slices.Contains(seen, 0) {
		t.Errorf("%s: the books come up %v times", name, seen)
	}
}

// agedPool is a store whose ring has a record in each slot and whose log has one of an earlier commit.
func agedPool(t *testing.T) (impl.Pool, impl.Book) {
	t.Helper()
	ops := []impl.BookOp{makes("v"), puts("v", 0, "old"), puts("v", 1, "older"), makes("w"), kills("w"), makes("w"), snaps("v", "s"), puts("v", 0, "one"), makes("x")}
	p := called(t, impl.PoolOpen(60), ops...)
	if p.Core.Txg != 7 || len(p.Disk.Late) != 0 {
		t.Fatalf("%+v", p.Core)
	}
	return p, after(t, impl.Book{}, ops...)
}

// prefixes is the books of a book and of each prefix of writes.
func prefixes(t *testing.T, b impl.Book, ops ...impl.BookOp) []impl.Book {
	t.Helper()
	books := []impl.Book{b}
	for _, op := range ops {
		b = after(t, b, op)
		books = append(books, b)
	}
	return books
}

// Promise 16: whichever late writes are performed, torn or not, what is recovered is the last commit and a prefix of the writes since, with all of those up to the last synchronization.
func TestRiseAfterEachPowerFailure(t *testing.T) {
	p, b := agedPool(t)
	fall := func(p impl.Pool) func(fate []int) impl.Disk {
		return func(fate []int) impl.Disk { return impl.PoolFall(p, fate).Disk }
	}
	eachCut(t, "nothing late", 0, fall(p), b)
	ops := []impl.BookOp{puts("v", 3, "new"), puts("v", 0, "older"), puts("w", 7, "new"), puts("v", 3, "")}
	eachCut(t, "one write", 4, fall(called(t, p, ops[0])), prefixes(t, b, ops[:1]...)...)
	eachCut(t, "two writes", 6, fall(called(t, p, ops[:2]...)), prefixes(t, b, ops[:2]...)...)
	eachCut(t, "three writes of stored texts", 6, fall(called(t, p, ops[1], puts("w", 0, "old"), puts("v", 0, "old"))), prefixes(t, b, ops[1], puts("w", 0, "old"), puts("v", 0, "old"))...)
	eachCut(t, "two new texts", 8, fall(called(t, p, puts("v", 0, "a"), puts("v", 0, "b"))), prefixes(t, b, puts("v", 0, "a"), puts("v", 0, "b"))...)
	for n := range ops {
		q := called(t, impl.PoolSync(called(t, p, ops[:n]...)), ops[n:min(n+2, len(ops))]...)
		eachCut(t, strconv.Itoa(n)+" writes synchronized", len(q.Disk.Late), fall(q), prefixes(t, after(t, b, ops[:n]...), ops[n:min(n+2, len(ops))]...)...)
	}
	eachCut(t, "all synchronized", 0, fall(impl.PoolSync(called(t, p, ops...))), after(t, b, ops...))
}

// Promise 16: an interrupted operation took effect or did not, in each stage and with each fate of its writes.
func TestRiseAfterEachInterruption(t *testing.T) {
	p, b := agedPool(t)
	cut := func(p impl.Pool, op impl.BookOp, stage int) func(fate []int) impl.Disk {
		return func(fate []int) impl.Disk { return impl.PoolCut(p, op, stage, fate).Disk }
	}
	write := puts("w", 0, "new")
	for _, op := range []impl.BookOp{makes("y"), kills("s"), kills("x"), snaps("v", "y"), clones("s", "y"), goes("v", "s")} {
		name := kindOf(op)
		done := after(t, b, op)
		// Ahead of the first flush, the ring tells of the last commit, whatever is kept.
		late := len(cutByHand(p, op)[0].Late)
		eachCut(t, name+", stage 0", min(late, 6), cut(p, op, 0), b)
		eachCut(t, name+", stage 1", 2, cut(p, op, 1), b, done)
		// With a write since the last commit, which is recovered if the operation did not take effect, or if it did.
		q := called(t, impl.PoolSync(called(t, p, write)), puts("v", 1, "old"))
		eachCut(t, name+", stage 0, writes", 4, cut(q, op, 0), prefixes(t, after(t, b, write), puts("v", 1, "old"))[:2]...)
		eachCut(t, name+", stage 1, writes", 2, cut(q, op, 1), after(t, b, write, puts("v", 1, "old")), after(t, b, write, puts("v", 1, "old"), op))
	}
	eachCut(t, "write", 4, cut(p, write, 0), b, after(t, b, write))
	eachCut(t, "write, stage 1", 4, cut(p, write, 1), b, after(t, b, write))
	eachCut(t, "refused", 2, cut(p, makes("v"), 1), b)
	eachCut(t, "refused, not up", 2, cut(down(p), write, 1), b)
	var ops []impl.BookOp
	for i := range 8 {
		ops = append(ops, puts("w", i, []string{"old", "older", ""}[i%3]))
	}
	// Where the log is full, the write is not reached.
	full := called(t, p, ops...)
	eachCut(t, "full log", 6, cut(full, write, 0), prefixes(t, b, ops...)[:3]...)
	eachCut(t, "full log, stage 1", 2, cut(full, write, 1), after(t, b, ops...))
	eachCut(t, "full log, synchronized", 4, cut(impl.PoolSync(full), write, 0), after(t, b, ops...))
}

// Promise 16: recoveries are interrupted in each stage and with each fate, and again: what is recovered is the same.
func TestRiseAfterEachInterruptedRecovery(t *testing.T) {
	p, b := agedPool(t)
	ops := []impl.BookOp{puts("v", 3, "older"), puts("w", 0, "one")}
	for n := range 3 {
		d := impl.PoolFall(impl.PoolSync(called(t, p, ops[:n]...)), nil).Disk
		want := after(t, b, ops[:n]...)
		name := strconv.Itoa(n) + " writes"
		cut := func(d impl.Disk, stage int) func(fate []int) impl.Disk {
			return func(fate []int) impl.Disk { return impl.RiseCut(d, stage, fate) }
		}
		eachCut(t, name+", stage 0", 6, cut(d, 0), want)
		rings := map[int]int{}
		eachFate(2, func(first []int) {
			x := impl.RiseCut(d, 1, first)
			eachFate(2, func(second []int) {
				y := impl.RiseCut(x, 1, second)
				eachCut(t, name+", stages 1, 1, 0", 2, cut(y, 0), want)
				eachCut(t, name+", stages 1, 1, 1", 2, cut(y, 1), want)
				txg, _, _ := impl.RiseBest(y)
				rings[txg]++
			})
		})
		// One side at least tells of the new commit, in one failure of two, in both, or in none.
		if len(rings) != 3 || rings[7] == 0 || rings[8] == 0 || rings[9] == 0 {
			t.Errorf("%s: commits %v", name, rings)
		}
	}
}

// riseHistory is a poolHistory whose power failures are followed by recoveries, with how often what came up.
type riseHistory struct {
	*poolHistory
	came map[string]int
}

// maybe is the books of the last commit with each prefix of the writes since that has all that are synchronized.
func (h *riseHistory) maybe(t *testing.T) []impl.Book {
	t.Helper()
	return prefixes(t, h.base, h.since...)[h.sure:]
}

// mixedFate is a fate of late writes, in which all are kept or lost at times.
func mixedFate(r *rand.Rand) []int {
	n := r.IntN(70)
	switch r.IntN(5) {
	case 0:
		return slices.Repeat([]int{impl.DiskKept}, n)
	case 1:
		return slices.Repeat([]int{impl.DiskTorn}, n)
	case 2:
		return nil
	}
	return someFate(r, n)
}

// interrupt lets power fail, perhaps during an operation or a commit: the disk, and the books that may be recovered.
func (h *riseHistory) interrupt(t *testing.T, r *rand.Rand) (impl.Disk, []impl.Book) {
	t.Helper()
	stage, fate, books := r.IntN(4)-1, mixedFate(r), h.maybe(t)
	switch r.IntN(5) {
	case 0:
		h.came["fall"]++
		return impl.PoolFall(h.p, fate).Disk, books
	case 1:
		h.came["commit cut"]++
		return impl.CommitCut(h.p.Disk, h.p.Core, stage, fate), books
	}
	op := h.someOp(r)
	x, code := impl.BookDo(h.book, op)
	if callCode(h.p, op) == impl.BookDone && (op.Kind != impl.BookPuts || len(h.since) < impl.CoreLogs) {
		if code != impl.BookDone {
			t.Fatalf("%q: code %d", kindOf(op), code)
		}
		books = append(books, x)
	}
	h.came["cut "+strconv.Itoa(op.Kind)]++
	return impl.PoolCut(h.p, op, stage, fate).Disk, books
}

// fall lets power fail and recovers the store, with power failing again meanwhile.
func (h *riseHistory) fall(t *testing.T, r *rand.Rand) {
	t.Helper()
	last := len(h.since) - h.sure
	d, books := h.interrupt(t, r)
	rises(t, "history", d)
	p, i := rose(t, "history", d, books...)
	switch {
	case i > last:
		h.came["took effect"]++
	case i == last && len(books) > last+1:
		h.came["did not take effect"]++
	case i < last:
		h.came["lost"]++
	}
	if i > 0 && i < last {
		h.came["lost in part"]++
	}
	h.book = books[i]
	for range r.IntN(4) {
		before, _, _ := impl.RiseBest(d)
		stage := r.IntN(4) - 1
		d = impl.RiseCut(d, stage, mixedFate(r))
		behind, _, _ := impl.RiseBest(d)
		h.came["recovery cut, "+strconv.Itoa(behind-before)+" commits"]++
		p, _ = rose(t, "history, recovery cut", d, h.book)
	}
	again(t, "history", p)
	h.p, h.base, h.since, h.sure = p, h.book, nil, 0
}

// Promises 15 and 16, for whole histories of operations, synchronizations, commits and power failures.
func TestRiseHistories(t *testing.T) {
	r := rand.New(rand.NewPCG(11, 16))
	came := map[string]int{}
	for _, n := range []int{46, 52, 60, 80, 120} {
		for range 5 {
			h := &riseHistory{newPoolHistory(t, n), came}
			for range 250 {
				switch k := r.IntN(30); k {
				case 0, 1, 2, 3:
					h.fall(t, r)
				case 4:
					h.commit(t)
				case 5, 6, 7:
					h.p, h.sure = impl.PoolSync(h.p), len(h.since)
				default:
					h.call(t, h.someOp(r))
				}
				h.check(t)
			}
		}
	}
	for _, what := range []string{
		"fall", "commit cut", "cut 1", "cut 2", "cut 3", "cut 4", "cut 5", "cut 6", "took effect", "did not take effect", "lost", "lost in part", "recovery cut, 0 commits", "recovery cut, 1 commits",
	} {
		if came[what] < 5 {
			t.Errorf("%s comes up %d times", what, came[what])
		}
	}
}

// Promise 16, where nothing but power failures happens for long: nothing is lost, and there is room for each recovery.
func TestRiseAgainAndAgain(t *testing.T) {
	r := rand.New(rand.NewPCG(11, 17))
	p := crowded(t)
	b := bookOn(t, p.Disk, p.Core)
	d := impl.PoolFall(impl.PoolSync(p), nil).Disk
	for i := range 300 {
		if r.IntN(3) == 0 {
			q, _ := rose(t, "again", d, b)
			d = q.Disk
			continue
		}
		d = impl.RiseCut(d, r.IntN(2), mixedFate(r))
		if i%10 == 0 {
			q, _ := rose(t, "cut again", d, b)
			again(t, "cut again", q)
		}
	}
	txg, _, _ := impl.RiseBest(d)
	if txg < 50 || !sameBook(bookOn(t, p.Disk, p.Core), b) {
		t.Error(txg)
	}
}

// Promise 15: what is recovered is what was committed, where nothing was logged since, and so it is after each operation.
func TestRiseReadsTheLastCommit(t *testing.T) {
	r := rand.New(rand.NewPCG(11, 15))
	h := newPoolHistory(t, 70)
	for range 400 {
		h.call(t, h.someOp(r))
		c, code := impl.RiseRead(h.p.Disk)
		if code != impl.BookDone || c.Txg != h.p.Core.Txg || c.LogN != 0 || c.Dirty || !slices.Equal(c.Safe, h.p.Core.Safe) || !sameBook(bookOn(t, h.p.Disk, c), h.base) {
			t.Fatalf("code %d, %+v, in memory %+v", code, c, h.p.Core)
		}
		q, code := impl.PoolCommit(h.p)
		if x, y := impl.RiseRead(q.Disk); code != impl.BookDone || y != impl.BookDone || !sameCore(x, q.Core) {
			t.Fatalf("codes %d and %d, %+v, in memory %+v", code, y, x, q.Core)
		}
		// All that is late is read, so that a recovery reads what the store reads, and so does a second one.
		p, _ := rose(t, "last commit", h.p.Disk, h.book)
		again(t, "last commit", p)
	}
}

// roomyTale is a disk that tells a tale, with unused capacity behind each list that is in use elsewhere, and the whole of it.
func roomyTale(x tale, k int, ops ...impl.BookOp) (d impl.Disk, whole impl.Disk) {
	whole = logged(x.disk(62), x.txg, ops...)
	whole.Late = lates(k + 2)
	return diskOf(whole.Sides[0][:60], whole.Sides[1][:60], whole.Late[:k]...), whole
}

// taleTurns is each function that makes something of a disk, as a store.
func taleTurns() map[string]func(d impl.Disk) impl.Pool {
	cut := func(stage int) func(d impl.Disk) impl.Pool {
		return func(d impl.Disk) impl.Pool {
			fate := []int{impl.DiskTorn, impl.DiskKept, 77}
			x := impl.RiseCut(d, stage, fate[:2])
			if !slices.Equal(fate, []int{impl.DiskTorn, impl.DiskKept, 77}) {
				return impl.Pool{}
			}
			return impl.Pool{Disk: x}
		}
	}
	return map[string]func(d impl.Disk) impl.Pool{
		"best": func(d impl.Disk) impl.Pool { impl.RiseBest(d); return impl.Pool{} },
		"read": func(d impl.Disk) impl.Pool { c, _ := impl.RiseRead(d); return impl.Pool{Core: c} },
		"do":   func(d impl.Disk) impl.Pool { p, _ := impl.RiseDo(d); return p },
		"cut":  cut(0), "cut in stage 1": cut(1),
	}
}

// A recovery leaves its disk and what is behind it, and what it returns has memory of its own, also where it stops.
func TestRisesShareNoMemory(t *testing.T) {
	last, none := smallTale(), smallTale()
	last.txg, none.maps[0] = impl.BlkMaxBirth, "no map"
	for name, turn := range taleTurns() {
		for which, x := range map[string]struct {
			tale tale
			k    int
			ops  []impl.BookOp
			code int
		}{
			"done": {smallTale(), 3, eightPuts(), impl.BookDone}, "nothing late": {smallTale(), 0, eightPuts()[:1], impl.BookDone}, "no writes": {smallTale(), 3, nil, impl.BookDone},
			"refused": {smallTale(), 3, []impl.BookOp{puts("v", 0, "new"), puts("w", 0, "")}, impl.BookNone}, "no commit number": {last, 3, nil, impl.BookRoom},
			"no room for a write": {smallTale(), 599, eightPuts(), impl.BookRoom}, "no room for a commit": {smallTale(), 597, eightPuts()[:1], impl.BookRoom}, "damaged": {none, 3, eightPuts(), impl.PoolBad},
		} {
			d, whole := roomyTale(x.tale, x.k, x.ops...)
			if _, code := impl.RiseDo(d); code != x.code {
				t.Error(which, code)
			}
			p, other := turn(d), turn(d)
			want := ownPool(other)
			for _, set := range p.Core.Sets {
				for _, text := range d.Sides[0] {
					if isPiece(set.Name, text) || isPiece(set.From, text) {
						t.Errorf("%s, %s: the name %s is a piece of %q", name, which, set.Name, text)
					}
				}
			}
			spoilPool(p)
			if _, fresh := roomyTale(x.tale, x.k, x.ops...); !sameDisk(whole, fresh) {
				t.Errorf("%s, %s: the disk has changed", name, which)
			}
			spoil(d)
			if !samePool(other, want) {
				t.Errorf("%s, %s: a result has changed", name, which)
			}
			sides := slices.Clone(other.Disk.Sides[1])
			spoil(impl.Disk{Sides: [2][]string{other.Disk.Sides[0], nil}})
			if !slices.Equal(other.Disk.Sides[1], sides) {
				t.Errorf("%s, %s: the sides share memory", name, which)
			}
		}
	}
}

// A store that is cut leaves its argument and what is behind it, and has memory of its own.
func TestPoolCutSharesNoMemory(t *testing.T) {
	for _, op := range ownOps() {
		for _, k := range []int{0, 3, 595, 600} {
			for _, n := range []int{0, 3, 8} {
				for stage := range 2 {
					p, whole := roomyPool(k, 5, n)
					fate := []int{impl.DiskTorn, impl.DiskKept, 77}
					x, other := impl.PoolCut(p, op, stage, fate[:2]), impl.PoolCut(p, op, stage, fate[:2])
					want := ownPool(other)
					spoilPool(x)
					_, fresh := roomyPool(k, 5, n)
					if !samePool(whole, fresh) || !slices.Equal(fate, []int{impl.DiskTorn, impl.DiskKept, 77}) {
						t.Errorf("%q, %d late writes, %d records: an argument has changed", kindOf(op), k, n)
					}
					spoilPool(p)
					if !samePool(other, want) {
						t.Errorf("%q, %d late writes, %d records: a result has changed", kindOf(op), k, n)
					}
					sides := slices.Clone(other.Disk.Sides[1])
					spoil(impl.Disk{Sides: [2][]string{other.Disk.Sides[0], nil}})
					if !slices.Equal(other.Disk.Sides[1], sides) {
						t.Errorf("%q: the sides share memory", kindOf(op))
					}
				}
			}
		}
	}
}
