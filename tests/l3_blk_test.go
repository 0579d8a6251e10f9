package tests

import (
	"math"
	"math/rand/v2"
	"strconv"
	"strings"
	"testing"

	"loop.example/palim/impl"
)

// ptr is a pointer with these fields.
func ptr(at int, sum int, birth int) impl.Ptr {
	return impl.Ptr{At: at, Sum: sum, Birth: birth}
}

// otherText is a text of three bytes with this sum that is not the given one.
func otherText(t *testing.T, sum int, not string) string {
	t.Helper()
	for n := range 1 << 24 {
		text := string([]byte{byte(n >> 16), byte(n >> 8), byte(n)})
		if text != not && impl.SumOf(text) == sum {
			return text
		}
	}
	t.Fatal("no text has the sum", sum)
	return ""
}

// goodPtrs is valid pointers, those at the limits among them, with their texts.
func goodPtrs() map[string]impl.Ptr {
	return map[string]impl.Ptr{
		"-":                 {},
		"3.7.1":             ptr(3, 7, 1),
		"1.0.0":             ptr(1, 0, 0),
		"119.0.0":           ptr(impl.DiskMaxAt-1, 0, 0),
		"2.65520.0":         ptr(2, impl.SumMod-1, 0),
		"2.0.1000000":       ptr(2, 0, impl.BlkMaxBirth),
		"119.65520.1000000": ptr(impl.DiskMaxAt-1, impl.SumMod-1, impl.BlkMaxBirth),
		"10.100.1000":       ptr(10, 100, 1000),
	}
}

// badPtrs is pointers that break one condition each.
func badPtrs() []impl.Ptr {
	return []impl.Ptr{
		ptr(0, 1, 0), ptr(0, 0, 1), ptr(0, 7, 1), ptr(0, impl.SumMod-1, impl.BlkMaxBirth), ptr(0, -1, 0), ptr(0, 0, -1),
		ptr(-1, 0, 0), ptr(-1, 7, 1), ptr(impl.DiskMaxAt, 7, 1), ptr(impl.DiskMaxAt+1, 7, 1), ptr(math.MinInt, 7, 1), ptr(math.MaxInt, 7, 1),
		ptr(3, -1, 1), ptr(3, impl.SumMod, 1), ptr(3, impl.SumMod+1, 1), ptr(3, math.MinInt, 1), ptr(3, math.MaxInt, 1),
		ptr(3, 7, -1), ptr(3, 7, impl.BlkMaxBirth+1), ptr(3, 7, math.MinInt), ptr(3, 7, math.MaxInt),
		ptr(-3, -7, -1), ptr(math.MaxInt, math.MaxInt, math.MaxInt),
	}
}

func TestBlkLimits(t *testing.T) {
	if impl.BlkMaxBirth != 1000000 || impl.BlkFine != 0 || impl.BlkNone != 1 || impl.BlkBad != 2 {
		t.Error(impl.BlkMaxBirth, impl.BlkFine, impl.BlkNone, impl.BlkBad)
	}
}

func TestPtrOkAndText(t *testing.T) {
	for text, p := range goodPtrs() {
		if !impl.PtrOk(p) || impl.PtrText(p) != text {
			t.Errorf("%+v: %v %q", p, impl.PtrOk(p), impl.PtrText(p))
		}
	}
	for _, p := range badPtrs() {
		if impl.PtrOk(p) || impl.PtrText(p) != "" {
			t.Errorf("%+v: %v %q", p, impl.PtrOk(p), impl.PtrText(p))
		}
	}
}

func TestPtrReadsWhatWasWritten(t *testing.T) {
	for text, p := range goodPtrs() {
		if x, ok := impl.PtrRead(text); x != p || !ok {
			t.Errorf("%q: %+v %v", text, x, ok)
		}
	}
	r := rand.New(rand.NewPCG(3, 1))
	for range 2000 {
		p := ptr(1+r.IntN(impl.DiskMaxAt-1), r.IntN(impl.SumMod), r.IntN(impl.BlkMaxBirth+1))
		if x, ok := impl.PtrRead(impl.PtrText(p)); x != p || !ok {
			t.Fatalf("%+v: %+v %v", p, x, ok)
		}
	}
}

// ptrRefused fails unless PtrRead answers the zero value and false.
func ptrRefused(t *testing.T, text string) {
	t.Helper()
	if p, ok := impl.PtrRead(text); ok || p != (impl.Ptr{}) {
		t.Errorf("PtrRead of %.60q: %+v, %v", text, p, ok)
	}
}

func TestPtrReadRefusesOtherTexts(t *testing.T) {
	for _, text := range []string{
		"", "--", "-.", ".-", "- ", " -", "-\n", "-.-.-", "null", "a", "a.b.c", "3.7.x", "\xe2\x88\x92",
		"0", "00", "0.0.0", "0.0", "0.7.1", "0.0.1", "0.1.0", "-0.-0.-0", "-0.0.0",
		"3", "3.7", "3.", "3.7.", "3..1", ".7.1", "..", ".", "...", ".3.7.1", "3.7.1.", "3.7.1.0", "3.7.1.9", "3.7.1.-", "3..7.1", "3.7..1",
		"03.7.1", "3.07.1", "3.7.01", "003.7.1", "3.00.1", "3.7.00", strings.Repeat("0", 5000) + "3.7.1",
		"+3.7.1", "3.+7.1", "3.7.+1", "-3.7.1", "3.-7.1", "3.7.-1", "3.-0.1", "3.7.-0", "3.+0.1", "3.7.+0",
		" 3.7.1", "3.7.1 ", "3 .7.1", "3. 7.1", "3.7 .1", "3.7. 1", "3 7 1", "3,7,1", "3:7:1", "3.7.1\n", "\n3.7.1", "3.7.1\x00", "\t3.7.1",
		"120.7.1", "121.7.1", "1000.7.1", "3.65521.1", "3.65528.1", "3.100000.1", "3.7.1000001", "3.7.10000000",
		"4294967299.7.1", "18446744073709551619.7.1", "3.18446744073709551623.1", "3.7.18446744073709551617", "3.7.9223372036854775808",
		"-18446744073709551613.7.1", strings.Repeat("9", 5000) + ".7.1", "3." + strings.Repeat("9", 5000) + ".1", "3.7." + strings.Repeat("9", 5000),
		"0x3.7.1", "3.0x7.1", "3.7.1e0", "3.7_0.1", "1_0.7.1", "0b1.7.1", "3.7.1f", "\xd9\xa3.7.1", "\xef\xbc\x93.7.1",
		"3.7.1 3.7.1", "3.7.13.7.1", strings.Repeat("3.", 5000), strings.Repeat(".", 5000),
	} {
		ptrRefused(t, text)
	}
}

// changedTexts is the beginnings and ends of a text, and the text with one byte more, one fewer or another one, at each place.
func changedTexts(text string) []string {
	var changed []string
	for i := range len(text) + 1 {
		changed = append(changed, text[:i], text[i:])
		if i < len(text) {
			changed = append(changed, text[:i]+text[i+1:])
		}
		for c := range 256 {
			changed = append(changed, text[:i]+string([]byte{byte(c)})+text[i:])
			if i < len(text) {
				changed = append(changed, text[:i]+string([]byte{byte(c)})+text[i+1:])
			}
		}
	}
	return changed
}

// What is read of a text that was changed anywhere is what that text tells, or nothing.
func TestPtrReadOfChangedTexts(t *testing.T) {
	for text := range goodPtrs() {
		for _, s := range changedTexts(text) {
			p, ok := impl.PtrRead(s)
			if ok && (!impl.PtrOk(p) || impl.PtrText(p) != s) || !ok && p != (impl.Ptr{}) {
				t.Errorf("%q: %+v %v", s, p, ok)
			}
		}
	}
}

// Each number of a text is read up to its limit and no further.
func TestPtrReadLimits(t *testing.T) {
	for at := range impl.DiskMaxAt + 200 {
		text := strconv.Itoa(at) + ".7.1"
		if p, ok := impl.PtrRead(text); ok != (at >= 1 && at < impl.DiskMaxAt) || ok && p != ptr(at, 7, 1) {
			t.Errorf("%q: %+v %v", text, p, ok)
		}
	}
	for sum := range impl.SumMod + 200 {
		text := "3." + strconv.Itoa(sum) + ".1"
		if p, ok := impl.PtrRead(text); ok != (sum < impl.SumMod) || ok && p != ptr(3, sum, 1) {
			t.Errorf("%q: %+v %v", text, p, ok)
		}
	}
	for birth := impl.BlkMaxBirth - 200; birth < impl.BlkMaxBirth+200; birth++ {
		text := "3.7." + strconv.Itoa(birth)
		if p, ok := impl.PtrRead(text); ok != (birth <= impl.BlkMaxBirth) || ok && p != ptr(3, 7, birth) {
			t.Errorf("%q: %+v %v", text, p, ok)
		}
	}
}

func TestBlkTo(t *testing.T) {
	zero := otherText(t, 0, "")
	long := strings.Repeat("x", 5000)
	for _, c := range []struct {
		at    int
		text  string
		birth int
		want  impl.Ptr
	}{
		{2, "abc", 5, ptr(2, 30382, 5)},
		{1, "", 0, ptr(1, 1, 0)},
		{1, zero, 0, ptr(1, 0, 0)},
		{impl.DiskMaxAt - 1, "a", impl.BlkMaxBirth, ptr(119, 612, 1000000)},
		{7, long, 1, ptr(7, 7300, 1)},
		{impl.DiskMaxAt, "a", 1, impl.Ptr{}},
		{math.MaxInt, "a", 1, impl.Ptr{}},
		{0, "a", 1, impl.Ptr{}},
		{0, zero, 0, impl.Ptr{}},
		{0, zero, 1, impl.Ptr{}},
		{-1, "a", 1, impl.Ptr{}},
		{math.MinInt, "a", 1, impl.Ptr{}},
		{2, "a", -1, impl.Ptr{}},
		{2, "a", impl.BlkMaxBirth + 1, impl.Ptr{}},
		{2, "a", math.MinInt, impl.Ptr{}},
		{2, "a", math.MaxInt, impl.Ptr{}},
	} {
		if p := impl.BlkTo(c.at, c.text, c.birth); p != c.want {
			t.Errorf("sector %d, %.10q, birth %d: %+v", c.at, c.text, c.birth, p)
		}
	}
}

// blkCase is a disk on which the sides have the block of a pointer or not, and what is read of it.
type blkCase struct {
	name string
	d    impl.Disk
	p    impl.Ptr
	has  [2]bool
	text string
	code int
}

// blkCases is each way in which the sides may have a block.
func blkCases(t *testing.T) []blkCase {
	p := impl.BlkTo(1, "abc", 5)
	twin := otherText(t, p.Sum, "abc")
	most := strings.Repeat("m", impl.DiskMaxText)
	full := lates(impl.DiskMaxLate)
	old := []string{"", "old"}
	abc := []string{"", "abc"}
	return []blkCase{
		{"both", diskOf(abc, abc), p, [2]bool{true, true}, "abc", impl.BlkFine},
		{"only side 0", diskOf(abc, old), p, [2]bool{true, false}, "abc", impl.BlkFine},
		{"only side 1", diskOf(old, abc), p, [2]bool{false, true}, "abc", impl.BlkFine},
		{"neither", diskOf(old, old), p, [2]bool{}, "", impl.BlkBad},
		{"side 0 late", diskOf(old, old, late(0, 1, "abc")), p, [2]bool{true, false}, "abc", impl.BlkFine},
		{"side 1 late", diskOf(old, old, late(1, 1, "abc")), p, [2]bool{false, true}, "abc", impl.BlkFine},
		{"both late", diskOf(old, old, late(0, 1, "abc"), late(1, 1, "abc")), p, [2]bool{true, true}, "abc", impl.BlkFine},
		{"side 0 late, side 1 at rest", diskOf(old, abc, late(0, 1, "abc")), p, [2]bool{true, true}, "abc", impl.BlkFine},
		{"late and overwritten", diskOf(old, abc, late(0, 1, "abc"), late(0, 1, "new")), p, [2]bool{false, true}, "abc", impl.BlkFine},
		{"overwritten late on side 0", diskOf(abc, abc, late(0, 1, "new")), p, [2]bool{false, true}, "abc", impl.BlkFine},
		{"overwritten late on side 1", diskOf(abc, abc, late(1, 1, "")), p, [2]bool{true, false}, "abc", impl.BlkFine},
		{"overwritten late on both", diskOf(abc, abc, late(1, 1, "x"), late(0, 1, "x")), p, [2]bool{}, "", impl.BlkBad},
		{"late elsewhere", diskOf(abc, old, late(0, 0, "x"), late(1, 0, "abc")), p, [2]bool{true, false}, "abc", impl.BlkFine},
		{"equal sums", diskOf([]string{"", twin}, abc), p, [2]bool{true, true}, twin, impl.BlkFine},
		{"equal sums, side 1", diskOf(old, []string{"", twin}), p, [2]bool{false, true}, twin, impl.BlkFine},
		{"empty block", diskOf([]string{"", "x"}, []string{"", ""}), impl.BlkTo(1, "", 0), [2]bool{false, true}, "", impl.BlkFine},
		{"longest block", diskOf(old, []string{"", most}), impl.BlkTo(1, most, impl.BlkMaxBirth), [2]bool{false, true}, most, impl.BlkFine},
		{"other birth", diskOf(abc, abc), impl.BlkTo(1, "abc", 77), [2]bool{true, true}, "abc", impl.BlkFine},
		{"other sum", diskOf(abc, abc), ptr(1, p.Sum+1, 5), [2]bool{}, "", impl.BlkBad},
		{"other sector", diskOf(append(abc, "x"), append(abc, "x")), ptr(2, p.Sum, 5), [2]bool{}, "", impl.BlkBad},
		{"past the end", diskOf(abc, abc), ptr(2, p.Sum, 5), [2]bool{}, "", impl.BlkBad},
		{"far past the end", diskOf(abc, abc), ptr(impl.DiskMaxAt-1, 1, 0), [2]bool{}, "", impl.BlkBad},
		{"most late writes, both", diskOf(abc, abc, full...), p, [2]bool{true, true}, "abc", impl.BlkFine},
		{"most late writes, neither", diskOf(old, old, full...), p, [2]bool{}, "", impl.BlkBad},
	}
}

func TestBlkSideAndRead(t *testing.T) {
	for _, c := range blkCases(t) {
		for side, has := range c.has {
			if impl.BlkSide(c.d, c.p, side) != has {
				t.Errorf("%s: side %d", c.name, side)
			}
		}
		for _, side := range []int{-1, 2, 3, math.MinInt, math.MaxInt} {
			if impl.BlkSide(c.d, c.p, side) {
				t.Errorf("%s: side %d", c.name, side)
			}
		}
		if text, code := impl.BlkRead(c.d, c.p); text != c.text || code != c.code {
			t.Errorf("%s: %q %d", c.name, text, code)
		}
	}
}

// A null pointer has no block, although its sector contains a text of its sum.
func TestNullPointerHasNoBlock(t *testing.T) {
	zero := otherText(t, 0, "")
	for name, d := range map[string]impl.Disk{
		"at rest":          diskOf([]string{zero, "a"}, []string{zero, "a"}),
		"late":             diskOf([]string{"", ""}, []string{"", ""}, late(0, 0, zero), late(1, 0, zero)),
		"side 0 only":      diskOf([]string{zero, "a"}, []string{"", "a"}),
		"side 1 only":      diskOf([]string{"", "a"}, []string{zero, "a"}),
		"empty":            impl.DiskOpen(1),
		"most late writes": diskOf([]string{zero}, []string{""}, lates(impl.DiskMaxLate)...),
	} {
		if impl.BlkSide(d, impl.Ptr{}, 0) || impl.BlkSide(d, impl.Ptr{}, 1) || impl.BlkSide(d, impl.Ptr{}, 2) {
			t.Error("a side:", name)
		}
		if text, code := impl.BlkRead(d, impl.Ptr{}); text != "" || code != impl.BlkNone {
			t.Errorf("%s: read %q %d", name, text, code)
		}
		if x, code := impl.BlkHeal(d, impl.Ptr{}); !sameDisk(x, d) || code != impl.BlkNone {
			t.Errorf("%s: heal %v %d", name, x, code)
		}
	}
}

// A pointer that is not valid has no block, although its sector contains a text of its sum.
func TestPointersThatAreNotValid(t *testing.T) {
	d := diskOf([]string{"abc", "", "abc"}, []string{"abc", "", "xyz"})
	sum := impl.SumOf("abc")
	bad := append(badPtrs(), ptr(0, sum, 0), ptr(0, sum, 5), ptr(2, sum, -1), ptr(2, sum, impl.BlkMaxBirth+1), ptr(2, sum-impl.SumMod, 5), ptr(2, sum+impl.SumMod, 5))
	for _, p := range bad {
		for side := -1; side <= 2; side++ {
			if impl.BlkSide(d, p, side) {
				t.Errorf("%+v: side %d", p, side)
			}
		}
		if text, code := impl.BlkRead(d, p); text != "" || code != impl.BlkBad {
			t.Errorf("%+v: read %q %d", p, text, code)
		}
		if x, code := impl.BlkHeal(d, p); !sameDisk(x, d) || code != impl.BlkBad {
			t.Errorf("%+v: heal %v %d", p, x, code)
		}
	}
}

func TestBlkWrite(t *testing.T) {
	most := strings.Repeat("m", impl.DiskMaxText)
	for _, c := range []struct {
		at   int
		text string
	}{{0, "a"}, {1, "abc"}, {2, "last sector"}, {1, ""}, {2, most}} {
		d := diskOf([]string{"p", "q", "r"}, []string{"s", "t", "u"}, late(1, c.at, "earlier"), late(0, 2, "other"))
		want := diskOf(d.Sides[0], d.Sides[1], late(1, c.at, "earlier"), late(0, 2, "other"), late(0, c.at, c.text), late(1, c.at, c.text))
		if x, ok := impl.BlkWrite(d, c.at, c.text); !ok || !sameDisk(x, want) {
			t.Errorf("sector %d, %d bytes: %v %v", c.at, len(c.text), ok, x)
		}
	}
}

func TestBlkWriteRefuses(t *testing.T) {
	d := diskOf([]string{"p", "q"}, []string{"s", "t"}, late(1, 1, "earlier"))
	for _, c := range []struct {
		at   int
		text string
	}{
		{-1, "a"}, {2, "a"}, {3, "a"}, {math.MinInt, "a"}, {math.MaxInt, "a"}, {impl.DiskMaxAt - 1, ""},
		{1, strings.Repeat("x", impl.DiskMaxText+1)}, {0, strings.Repeat("x", 5000)}, {-1, strings.Repeat("x", 5000)},
	} {
		if x, ok := impl.BlkWrite(d, c.at, c.text); ok || !sameDisk(x, d) {
			t.Errorf("sector %d, %d bytes: %v %v", c.at, len(c.text), ok, x)
		}
	}
}

func TestBlkWriteUpToTheMostLateWrites(t *testing.T) {
	for n := impl.DiskMaxLate - 4; n <= impl.DiskMaxLate; n++ {
		d := diskOf([]string{"a", "b"}, []string{"c", "d"}, lates(n)...)
		want := ownDisk(d)
		fits := n <= impl.DiskMaxLate-2
		if fits {
			want.Late = append(want.Late, late(0, 1, "new"), late(1, 1, "new"))
		}
		if x, ok := impl.BlkWrite(d, 1, "new"); ok != fits || !sameDisk(x, want) {
			t.Errorf("%d late writes: %v, %d afterwards", n, ok, len(x.Late))
		}
	}
}

func TestBlkHeal(t *testing.T) {
	for _, c := range blkCases(t) {
		want := ownDisk(c.d)
		for side := range c.has {
			if !c.has[side] && c.has[1-side] {
				want.Late = append(want.Late, late(side, c.p.At, c.text))
			}
		}
		x, code := impl.BlkHeal(c.d, c.p)
		if code != c.code || !sameDisk(x, want) {
			t.Errorf("%s: %d %v", c.name, code, x.Late)
		}
		if again, code := impl.BlkHeal(x, c.p); code != c.code || !sameDisk(again, x) {
			t.Errorf("%s: healed once more: %d %v", c.name, code, again.Late)
		}
	}
}

func TestBlkHealUpToTheMostLateWrites(t *testing.T) {
	p := impl.BlkTo(1, "abc", 5)
	for side := range 2 {
		for n := impl.DiskMaxLate - 2; n <= impl.DiskMaxLate; n++ {
			d := diskOf([]string{"", "abc"}, []string{"", "abc"}, lates(n)...)
			d.Sides[side][1] = "old"
			want, code := ownDisk(d), impl.BlkBad
			if n < impl.DiskMaxLate {
				want.Late = append(want.Late, late(side, 1, "abc"))
				code = impl.BlkFine
			}
			if x, c := impl.BlkHeal(d, p); c != code || !sameDisk(x, want) {
				t.Errorf("side %d, %d late writes: %d, %d afterwards", side, n, c, len(x.Late))
			}
		}
	}
}

func TestBlocksOfDisksThatAreNotValid(t *testing.T) {
	for name, d := range badDisks() {
		for _, p := range []impl.Ptr{{}, impl.BlkTo(1, "", 0), ptr(0, 1, 0), ptr(1, 1, -1), ptr(impl.DiskMaxAt-1, 1, 0)} {
			code := impl.BlkBad
			if p == (impl.Ptr{}) {
				code = impl.BlkNone
			}
			if text, c := impl.BlkRead(d, p); text != "" || c != code {
				t.Errorf("%s, %+v: read %q %d", name, p, text, c)
			}
			if impl.BlkSide(d, p, 0) || impl.BlkSide(d, p, 1) || impl.BlkSide(d, p, -1) {
				t.Errorf("%s, %+v: a side", name, p)
			}
			if x, c := impl.BlkHeal(d, p); !sameDisk(x, impl.Disk{}) || c != impl.BlkBad {
				t.Errorf("%s, %+v: heal %v %d", name, p, x, c)
			}
		}
		for _, at := range []int{0, 1, -1, math.MaxInt} {
			if x, ok := impl.BlkWrite(d, at, "a"); !sameDisk(x, impl.Disk{}) || ok {
				t.Errorf("%s: write to sector %d: %v %v", name, at, x, ok)
			}
		}
		if x, ok := impl.BlkWrite(d, 0, strings.Repeat("a", 500)); !sameDisk(x, impl.Disk{}) || ok {
			t.Errorf("%s: refused write: %v %v", name, x, ok)
		}
	}
}

// damaged is a disk on which one byte of one side's sector has other bits.
func damaged(r *rand.Rand, d impl.Disk, side int, at int) impl.Disk {
	n := len(d.Sides[side][at])
	return impl.DiskRot(d, side, at, r.IntN(max(n, 1)), 1+r.IntN(255))
}

// readsOn checks that a block is read, and is read the same with both sides restored after healing, flushed or not.
func readsOn(t *testing.T, d impl.Disk, p impl.Ptr, text string) {
	t.Helper()
	healed, code := impl.BlkHeal(d, p)
	if code != impl.BlkFine || !impl.DiskOk(healed) {
		t.Fatalf("%+v: healing answers %d", p, code)
	}
	for i, x := range []impl.Disk{d, healed, impl.DiskFlush(healed)} {
		if s, c := impl.BlkRead(x, p); s != text || c != impl.BlkFine {
			t.Fatalf("disk %d, %+v: %q %d, not %q", i, p, s, c, text)
		}
		if i > 0 && (!impl.BlkSide(x, p, 0) || !impl.BlkSide(x, p, 1)) {
			t.Fatalf("disk %d, %+v: a side was not restored", i, p)
		}
	}
}

// Promise 3: what is written is read as long as one side has it, and healing restores the other one.
func TestBlocksSurviveOnOneSide(t *testing.T) {
	r := rand.New(rand.NewPCG(3, 3))
	for range 200 {
		n := 2 + r.IntN(6)
		d := impl.DiskOpen(n)
		ptrs, texts := make([]impl.Ptr, n), make([]string, n)
		for at := 1; at < n; at++ {
			texts[at] = someText(r, r.IntN(30))
			ptrs[at] = impl.BlkTo(at, texts[at], r.IntN(impl.BlkMaxBirth+1))
			var ok bool
			if d, ok = impl.BlkWrite(d, at, texts[at]); !ok {
				t.Fatal("refused", d)
			}
			readsOn(t, d, ptrs[at], texts[at])
		}
		d = impl.DiskFlush(d)
		for at := 1; at < n; at++ {
			d = damaged(r, d, r.IntN(2), at)
		}
		for at := 1; at < n; at++ {
			readsOn(t, d, ptrs[at], texts[at])
		}
	}
}

// Promise 3 after a power failure: a side whose write was kept is enough.
func TestBlocksSurviveAPowerFailure(t *testing.T) {
	old, text := "what was there before", "what is written now"
	p := impl.BlkTo(1, text, 9)
	for _, c := range [][2]int{
		{impl.DiskKept, impl.DiskKept}, {impl.DiskKept, impl.DiskLost}, {impl.DiskKept, impl.DiskTorn},
		{impl.DiskLost, impl.DiskKept}, {impl.DiskTorn, impl.DiskKept},
	} {
		d, ok := impl.BlkWrite(diskOf([]string{"", old}, []string{"", old}), 1, text)
		if !ok {
			t.Fatal("refused", d)
		}
		d = impl.DiskFall(d, c[:])
		for side, fate := range c {
			if impl.BlkSide(d, p, side) != (fate == impl.DiskKept) {
				t.Errorf("%v: side %d", c, side)
			}
		}
		readsOn(t, d, p, text)
	}
}

// Promise 3: a block that was healed outlives the side that it was healed from.
func TestHealedBlocksOutliveTheOtherSide(t *testing.T) {
	p := impl.BlkTo(1, "abc", 5)
	for side := range 2 {
		d, _ := impl.BlkWrite(impl.DiskOpen(2), 1, "abc")
		d = impl.DiskRot(impl.DiskFlush(d), side, 1, 0, 1)
		lost := impl.DiskRot(d, 1-side, 1, 2, 128)
		if text, code := impl.BlkRead(lost, p); text != "" || code != impl.BlkBad {
			t.Errorf("side %d: both damaged: %q %d", side, text, code)
		}
		d, _ = impl.BlkHeal(d, p)
		d = impl.DiskRot(impl.DiskFlush(d), 1-side, 1, 2, 128)
		if impl.BlkSide(d, p, 1-side) {
			t.Errorf("side %d: the other one is not damaged", side)
		}
		readsOn(t, d, p, "abc")
	}
}

// blkCalls is each function that returns a disk, also where it returns its argument, for the sectors of roomyDisk.
func blkCalls() map[string]func(d impl.Disk) impl.Disk {
	write := func(at int, text string) func(d impl.Disk) impl.Disk {
		return func(d impl.Disk) impl.Disk {
			x, _ := impl.BlkWrite(d, at, text)
			return x
		}
	}
	heal := func(p impl.Ptr) func(d impl.Disk) impl.Disk {
		return func(d impl.Disk) impl.Disk {
			x, _ := impl.BlkHeal(d, p)
			return x
		}
	}
	return map[string]func(d impl.Disk) impl.Disk{
		"write":              write(1, "new"),
		"refused sector":     write(2, "new"),
		"refused text":       write(1, strings.Repeat("x", impl.DiskMaxText+1)),
		"heal side 0":        heal(impl.BlkTo(1, "jkl", 1)),
		"heal side 1":        heal(impl.BlkTo(1, "late", 1)),
		"nothing to heal":    func(d impl.Disk) impl.Disk { return heal(impl.BlkTo(1, "new", 1))(write(1, "new")(d)) },
		"heal null":          heal(impl.Ptr{}),
		"heal what is lost":  heal(impl.BlkTo(1, "gone", 1)),
		"heal without a ptr": heal(ptr(0, 1, 1)),
	}
}

func TestBlocksShareNoMemory(t *testing.T) {
	sharesNoMemory(t, blkCalls())
	sidesShareNoMemory(t, blkCalls())
}

// Where nothing is written, or there is no room for a write, the result has lists of its own too.
func TestRefusedBlocksShareNoMemory(t *testing.T) {
	p := impl.BlkTo(1, "abc", 5)
	for name, call := range map[string]func(d impl.Disk) (impl.Disk, int){
		"write": func(d impl.Disk) (impl.Disk, int) {
			x, _ := impl.BlkWrite(d, 1, "new")
			return x, 0
		},
		"heal one side":   func(d impl.Disk) (impl.Disk, int) { return impl.BlkHeal(d, p) },
		"nothing to heal": func(d impl.Disk) (impl.Disk, int) { return impl.BlkHeal(d, impl.BlkTo(2, "def", 5)) },
	} {
		d := diskOf([]string{"", "abc", "def"}, []string{"", "xyz", "def"}, lates(impl.DiskMaxLate)...)
		want := ownDisk(d)
		x, _ := call(d)
		if !sameDisk(x, want) {
			t.Errorf("%s: %v", name, x.Sides)
		}
		spoil(x)
		if !sameDisk(d, want) {
			t.Errorf("%s: the argument has changed: %v", name, d.Sides)
		}
	}
}
