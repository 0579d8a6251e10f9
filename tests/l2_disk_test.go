package tests

import (
	"math"
	"math/rand/v2"
	"slices"
	"strings"
	"testing"

	"loop.example/palim/impl"
)

// late is a write that is not flushed.
func late(side int, at int, text string) impl.DiskLate {
	return impl.DiskLate{Side: side, At: at, Text: text}
}

// lates is n writes to sector 0 of side 0.
func lates(n int) []impl.DiskLate {
	return slices.Repeat([]impl.DiskLate{late(0, 0, "w")}, n)
}

// diskOf is a disk with these sectors and late writes.
func diskOf(side0 []string, side1 []string, writes ...impl.DiskLate) impl.Disk {
	return impl.Disk{Sides: [2][]string{side0, side1}, Late: writes}
}

// sameDisk compares two disks without the function under test.
func sameDisk(a impl.Disk, b impl.Disk) bool {
	return slices.Equal(a.Sides[0], b.Sides[0]) && slices.Equal(a.Sides[1], b.Sides[1]) && slices.Equal(a.Late, b.Late)
}

// ownDisk is a copy that shares no list with the disk.
func ownDisk(d impl.Disk) impl.Disk {
	return diskOf(slices.Clone(d.Sides[0]), slices.Clone(d.Sides[1]), slices.Clone(d.Late)...)
}

// goodDisks is valid disks, those at the limits among them.
func goodDisks() map[string]impl.Disk {
	most := strings.Repeat("m", impl.DiskMaxText)
	return map[string]impl.Disk{
		"one sector":           diskOf([]string{""}, []string{""}),
		"most sectors":         diskOf(make([]string, impl.DiskMaxAt), make([]string, impl.DiskMaxAt)),
		"longest text, side 0": diskOf([]string{"", most}, []string{"", "b"}),
		"longest text, side 1": diskOf([]string{"", "a"}, []string{"", most}),
		"longest late text":    diskOf([]string{""}, []string{""}, late(1, 0, most)),
		"most late writes":     diskOf([]string{""}, []string{""}, lates(impl.DiskMaxLate)...),
		"last late sectors":    diskOf(make([]string, 3), make([]string, 3), late(0, 2, "a"), late(1, 2, "b"), late(1, 2, "")),
		"empty late list":      {Sides: [2][]string{{"a"}, {"b"}}, Late: []impl.DiskLate{}},
	}
}

// badDisks is disks that break one condition each.
func badDisks() map[string]impl.Disk {
	over := strings.Repeat("o", impl.DiskMaxText+1)
	one := []string{""}
	return map[string]impl.Disk{
		"zero value":         {},
		"empty lists":        diskOf([]string{}, []string{}),
		"empty lists, late":  diskOf(nil, nil, late(0, 0, "")),
		"no side 0":          diskOf(nil, one),
		"no side 1":          diskOf(one, nil),
		"longer side 0":      diskOf(make([]string, 3), make([]string, 2)),
		"longer side 1":      diskOf(make([]string, 2), make([]string, 3)),
		"too many sectors":   diskOf(make([]string, impl.DiskMaxAt+1), make([]string, impl.DiskMaxAt+1)),
		"long text, side 0":  diskOf([]string{"", over}, []string{"", ""}),
		"long text, side 1":  diskOf([]string{"", ""}, []string{"", over}),
		"long late text":     diskOf(one, one, late(0, 0, "a"), late(0, 0, over)),
		"too many writes":    diskOf(one, one, lates(impl.DiskMaxLate+1)...),
		"late to side -1":    diskOf(one, one, late(-1, 0, "a")),
		"late to side 2":     diskOf(one, one, late(2, 0, "a")),
		"late to sector -1":  diskOf(one, one, late(0, -1, "a")),
		"late past the end":  diskOf(one, one, late(1, 1, "a"), late(0, 0, "b")),
		"late to far sector": diskOf(one, one, late(0, math.MaxInt, "a")),
	}
}

func TestDiskLimits(t *testing.T) {
	if impl.DiskMaxAt != 120 || impl.DiskMaxText != 420 || impl.DiskMaxLate != 600 {
		t.Error(impl.DiskMaxAt, impl.DiskMaxText, impl.DiskMaxLate)
	}
	if impl.DiskLost != 0 || impl.DiskKept != 1 || impl.DiskTorn != 2 {
		t.Error(impl.DiskLost, impl.DiskKept, impl.DiskTorn)
	}
}

func TestDiskOpen(t *testing.T) {
	for _, n := range []int{1, 2, 3, 64, impl.DiskMaxAt - 1, impl.DiskMaxAt} {
		if d := impl.DiskOpen(n); !sameDisk(d, diskOf(make([]string, n), make([]string, n))) || !impl.DiskOk(d) {
			t.Errorf("%d sectors: %v", n, d)
		}
	}
	for _, n := range []int{0, -1, impl.DiskMaxAt + 1, math.MinInt, math.MaxInt} {
		if d := impl.DiskOpen(n); !sameDisk(d, impl.Disk{}) {
			t.Errorf("%d sectors: %v", n, d)
		}
	}
}

func TestDiskOk(t *testing.T) {
	for name, d := range goodDisks() {
		if !impl.DiskOk(d) {
			t.Error(name)
		}
	}
	for name, d := range badDisks() {
		if impl.DiskOk(d) {
			t.Error(name)
		}
	}
}

func TestDiskSame(t *testing.T) {
	d := diskOf([]string{"a", "b"}, []string{"c", "d"}, late(0, 1, "e"), late(1, 0, "f"))
	others := map[string]impl.Disk{
		"text of side 0":  diskOf([]string{"a", "x"}, []string{"c", "d"}, d.Late...),
		"text of side 1":  diskOf([]string{"a", "b"}, []string{"x", "d"}, d.Late...),
		"sides exchanged": diskOf([]string{"c", "d"}, []string{"a", "b"}, d.Late...),
		"shorter side 0":  diskOf([]string{"a"}, []string{"c", "d"}, d.Late...),
		"longer side 1":   diskOf([]string{"a", "b"}, []string{"c", "d", ""}, d.Late...),
		"side of late":    diskOf(d.Sides[0], d.Sides[1], late(1, 1, "e"), late(1, 0, "f")),
		"sector of late":  diskOf(d.Sides[0], d.Sides[1], late(0, 1, "e"), late(1, 1, "f")),
		"text of late":    diskOf(d.Sides[0], d.Sides[1], late(0, 1, "e"), late(1, 0, "x")),
		"fewer late":      diskOf(d.Sides[0], d.Sides[1], late(0, 1, "e")),
		"more late":       diskOf(d.Sides[0], d.Sides[1], late(0, 1, "e"), late(1, 0, "f"), late(1, 0, "f")),
		"order of late":   diskOf(d.Sides[0], d.Sides[1], late(1, 0, "f"), late(0, 1, "e")),
		"zero value":      {},
	}
	if !impl.DiskSame(d, ownDisk(d)) {
		t.Error("a copy differs")
	}
	for name, other := range others {
		if impl.DiskSame(d, other) || impl.DiskSame(other, d) {
			t.Error(name)
		}
	}
	if !impl.DiskSame(impl.Disk{}, impl.Disk{Sides: [2][]string{{}, {}}, Late: []impl.DiskLate{}}) {
		t.Error("a nil and an empty list differ")
	}
	for name, bad := range badDisks() {
		if !impl.DiskSame(bad, ownDisk(bad)) {
			t.Error("not the same as itself:", name)
		}
	}
}

func TestDiskRead(t *testing.T) {
	d := diskOf([]string{"a", "b", "c"}, []string{"d", "e", "f"}, late(0, 1, "first"), late(1, 2, "other"), late(0, 1, "second"), late(1, 0, ""))
	want := [2][3]string{{"a", "second", "c"}, {"", "e", "other"}}
	for side := range want {
		for at := range want[side] {
			if s, ok := impl.DiskRead(d, side, at); s != want[side][at] || !ok {
				t.Error(side, at, s, ok)
			}
		}
	}
	for _, c := range [][2]int{{-1, 0}, {2, 0}, {0, -1}, {0, 3}, {1, 3}, {math.MinInt, 0}, {math.MaxInt, 0}, {0, math.MinInt}, {1, math.MaxInt}} {
		if s, ok := impl.DiskRead(d, c[0], c[1]); s != "" || ok {
			t.Error(c, s, ok)
		}
	}
}

func TestDiskWrite(t *testing.T) {
	d := impl.DiskOpen(3)
	var want []impl.DiskLate
	for _, w := range []impl.DiskLate{late(0, 0, "a"), late(1, 2, "b"), late(1, 2, ""), late(0, 0, strings.Repeat("x", impl.DiskMaxText))} {
		var ok bool
		d, ok = impl.DiskWrite(d, w.Side, w.At, w.Text)
		want = append(want, w)
		if !ok || !sameDisk(d, diskOf(make([]string, 3), make([]string, 3), want...)) {
			t.Fatal(w, ok, d)
		}
	}
}

func TestDiskWriteRefuses(t *testing.T) {
	d := diskOf([]string{"a", "b"}, []string{"c", "d"}, late(0, 1, "e"))
	for _, w := range []impl.DiskLate{
		late(-1, 0, "x"), late(2, 0, "x"), late(0, -1, "x"), late(0, 2, "x"), late(1, 2, "x"), late(math.MinInt, math.MaxInt, "x"), late(0, math.MaxInt, "x"),
		late(0, 0, strings.Repeat("x", impl.DiskMaxText+1)), late(2, 2, strings.Repeat("x", 5000)),
	} {
		if x, ok := impl.DiskWrite(d, w.Side, w.At, w.Text); ok || !sameDisk(x, d) {
			t.Errorf("side %d, sector %d, %d bytes: %v %v", w.Side, w.At, len(w.Text), ok, x)
		}
	}
}

func TestDiskWriteUpToTheMostLateWrites(t *testing.T) {
	d := diskOf([]string{""}, []string{""}, lates(impl.DiskMaxLate-1)...)
	d, ok := impl.DiskWrite(d, 1, 0, "last")
	if s, there := impl.DiskRead(d, 1, 0); !ok || len(d.Late) != impl.DiskMaxLate || s != "last" || !there {
		t.Fatal(ok, len(d.Late), s, there)
	}
	x, ok := impl.DiskWrite(d, 1, 0, "one more")
	if ok || !sameDisk(x, d) {
		t.Error(ok, len(x.Late))
	}
	if _, ok := impl.DiskWrite(impl.DiskFlush(d), 1, 0, "one more"); !ok {
		t.Error("a flush makes no room")
	}
}

func TestDiskFlush(t *testing.T) {
	d := diskOf([]string{"a", "b", "c"}, []string{"d", "e", "f"}, late(0, 1, "first"), late(1, 2, "other"), late(0, 1, "2"), late(1, 0, ""))
	want := diskOf([]string{"a", "2", "c"}, []string{"", "e", "other"})
	if f := impl.DiskFlush(d); !sameDisk(f, want) || !sameDisk(impl.DiskFlush(f), want) {
		t.Error(f)
	}
}

func TestDiskFallOfOneWrite(t *testing.T) {
	most := strings.Repeat("m", impl.DiskMaxText)
	for _, c := range []struct {
		name string
		old  string
		text string
		fate []int
		want string
	}{
		{"lost", "abcd", "1234", []int{impl.DiskLost}, "abcd"},
		{"kept", "abcd", "12", []int{impl.DiskKept}, "12"},
		{"kept, nothing", "abcd", "", []int{impl.DiskKept}, ""},
		{"torn over a shorter text", "ab", "123456", []int{impl.DiskTorn}, "123"},
		{"torn over as many bytes as half", "abc", "123456", []int{impl.DiskTorn}, "123"},
		{"torn over one byte more than half", "abcd", "123456", []int{impl.DiskTorn}, "123d"},
		{"torn over an equally long text", "abcdef", "123456", []int{impl.DiskTorn}, "123def"},
		{"torn over a longer text", "abcdefgh", "1234", []int{impl.DiskTorn}, "12cdefgh"},
		{"torn over nothing", "", "1234", []int{impl.DiskTorn}, "12"},
		{"half of five", "abcdef", "12345", []int{impl.DiskTorn}, "12cdef"},
		{"half of three", "abc", "123", []int{impl.DiskTorn}, "1bc"},
		{"half of one", "abc", "1", []int{impl.DiskTorn}, "abc"},
		{"half of one over nothing", "", "1", []int{impl.DiskTorn}, ""},
		{"half of nothing", "abc", "", []int{impl.DiskTorn}, "abc"},
		{"half of the longest", most, strings.Repeat("n", impl.DiskMaxText), []int{impl.DiskTorn}, strings.Repeat("n", 210) + most[210:]},
		{"bytes, not characters", "abcdef", "\xc3\xbc\xc3", []int{impl.DiskTorn}, "\xc3bcdef"},
		{"no fate", "abcd", "1234", nil, "abcd"},
		{"empty fate", "abcd", "1234", []int{}, "abcd"},
		{"longer fate", "abcd", "1234", []int{impl.DiskKept, impl.DiskLost, impl.DiskTorn}, "1234"},
		{"longer fate that starts with lost", "abcd", "1234", []int{impl.DiskLost, impl.DiskKept, impl.DiskTorn}, "abcd"},
		{"3", "abcd", "1234", []int{3}, "abcd"},
		{"-1", "abcd", "1234", []int{-1}, "abcd"},
		{"257", "abcd", "1234", []int{257}, "abcd"},
		{"least number", "abcd", "1234", []int{math.MinInt}, "abcd"},
		{"greatest number", "abcd", "1234", []int{math.MaxInt}, "abcd"},
	} {
		for side := range 2 {
			d := diskOf([]string{"p", c.old}, []string{"q", c.old}, late(side, 1, c.text))
			want := diskOf([]string{"p", c.old}, []string{"q", c.old})
			want.Sides[side][1] = c.want
			if x := impl.DiskFall(d, c.fate); !sameDisk(x, want) {
				t.Errorf("%s, side %d: %v", c.name, side, x)
			}
		}
	}
}

func TestDiskFallOfTwoWritesToOneSector(t *testing.T) {
	lost, kept, torn := impl.DiskLost, impl.DiskKept, impl.DiskTorn
	d := diskOf([]string{"abcdefgh"}, []string{"z"}, late(0, 0, "123456"), late(0, 0, "ABCD"))
	for _, c := range []struct {
		fate []int
		want string
	}{
		{[]int{lost, lost}, "abcdefgh"},
		{[]int{lost, kept}, "ABCD"},
		{[]int{lost, torn}, "ABcdefgh"},
		{[]int{kept, lost}, "123456"},
		{[]int{kept, kept}, "ABCD"},
		{[]int{kept, torn}, "AB3456"},
		{[]int{torn, lost}, "123defgh"},
		{[]int{torn, kept}, "ABCD"},
		{[]int{torn, torn}, "AB3defgh"},
		{[]int{kept}, "123456"},
		{[]int{torn}, "123defgh"},
		{nil, "abcdefgh"},
		{[]int{7, torn, torn}, "ABcdefgh"},
	} {
		if x := impl.DiskFall(d, c.fate); !sameDisk(x, diskOf([]string{c.want}, []string{"z"})) {
			t.Errorf("%v: %v", c.fate, x)
		}
	}
}

func TestDiskRot(t *testing.T) {
	d := diskOf([]string{"abc", ""}, []string{"xyz", "\x00\xff"}, late(0, 0, "written"), late(1, 1, "too"))
	for _, c := range []struct {
		side, at, k, mask int
		want              string
	}{
		{0, 0, 0, 1, "`bc"},
		{0, 0, 1, 3, "aac"},
		{0, 0, 2, 255, "ab\x9c"},
		{1, 0, 2, 128, "xy\xfa"},
		{1, 1, 0, 255, "\xff\xff"},
		{1, 1, 1, 255, "\x00\x00"},
	} {
		want := ownDisk(d)
		want.Sides[c.side][c.at] = c.want
		x := impl.DiskRot(d, c.side, c.at, c.k, c.mask)
		if !sameDisk(x, want) {
			t.Errorf("%+v: %v", c, x)
		}
		if y := impl.DiskRot(x, c.side, c.at, c.k, c.mask); !sameDisk(y, d) {
			t.Errorf("twice %+v: %v", c, y)
		}
	}
}

func TestDiskRotChangesNothing(t *testing.T) {
	d := diskOf([]string{"abc", ""}, []string{"xyz", "12"}, late(0, 0, "longer than abc"), late(0, 1, "written"))
	for _, c := range [][4]int{
		{0, 0, 3, 1}, {0, 0, 4, 1}, {0, 0, -1, 1}, {0, 1, 0, 1}, {1, 1, 2, 1}, {0, 0, math.MaxInt, 1}, {0, 0, math.MinInt, 1},
		{0, 0, 0, 0}, {0, 0, 0, 256}, {0, 0, 0, 257}, {0, 0, 0, -1}, {0, 0, 0, math.MaxInt}, {0, 0, 0, math.MinInt},
		{-1, 0, 0, 1}, {2, 0, 0, 1}, {0, -1, 0, 1}, {0, 2, 0, 1}, {1, 2, 0, 1}, {math.MaxInt, math.MinInt, 0, 1},
	} {
		if x := impl.DiskRot(d, c[0], c[1], c[2], c[3]); !sameDisk(x, d) {
			t.Errorf("%v: %v", c, x)
		}
	}
}

func TestDisksThatAreNotValid(t *testing.T) {
	for name, d := range badDisks() {
		if s, ok := impl.DiskRead(d, 0, 0); s != "" || ok {
			t.Errorf("%s: read %q %v", name, s, ok)
		}
		if x, ok := impl.DiskWrite(d, 0, 0, "a"); !sameDisk(x, impl.Disk{}) || ok {
			t.Errorf("%s: write %v %v", name, x, ok)
		}
		if x, ok := impl.DiskWrite(d, 5, -5, strings.Repeat("a", 500)); !sameDisk(x, impl.Disk{}) || ok {
			t.Errorf("%s: refused write %v %v", name, x, ok)
		}
		if x := impl.DiskFlush(d); !sameDisk(x, impl.Disk{}) {
			t.Errorf("%s: flush %v", name, x)
		}
		if x := impl.DiskFall(d, []int{impl.DiskKept}); !sameDisk(x, impl.Disk{}) {
			t.Errorf("%s: fall %v", name, x)
		}
		if x := impl.DiskRot(d, 0, 0, 0, 0); !sameDisk(x, impl.Disk{}) {
			t.Errorf("%s: rot %v", name, x)
		}
	}
}

// readAll is what is read of all sectors, which must all be there.
func readAll(t *testing.T, d impl.Disk) [2][]string {
	t.Helper()
	var all [2][]string
	for side := range d.Sides {
		for at := range d.Sides[side] {
			s, ok := impl.DiskRead(d, side, at)
			if !ok {
				t.Fatalf("sector %d of side %d isn't read", at, side)
			}
			all[side] = append(all[side], s)
		}
	}
	return all
}

// sameSides compares what was read of two disks.
func sameSides(a [2][]string, b [2][]string) bool {
	return slices.Equal(a[0], b[0]) && slices.Equal(a[1], b[1])
}

// unwritten checks that a power failure leaves the sectors without late writes as they were.
func unwritten(t *testing.T, d impl.Disk, fate []int) {
	t.Helper()
	x := impl.DiskFall(d, fate)
	if !impl.DiskOk(x) || len(x.Late) != 0 || len(x.Sides[0]) != len(d.Sides[0]) {
		t.Fatal("no disk without late writes:", x)
	}
	for side := range d.Sides {
		for at, old := range d.Sides[side] {
			written := slices.ContainsFunc(d.Late, func(w impl.DiskLate) bool { return w.Side == side && w.At == at })
			if s, _ := impl.DiskRead(x, side, at); !written && s != old {
				t.Fatalf("sector %d of side %d: %q, not %q", at, side, s, old)
			}
		}
	}
}

// Promise 2, held against the texts that were written last.
func TestDiskKeepsWhatIsWritten(t *testing.T) {
	r := rand.New(rand.NewPCG(2, 2))
	for range 60 {
		n := 1 + r.IntN(6)
		d := impl.DiskOpen(n)
		model := [2][]string{make([]string, n), make([]string, n)}
		for range 60 {
			switch r.IntN(8) {
			case 0:
				d = impl.DiskFlush(d)
				if len(d.Late) != 0 || !sameSides(model, d.Sides) {
					t.Fatal("a flush loses something:", d, model)
				}
			case 1:
				fate := make([]int, r.IntN(len(d.Late)+3))
				for i := range fate {
					fate[i] = r.IntN(5) - 1
				}
				unwritten(t, d, fate)
				d = impl.DiskFall(d, fate)
				model = readAll(t, d)
			default:
				side, at, text := r.IntN(2), r.IntN(n), someText(r, r.IntN(9))
				var ok bool
				if d, ok = impl.DiskWrite(d, side, at, text); !ok {
					t.Fatal("refused", d)
				}
				model[side][at] = text
			}
			if !impl.DiskOk(d) || !sameSides(model, readAll(t, d)) {
				t.Fatal(d, model)
			}
		}
	}
}

// roomyDisk is a disk whose lists have room beyond their length, with the rooms themselves.
func roomyDisk() (d impl.Disk, rooms [2][]string, spare []impl.DiskLate) {
	rooms = [2][]string{{"abc", "def", "beyond 0"}, {"ghi", "jkl", "beyond 1"}}
	spare = []impl.DiskLate{late(0, 1, "late"), late(1, 0, "later"), late(7, 7, "beyond")}
	return diskOf(rooms[0][:2], rooms[1][:2], spare[:2]...), rooms, spare
}

// spoil overwrites a disk's lists, all of what they have room for.
func spoil(d impl.Disk) {
	for _, sectors := range d.Sides {
		for i := range sectors[:cap(sectors)] {
			sectors[:cap(sectors)][i] = "spoilt"
		}
	}
	for i := range d.Late[:cap(d.Late)] {
		d.Late[:cap(d.Late)][i] = late(9, 9, "spoilt")
	}
}

// diskCalls is each function that returns a disk, also where it returns its argument.
func diskCalls() map[string]func(d impl.Disk) impl.Disk {
	write := func(side int, at int, text string) func(d impl.Disk) impl.Disk {
		return func(d impl.Disk) impl.Disk {
			x, _ := impl.DiskWrite(d, side, at, text)
			return x
		}
	}
	return map[string]func(d impl.Disk) impl.Disk{
		"write":         write(1, 1, "new"),
		"refused write": write(1, 2, "new"),
		"flush":         impl.DiskFlush,
		"fall":          func(d impl.Disk) impl.Disk { return impl.DiskFall(d, []int{impl.DiskTorn, impl.DiskKept}) },
		"lost":          func(d impl.Disk) impl.Disk { return impl.DiskFall(d, nil) },
		"rot":           func(d impl.Disk) impl.Disk { return impl.DiskRot(d, 0, 1, 2, 1) },
		"refused rot":   func(d impl.Disk) impl.Disk { return impl.DiskRot(d, 0, 1, 3, 1) },
	}
}

func TestDisksShareNoMemory(t *testing.T) {
	sharesNoMemory(t, diskCalls())
}

// sharesNoMemory checks that the disk that a call returns shares no list with its argument or with another result.
func sharesNoMemory(t *testing.T, calls map[string]func(d impl.Disk) impl.Disk) {
	t.Helper()
	for name, call := range calls {
		d, rooms, spare := roomyDisk()
		x := call(d)
		other := call(d)
		want := ownDisk(other)
		spoil(x)
		if _, fresh, late := roomyDisk(); !sameSides(rooms, fresh) || !slices.Equal(spare, late) {
			t.Errorf("%s: the argument has changed: %v %v", name, rooms, spare)
		}
		if !sameDisk(other, want) {
			t.Errorf("%s: two results share memory: %v", name, other)
		}
		spoil(d)
		if !sameDisk(other, want) {
			t.Errorf("%s: the result changes with the argument: %v", name, other)
		}
	}
}

func TestSidesShareNoMemory(t *testing.T) {
	d := impl.DiskOpen(3)
	spoil(impl.Disk{Sides: [2][]string{d.Sides[0], nil}})
	if !slices.Equal(d.Sides[1], make([]string, 3)) {
		t.Error(d.Sides[1])
	}
	if !sameDisk(impl.DiskOpen(3), diskOf(make([]string, 3), make([]string, 3))) {
		t.Error("a new disk isn't empty")
	}
	sidesShareNoMemory(t, diskCalls())
}

// sidesShareNoMemory checks that the two sides of the disk that a call returns share no list.
func sidesShareNoMemory(t *testing.T, calls map[string]func(d impl.Disk) impl.Disk) {
	t.Helper()
	for name, call := range calls {
		d, _, _ := roomyDisk()
		x := call(d)
		want := slices.Clone(x.Sides[1])
		spoil(impl.Disk{Sides: [2][]string{x.Sides[0], nil}})
		if !slices.Equal(x.Sides[1], want) {
			t.Errorf("%s: the sides share memory", name)
		}
	}
}

func TestDiskFallLeavesItsFate(t *testing.T) {
	d, _, _ := roomyDisk()
	room := []int{impl.DiskTorn, impl.DiskKept, 77}
	impl.DiskFall(d, room[:1])
	if !slices.Equal(room, []int{impl.DiskTorn, impl.DiskKept, 77}) {
		t.Error(room)
	}
	if x := impl.DiskFall(d, room[:1]); x.Sides[1][0] != "ghi" {
		t.Error("a fate beyond the length counts:", x)
	}
}
