package tests

import (
	"encoding/hex"
	"math"
	"math/rand/v2"
	"regexp"
	"slices"
	"strconv"
	"strings"
	"testing"
	"unsafe"

	"loop.example/palim/impl"
)

// puts is the operation that sets a block.
func puts(a string, i int, text string) impl.BookOp {
	return impl.BookOp{Kind: impl.BookPuts, A: a, I: i, Text: text}
}

// recOf is a record.
func recOf(txg int, seq int, op impl.BookOp) impl.LogRec {
	return impl.LogRec{Txg: txg, Seq: seq, Op: op}
}

// recWords is a record of these words, whatever they are, with the right sum.
func recWords(words ...string) string {
	return sealedByHand(strings.Join(words, " "))
}

// goodOp says by hand whether an operation has a record.
func goodOp(op impl.BookOp) bool {
	named := len(op.A) >= 1 && len(op.A) <= 6 && strings.Trim(op.A, "abcdefghijklmnopqrstuvwxyz") == ""
	return op.Kind == 3 && named && op.B == "" && op.I >= 0 && op.I < 8 && len(op.Text) <= 24
}

// goodRec says by hand whether a record has a text.
func goodRec(r impl.LogRec) bool {
	return r.Txg >= 1 && r.Txg <= 1000000 && r.Seq >= 0 && r.Seq < 8 && goodOp(r.Op)
}

// recText is the text of a record by hand; empty, if it has none.
func recText(r impl.LogRec) string {
	if !goodRec(r) {
		return ""
	}
	mark, digits := strconv.Itoa(r.Txg)+"."+strconv.Itoa(r.Seq), "-"
	if r.Op.Text != "" {
		digits = hex.EncodeToString([]byte(r.Op.Text))
	}
	return recWords(mark, r.Op.A, strconv.Itoa(r.Op.I), digits, mark)
}

// recShape is what a record looks like, but for its checksum and the greatest commit number.
var recShape = regexp.MustCompile(`^([1-9][0-9]{0,6})\.([0-7]) ([a-z]{1,6}) ([0-7]) (-|(?:[0-9a-f]{2}){1,24}) ([1-9][0-9]{0,6}\.[0-7])$`)

// recByHand is the record that a text tells.
func recByHand(text string) (impl.LogRec, bool) {
	_, line, _ := strings.Cut(text, ":")
	m := recShape.FindStringSubmatch(line)
	if m == nil || sealedByHand(line) != text || m[6] != m[1]+"."+m[2] {
		return impl.LogRec{}, false
	}
	txg, _ := strconv.Atoi(m[1])
	seq, _ := strconv.Atoi(m[2])
	i, _ := strconv.Atoi(m[4])
	bytes, _ := hex.DecodeString(strings.TrimSuffix(m[5], "-"))
	if txg > 1000000 {
		return impl.LogRec{}, false
	}
	return recOf(txg, seq, puts(m[3], i, string(bytes))), true
}

// readsRec says whether a text is a record, and fails unless LogRead says the same.
func readsRec(t *testing.T, text string) bool {
	t.Helper()
	want, there := recByHand(text)
	if r, ok := impl.LogRead(text); ok != there || r != want {
		t.Errorf("LogRead of %.120q: %+v %v", text, r, ok)
	}
	return there
}

// goodRecs is records by their texts; the sums were worked out by another program.
func goodRecs() map[string]impl.LogRec {
	return map[string]impl.LogRec{
		"59669:3.0 v 2 6120 3.0":                           recOf(3, 0, puts("v", 2, "a ")),
		"34002:1.0 a 0 - 1.0":                              recOf(1, 0, puts("a", 0, "")),
		"65445:9.1 v 3 2d 9.1":                             recOf(9, 1, puts("v", 3, "-")),
		"23092:10.2 set 1 20 10.2":                         recOf(10, 2, puts("set", 1, " ")),
		"57772:77.3 b 4 332e3020762032 77.3":               recOf(77, 3, puts("b", 4, "3.0 v 2")),
		"19284:12.4 c 5 31323a630d0a 12.4":                 recOf(12, 4, puts("c", 5, "12:c\r\n")),
		"31631:5.5 d 6 00 5.5":                             recOf(5, 5, puts("d", 6, "\x00")),
		"15106:6.6 efg 0 6772c3bc6e 6.6":                   recOf(6, 6, puts("efg", 0, "gr\xc3\xbcn")),
		"61636:2.7 v 1 c32880 2.7":                         recOf(2, 7, puts("v", 1, "\xc3(\x80")),
		"35460:4.0 x 0 414243444546abcdef 4.0":             recOf(4, 0, puts("x", 0, "ABCDEF\xab\xcd\xef")),
		"51127:1.1 a 0 " + upToN + " 1.1":                  recOf(1, 1, puts("a", 0, "0123456789abcdefghijklmn")),
		"34343:1000000.7 zzzzzz 7 " + mostF + " 1000000.7": recOf(impl.BlkMaxBirth, 7, puts("zzzzzz", 7, strings.Repeat("\xff", 24))),
	}
}

// The digits of two blocks of as many bytes as one may have.
const (
	upToN = "303132333435363738396162636465666768696a6b6c6d6e"
	mostF = "ffffffffffffffffffffffffffffffffffffffffffffffff"
)

// logTexts is texts of blocks, those at the limits among them.
func logTexts() []string {
	texts := []string{"", "-", "--", " ", "  ", ".", ":", ",", "\n", "\r\n", "\x00", "\xff", "a", "A", "0", "00", "7", "a b", " a", "a ", "1.0", "1.0 a 0 - 1.0", "612:a", "2d", "\xc3\xbc", "\xbc\xc3", "\xef\xbb\xbf", "\xf0\x9f\x98\x80"}
	for n := range impl.BookMaxText + 1 {
		texts = append(texts, strings.Repeat("m", n), strings.Repeat(" ", n), strings.Repeat("-", n), strings.Repeat("\xfe", n))
	}
	for b := range 256 {
		texts = append(texts, string([]byte{byte(b)}), string([]byte{'a', byte(b), 'z'}))
	}
	return texts
}

// badOps is operations that have no record.
func badOps() map[string]impl.BookOp {
	ops := map[string]impl.BookOp{
		"zero value":         {},
		"index -1":           puts("v", -1, "a"),
		"index 8":            puts("v", impl.BookBlocks, "a"),
		"index 10":           puts("v", 10, "a"),
		"least index":        puts("v", math.MinInt, "a"),
		"greatest index":     puts("v", math.MaxInt, "a"),
		"256 as an index":    puts("v", 256, "a"),
		"one byte too many":  puts("v", 0, strings.Repeat("a", impl.BookMaxText+1)),
		"two bytes too many": puts("v", 0, strings.Repeat("\xff", impl.BookMaxText+2)),
		"13 letters of two":  puts("v", 0, strings.Repeat("\xc3\xbc", 13)),
		"far too many bytes": puts("v", 0, strings.Repeat("a", 5000)),
		"all bytes":          puts("v", 0, allBytes()),
	}
	for _, kind := range []int{math.MinInt, -3, -1, 0, impl.BookMakes, impl.BookKills, impl.BookSnaps, impl.BookClones, impl.BookGoes, 7, 259, math.MaxInt} {
		op := puts("v", 0, "a")
		op.Kind = kind
		ops["kind "+strconv.Itoa(kind)] = op
	}
	for _, name := range badNames() {
		ops["name "+strconv.Quote(name)] = puts(name, 0, "a")
	}
	for _, b := range append([]string{"v", "w", "abcdef"}, badNames()...) {
		op := puts("v", 0, "a")
		if op.B = b; b != "" {
			ops["second name "+strconv.Quote(b)] = op
		}
	}
	return ops
}

func TestLogLimits(t *testing.T) {
	if impl.CoreLog != 5 || impl.CoreLogs != 8 || impl.BlkMaxBirth != 1000000 || impl.BookBlocks != 8 || impl.BookMaxText != 24 || impl.BookPuts != 3 {
		t.Error(impl.CoreLog, impl.CoreLogs, impl.BlkMaxBirth, impl.BookBlocks, impl.BookMaxText, impl.BookPuts)
	}
}

func TestLogText(t *testing.T) {
	for text, r := range goodRecs() {
		if s := impl.LogText(r); s != text {
			t.Errorf("%+v: %q", r, s)
		}
	}
	for _, text := range logTexts() {
		for i := range impl.BookBlocks {
			if r := recOf(1+i, i, puts("v", i, text)); impl.LogText(r) != recText(r) || recText(r) == "" {
				t.Errorf("%+v: %q", r, impl.LogText(r))
			}
		}
	}
}

// Each field is written up to its limits and no further.
func TestLogTextLimits(t *testing.T) {
	for txg, there := range map[int]bool{
		math.MinInt: false, -1000000: false, -1: false, 0: false, 1: true, 2: true, 9: true, 10: true, 999999: true,
		impl.BlkMaxBirth: true, impl.BlkMaxBirth + 1: false, 4294967297: false, math.MaxInt: false,
	} {
		r := recOf(txg, 0, puts("v", 0, "a"))
		if s := impl.LogText(r); (s != "") != there || s != recText(r) {
			t.Errorf("commit %d: %q", txg, s)
		}
	}
	for seq, there := range map[int]bool{
		math.MinInt: false, -8: false, -1: false, 0: true, 1: true, 6: true, impl.CoreLogs - 1: true, impl.CoreLogs: false, 9: false, 10: false, 256: false, math.MaxInt: false,
	} {
		r := recOf(1, seq, puts("v", 0, "a"))
		if s := impl.LogText(r); (s != "") != there || s != recText(r) {
			t.Errorf("number %d: %q", seq, s)
		}
	}
	for i := -20; i < 30; i++ {
		r := recOf(1, 0, puts("v", i, "a"))
		if s := impl.LogText(r); (s != "") != (i >= 0 && i < impl.BookBlocks) || s != recText(r) {
			t.Errorf("block %d: %q", i, s)
		}
	}
	for n := range 60 {
		r := recOf(1, 0, puts("v", 0, strings.Repeat("\xff", n)))
		if s := impl.LogText(r); (s != "") != (n <= impl.BookMaxText) || s != recText(r) {
			t.Errorf("%d bytes: %q", n, s)
		}
	}
	for n := range 20 {
		r := recOf(1, 0, puts(strings.Repeat("z", n), 0, "a"))
		if s := impl.LogText(r); (s != "") != (n >= 1 && n <= 6) || s != recText(r) {
			t.Errorf("a name of %d letters: %q", n, s)
		}
	}
}

func TestLogTextRefuses(t *testing.T) {
	for name, op := range badOps() {
		for _, r := range []impl.LogRec{recOf(1, 0, op), recOf(impl.BlkMaxBirth, 7, op), recOf(0, -1, op)} {
			if s := impl.LogText(r); s != "" {
				t.Errorf("%s: %q", name, s)
			}
		}
	}
	if s := impl.LogText(impl.LogRec{}); s != "" {
		t.Errorf("zero value: %q", s)
	}
}

// someRec is a valid record.
func someRec(r *rand.Rand) impl.LogRec {
	name := make([]byte, 1+r.IntN(6))
	for i := range name {
		name[i] = byte('a' + r.IntN(26))
	}
	most := []int{9, 99, 12345, impl.BlkMaxBirth}[r.IntN(4)]
	return recOf(1+r.IntN(most), r.IntN(impl.CoreLogs), puts(string(name), r.IntN(impl.BookBlocks), someText(r, r.IntN(impl.BookMaxText+1))))
}

// Promise 12: records are read back from their texts.
func TestLogReadsWhatWasWritten(t *testing.T) {
	for text, want := range goodRecs() {
		if r, ok := impl.LogRead(text); !ok || r != want || !readsRec(t, text) {
			t.Errorf("%q: %+v %v", text, r, ok)
		}
	}
	for _, text := range logTexts() {
		want := recOf(impl.BlkMaxBirth, 7, puts("abcdef", 7, text))
		if r, ok := impl.LogRead(impl.LogText(want)); !ok || r != want {
			t.Errorf("%q: %+v %v", text, r, ok)
		}
	}
	r := rand.New(rand.NewPCG(9, 12))
	for range 5000 {
		want := someRec(r)
		text := impl.LogText(want)
		if x, ok := impl.LogRead(text); !ok || x != want || !readsRec(t, text) {
			t.Fatalf("%q: %+v %v", text, x, ok)
		}
	}
}

// Two records that differ have different texts.
func TestLogTextsDiffer(t *testing.T) {
	recs := map[string]impl.LogRec{}
	for _, txg := range []int{1, 10, 11, 111} {
		for _, seq := range []int{0, 1} {
			for _, a := range []string{"a", "aa", "b"} {
				for _, i := range []int{0, 1} {
					for _, text := range []string{"", "-", "\x00", "\x00\x00", " ", "1", "a"} {
						r := recOf(txg, seq, puts(a, i, text))
						s := impl.LogText(r)
						if other, there := recs[s]; there || s == "" {
							t.Errorf("%q: %+v and %+v", s, r, other)
						}
						recs[s] = r
					}
				}
			}
		}
	}
}

// otherRecs is texts that are no records.
func otherRecs() []string {
	texts := []string{
		"", " ", "-", ":", "0:", "1:", "3.0 v 2 6120 3.0", ":3.0 v 2 6120 3.0", "59670:3.0 v 2 6120 3.0", "0:3.0 v 2 6120 3.0", "059669:3.0 v 2 6120 3.0", "+59669:3.0 v 2 6120 3.0", "-59669:3.0 v 2 6120 3.0",
		"125190:3.0 v 2 6120 3.0", " 59669:3.0 v 2 6120 3.0", "59669 :3.0 v 2 6120 3.0", "59669: 3.0 v 2 6120 3.0", "59669:3.0 v 2 6120 3.0 ", "59669:3.0 v 2 6120 3.0\n", "59669:3.0 v 2 6120 3.0\x00", "59669:3.0 w 2 6120 3.0",
		"59669::3.0 v 2 6120 3.0", "59669:3.0 v 2 6120 3.", "59669:3.0 v 2 6120", "59669:", "59669", "612:a", "60041:7 14.9.7 7", "root", "- - - - - - - -",
		impl.SumSeal(""), impl.SumSeal(" "), impl.SumSeal("    "), impl.SumSeal(recText(recOf(3, 0, puts("v", 2, "a ")))), strings.Repeat("7", 5000),
		recWords("3.0  v 2 6120 3.0"), recWords("3.0 v  2 6120 3.0"), recWords("3.0 v 2  6120 3.0"), recWords("3.0 v 2 6120  3.0"), recWords(" 3.0 v 2 6120 3.0"), recWords("3.0 v 2 6120 3.0 "), recWords("3.0 v 2 6120 3.0\n"), recWords("3.0 v 2 6120 3.0\x00"),
		recWords("3.0\tv\t2\t6120\t3.0"), recWords("3.0\nv\n2\n6120\n3.0"), recWords("3.0 v 2 61 20 3.0"), recWords("3.0v 2 6120 3.0"), recWords("3.0 v2 6120 3.0"), recWords("3.0 v 26120 3.0"), recWords("3.0 v 2 61203.0"), recWords("3.0.v.2.6120.3.0"),
		recWords("3.0"), recWords("3.0", "v"), recWords("3.0", "v", "2"), recWords("3.0", "v", "2", "6120"), recWords("v", "2", "6120", "3.0"), recWords("3.0", "2", "6120", "3.0"), recWords("3.0", "v", "6120", "3.0"), recWords("3.0", "v", "2", "3.0"),
		recWords("3.0", "v", "2", "6120", "3.0", "3.0"), recWords("3.0", "v", "2", "6120", "61", "3.0"), recWords("3.0", "v", "w", "2", "6120", "3.0"), recWords("3.0", "v", "2", "6120", "3.0", ""), recWords("", "3.0", "v", "2", "6120", "3.0"),
		recWords("3.0", "2", "v", "6120", "3.0"), recWords("3.0", "v", "6120", "2", "3.0"), recWords("v", "3.0", "2", "6120", "3.0"), recWords("3.0", "v", "2", "3.0", "6120"),
		recWords("3 0 v 2 6120 3 0"), recWords("3.0", "v", "2", "6120", "v", "3.0"), recWords("", "", "", "", ""), recWords("-", "-", "-", "-", "-"),
		sealedByHand(strings.Repeat("3.0 v 2 6120 3.0", 30)), sealedByHand(strings.Repeat("0", 400) + "3.0 v 2 6120 3.0"), recWords("3.0", strings.Repeat("v", 400), "2", "6120", "3.0"),
	}
	for _, name := range badNames() {
		texts = append(texts, recWords("3.0", name, "2", "6120", "3.0"))
	}
	for _, i := range badNumbers() {
		texts = append(texts, recWords("3.0", "v", i, "6120", "3.0"))
	}
	for _, digits := range []string{
		"", "--", "-61", "61-", "- ", "6", "612", "61202", "6120-", "6 20", "612g", "g1", "6G", "6D", "C3", "c3BC", "AB", "aB", "Ab", "FF", "0x61", "+6", "-6", "6.", "..", "\\x", "6\x00", "\x00\x00", "\xc3\xbc", "\xff", "\u0661\u0662", "61,20", "61\n20", "\n",
		strings.Repeat("a", 49), strings.Repeat("a", 50), strings.Repeat("6d", 25), strings.Repeat("6d", 100), strings.Repeat("-", 48),
	} {
		texts = append(texts, recWords("3.0", "v", "2", digits, "3.0"))
	}
	return texts
}

// badNumbers is words that are no index of a block.
func badNumbers() []string {
	return []string{
		"", "-", "x", "v", "02", "002", "+2", "-2", "-0", "+0", "00", "-1", "8", "9", "10", "22", "256", "258", "2.", "2.0", ".2", "2,", "2e0", "0x2", "2_", "1_0", "\x02", "\xb2", "\u0662", "2\n", "2\x00", "two",
		"4294967298", "9223372036854775807", "9223372036854775808", "9223372036854775810", "18446744073709551618", "-18446744073709551614", strings.Repeat("9", 150), strings.Repeat("0", 150) + "2",
	}
}

// Promise 12: nothing else is read.
func TestLogReadRefusesOtherTexts(t *testing.T) {
	for _, text := range otherRecs() {
		if readsRec(t, text) {
			t.Errorf("%.120q is a record", text)
		}
	}
}

// The marks have to be one, and of a commit and a number that there may be.
func TestLogReadOfMarks(t *testing.T) {
	numbers := []int{-1, 0, 1, 2, 3, 7, 8, 9, 10, 30, 33, 77, 100, impl.BlkMaxBirth - 1, impl.BlkMaxBirth, impl.BlkMaxBirth + 1, 10 * impl.BlkMaxBirth, 4294967297, math.MaxInt, math.MinInt}
	var marks []string
	for _, txg := range numbers {
		for _, seq := range numbers {
			marks = append(marks, strconv.Itoa(txg)+"."+strconv.Itoa(seq))
		}
	}
	for _, a := range []string{"", "-", "x", "03", "003", "+3", "-3", "-0", "3.", "3.0", ".3", " 3", "3 ", "3\n", "0x3", "3e0", "3,", "3_", "18446744073709551619", "9223372036854775808", strings.Repeat("9", 100), strings.Repeat("0", 100) + "3"} {
		marks = append(marks, a+".0", "3."+a, a, a+"."+a, a+".0.", a+"..0", a+":0", a+"-0", a+",0")
	}
	for _, mark := range marks {
		txg, seq, _ := strings.Cut(mark, ".")
		n, _ := strconv.Atoi(txg)
		k, _ := strconv.Atoi(seq)
		there := n >= 1 && n <= impl.BlkMaxBirth && k >= 0 && k < impl.CoreLogs && mark == strconv.Itoa(n)+"."+strconv.Itoa(k)
		if readsRec(t, recWords(mark, "v", "2", "6120", mark)) != there {
			t.Errorf("%q twice", mark)
		}
		if other := "3.0"; mark != other && (readsRec(t, recWords(mark, "v", "2", "6120", other)) || readsRec(t, recWords(other, "v", "2", "6120", mark))) {
			t.Errorf("%q and %q", mark, other)
		}
	}
	good := []string{"3.0", "3.1", "4.0", "30.0", "13.0", "33.0", "3.7", "1000000.0", "1000000.7"}
	for _, a := range good {
		for _, b := range good {
			if readsRec(t, recWords(a, "v", "2", "-", b)) != (a == b) {
				t.Errorf("%q and %q", a, b)
			}
		}
	}
}

// Each field of a text is read up to its limits and no further.
func TestLogReadLimits(t *testing.T) {
	for txg := range 300 {
		for _, n := range []int{txg, impl.BlkMaxBirth - 100 + txg} {
			mark := strconv.Itoa(n) + ".5"
			if readsRec(t, recWords(mark, "v", "2", "-", mark)) != (n >= 1 && n <= impl.BlkMaxBirth) {
				t.Error(mark)
			}
		}
	}
	for i := range 300 {
		mark := "5." + strconv.Itoa(i)
		if readsRec(t, recWords(mark, "v", "2", "-", mark)) != (i < impl.CoreLogs) {
			t.Error(mark)
		}
		if readsRec(t, recWords("5.0", "v", strconv.Itoa(i), "-", "5.0")) != (i < impl.BookBlocks) {
			t.Error("block", i)
		}
		if readsRec(t, recWords("5.0", strings.Repeat("v", i), "1", "-", "5.0")) != (i >= 1 && i <= 6) {
			t.Error(i, "letters")
		}
		if readsRec(t, recWords("5.0", "v", "1", strings.Repeat("a", i), "5.0")) != (i%2 == 0 && i >= 2 && i <= 48) {
			t.Error(i, "digits")
		}
	}
}

func TestLogReadOfChangedTexts(t *testing.T) {
	for text := range goodRecs() {
		for _, s := range changedTexts(text) {
			if readsRec(t, s) != (s == text) {
				t.Errorf("%q from %q", s, text)
			}
		}
		// With the sum of the changed text, only the shape and the numbers tell.
		read := 0
		for _, s := range changedTexts(text[strings.Index(text, ":")+1:]) {
			if readsRec(t, sealedByHand(s)) {
				read++
			}
		}
		if read == 0 {
			t.Errorf("%q: none", text)
		}
	}
}

// No text of another layer is read as a record, and no record as one of those.
func TestRecordsAreNothingElse(t *testing.T) {
	for text := range goodRecs() {
		_, isMap := impl.CoreMapRead(text)
		_, isRoot := impl.CoreRootRead(text)
		_, _, isUber := impl.CoreUberRead(text)
		_, isList := impl.DdtRead(text)
		if isMap || isRoot || isUber || isList {
			t.Errorf("%q: %v %v %v %v", text, isMap, isRoot, isUber, isList)
		}
	}
	for text := range goodUbers() {
		if readsRec(t, text) {
			t.Errorf("%q", text)
		}
	}
}

// A record of which a part is written over an older one is neither of them, wherever it is torn.
func TestLogReadOfTornRecords(t *testing.T) {
	r := rand.New(rand.NewPCG(9, 13))
	for range 3000 {
		older, newer := someRec(r), someRec(r)
		newer.Seq = older.Seq
		if newer.Txg == older.Txg {
			continue
		}
		old, text := impl.LogText(older), impl.LogText(newer)
		d, _ := impl.BlkWrite(impl.DiskOpen(13), 5, old)
		d, _ = impl.BlkWrite(impl.DiskFlush(d), 5, text)
		d = impl.DiskFall(d, []int{impl.DiskTorn, impl.DiskKept})
		torn, _ := impl.DiskRead(d, 0, 5)
		if readsRec(t, torn) {
			t.Fatalf("%q of %q over %q", torn, text, old)
		}
		if kept, _ := impl.DiskRead(d, 1, 5); kept != text || !readsRec(t, kept) {
			t.Fatalf("%q is not %q", kept, text)
		}
		for i := range len(text) {
			s := text[:i] + old[min(i, len(old)):]
			if readsRec(t, s) && s != old && s != text {
				t.Fatalf("%q of %q over %q", s, text, old)
			}
		}
	}
	// The marks alone tell here: beginning and end have the right sum together.
	if readsRec(t, recWords("7.0", "v", "2", "6120", "3.0")) || readsRec(t, recWords("3.1", "v", "2", "6120", "3.0")) {
		t.Error("two records in one")
	}
}

// isPiece says whether a word shares the memory of a text.
func isPiece(word string, text string) bool {
	at, first := uintptr(unsafe.Pointer(unsafe.StringData(word))), uintptr(unsafe.Pointer(unsafe.StringData(text)))
	return word != "" && text != "" && at < first+uintptr(len(text)) && at+uintptr(len(word)) > first
}

func TestRecordsShareNoMemory(t *testing.T) {
	for _, want := range goodRecs() {
		text := impl.LogText(want)
		r, _ := impl.LogRead(text)
		x, _ := impl.LogRead(text)
		if isPiece(r.Op.A, text) || isPiece(r.Op.Text, text) || isPiece(text, want.Op.A) || isPiece(text, want.Op.Text) {
			t.Errorf("%+v is a piece of its text", r)
		}
		if isPiece(r.Op.A, x.Op.A) || len(r.Op.Text) > 1 && isPiece(r.Op.Text, x.Op.Text) {
			t.Errorf("two records that are read share memory: %+v", r)
		}
	}
}

// putByHand is what LogPut returns.
func putByHand(d impl.Disk, c impl.Core, op impl.BookOp) (impl.Disk, impl.Core, bool) {
	if !impl.DiskOk(d) || !coreByHand(c) {
		return impl.Disk{}, impl.Core{}, false
	}
	at, text := 5+c.LogN, recText(recOf(c.Txg, c.LogN, op))
	if text == "" || at >= len(d.Sides[0]) || len(d.Late) > 600-2 {
		return d, c, false
	}
	d, c = ownDisk(d), ownCore(c)
	d.Late = append(d.Late, late(0, at, text), late(1, at, text))
	c.LogN++
	return d, c, true
}

// logs fails unless LogPut returns what the document says, and says whether it wrote.
func logs(t *testing.T, name string, d impl.Disk, c impl.Core, op impl.BookOp) bool {
	t.Helper()
	wantDisk, wantCore, want := putByHand(d, c, op)
	x, core, ok := impl.LogPut(d, c, op)
	if ok != want || !sameCore(core, wantCore) || !sameDisk(x, wantDisk) {
		t.Errorf("%s: %v, not %v, LogN %d, not %d: %s", name, ok, want, core.LogN, wantCore.LogN, otherwise(x, wantDisk))
	}
	return want
}

// loggedOps is one operation for each slot, any two of which differ.
func loggedOps() []impl.BookOp {
	return []impl.BookOp{
		puts("v", 0, "one"), puts("v", 0, ""), puts("set", 7, "a b.c:d\n"), puts("w", 3, "\xff\x00\xfe"),
		puts("abcdef", 1, longestText()), puts("v", 0, "-"), puts("z", 5, "one"), puts("a", 6, " "),
	}
}

// Records are written to the slots in order, each to side 0 and then to side 1, until the log is full.
func TestLogPutFillsTheLog(t *testing.T) {
	d := wideDisk(60, late(1, 30, "late"))
	c := smallCore()
	c.LogN = 0
	start, first := ownDisk(d), ownCore(c)
	want := ownDisk(d)
	for seq, op := range loggedOps() {
		var ok bool
		d, c, ok = impl.LogPut(d, c, op)
		text := recText(recOf(5, seq, op))
		want.Late = append(want.Late, late(0, 5+seq, text), late(1, 5+seq, text))
		first.LogN = seq + 1
		if !ok || !sameDisk(d, want) || !sameCore(c, first) || !impl.CoreOk(c) || !impl.DiskOk(d) {
			t.Fatalf("record %d: %v %+v %s", seq, ok, c, otherwise(d, want))
		}
		if list := impl.LogFind(d, 5); !slices.Equal(list, loggedOps()[:seq+1]) {
			t.Fatalf("record %d: %+v", seq, list)
		}
	}
	if !sameDisk(impl.DiskFall(d, nil), impl.DiskFall(start, nil)) {
		t.Error("a record is not late")
	}
	for _, op := range loggedOps() {
		if x, core, ok := impl.LogPut(d, c, op); ok || !sameDisk(x, d) || !sameCore(core, c) {
			t.Errorf("a full log takes %+v: %+v %s", op, core, otherwise(x, d))
		}
	}
	// A commit begins the log anew.
	d, c, code := impl.CommitDo(d, c)
	d, c, ok := impl.LogPut(d, c, loggedOps()[3])
	if code != impl.BookDone || !ok || c.LogN != 1 || !slices.Equal(impl.LogFind(d, 6), loggedOps()[3:4]) || !slices.Equal(impl.LogFind(d, 5), nil) {
		t.Errorf("%d %v %+v %+v", code, ok, c, impl.LogFind(d, 6))
	}
}

// logCores is valid cores with each number of records, behind several commits.
func logCores() map[string]impl.Core {
	cores := map[string]impl.Core{}
	for name, c := range map[string]impl.Core{"zero value": {}, "small": smallCore(), "full": fullCore()} {
		for _, txg := range []int{0, 1, 5, impl.BlkMaxBirth} {
			for n := range impl.CoreLogs + 1 {
				c := ownCore(c)
				c.Txg, c.LogN = txg, n
				cores[name+", commit "+strconv.Itoa(txg)+", "+strconv.Itoa(n)+" records"] = c
			}
		}
	}
	return cores
}

func TestLogPut(t *testing.T) {
	for name, c := range logCores() {
		for _, op := range loggedOps() {
			there := c.Txg > 0 && c.LogN < impl.CoreLogs
			if logs(t, name+", "+strconv.Quote(op.Text), wideDisk(60, late(0, 5+c.LogN, "late")), c, op) != there {
				t.Error(name, "is no case")
			}
		}
	}
	wrote := 0
	for name, c := range goodCores() {
		for size, d := range goodDisks() {
			if logs(t, name+", "+size, d, c, puts("v", 0, "a")) {
				wrote++
			}
		}
	}
	if wrote == 0 {
		t.Error("never written")
	}
}

// An operation that has no record changes nothing.
func TestLogPutRefusesOperations(t *testing.T) {
	for name, op := range badOps() {
		for n := range impl.CoreLogs + 1 {
			c := smallCore()
			c.LogN = n
			d := wideDisk(60, late(0, 3, "late"))
			x, core, ok := impl.LogPut(d, c, op)
			if ok || !sameDisk(x, d) || !sameCore(core, c) || logs(t, name, d, c, op) {
				t.Errorf("%s, %d records: %v %+v %s", name, n, ok, core, otherwise(x, d))
			}
		}
	}
}

// A record is written to both sides or to none.
func TestLogPutNeedsLateWrites(t *testing.T) {
	for k := 590; k <= impl.DiskMaxLate; k++ {
		for _, n := range []int{0, 3, 7, 8} {
			c := smallCore()
			c.LogN = n
			if logs(t, strconv.Itoa(k)+" late writes", wideDisk(20, lates(k)...), c, puts("v", 0, "a")) != (k <= 598 && n < 8) {
				t.Error(k, n, "is no case")
			}
		}
	}
}

// A record is written only if its slot is a sector of the disk.
func TestLogPutNeedsItsSector(t *testing.T) {
	for n := 1; n <= 16; n++ {
		for k := range impl.CoreLogs + 1 {
			c := smallCore()
			c.LogN = k
			if logs(t, strconv.Itoa(n)+" sectors", wideDisk(n), c, puts("v", 0, "a")) != (k < 8 && n >= 6+k) {
				t.Error(n, k, "is no case")
			}
		}
	}
}

func TestLogPutRefusesWhatIsNotValid(t *testing.T) {
	nothing := func(name string, d impl.Disk, c impl.Core, op impl.BookOp) {
		if x, core, ok := impl.LogPut(d, c, op); ok || !sameDisk(x, impl.Disk{}) || !sameCore(core, impl.Core{}) {
			t.Errorf("%s: %v %v %+v", name, ok, x, core)
		}
	}
	for name, d := range badDisks() {
		for _, c := range []impl.Core{{}, {Txg: 1}, smallCore(), {Txg: 1, LogN: 8}, {Txg: -1}} {
			nothing(name, d, c, puts("v", 0, "a"))
			nothing(name+", no operation", d, c, impl.BookOp{})
		}
	}
	for name, c := range badCores() {
		for _, d := range []impl.Disk{wideDisk(60), wideDisk(1), wideDisk(60, lates(600)...)} {
			nothing(name, d, c, puts("v", 0, "a"))
			nothing(name+", no operation", d, c, impl.BookOp{})
		}
	}
	for _, c := range []impl.Core{{Txg: 1, LogN: -1}, {Txg: 1, LogN: 9}, {Txg: -1}, {Txg: impl.BlkMaxBirth + 1}, {Txg: 1, LogN: math.MaxInt}, {Txg: 1, LogN: math.MinInt}} {
		nothing("numbers", wideDisk(60), c, puts("v", 0, "a"))
	}
}

// LogPut leaves its arguments and what is behind them, and has memory of its own, also where it refuses.
func TestLogPutSharesNoMemory(t *testing.T) {
	for name, x := range map[string]struct {
		k, txg, n int
		op        impl.BookOp
		ok        bool
	}{
		"written":             {3, 5, 3, puts("v", 0, "a"), true},
		"no late writes":      {0, 5, 0, puts("v", 0, "a"), true},
		"a full log":          {3, 5, 8, puts("v", 0, "a"), false},
		"no operation":        {3, 5, 3, impl.BookOp{}, false},
		"no room for a write": {599, 5, 3, puts("v", 0, "a"), false},
		"not valid":           {3, -1, 3, puts("v", 0, "a"), false},
	} {
		args := func() (d, whole impl.Disk, c, room impl.Core) {
			d, whole = roomyWide(x.k)
			c, room = roomyCore()
			c.Txg, c.LogN = x.txg, x.n
			return d, whole, c, room
		}
		d, whole, c, room := args()
		disk, core, ok := impl.LogPut(d, c, x.op)
		otherDisk, otherCore, _ := impl.LogPut(d, c, x.op)
		if ok != x.ok {
			t.Error(name, ok)
		}
		wantDisk, wantCore := ownDisk(otherDisk), ownCore(otherCore)
		spoil(disk)
		spoilCore(core)
		_, freshWhole, _, freshRoom := args()
		if !sameDisk(whole, freshWhole) || !sameCore(room, freshRoom) {
			t.Errorf("%s: an argument has changed", name)
		}
		spoil(d)
		spoilCore(c)
		if !sameDisk(otherDisk, wantDisk) || !sameCore(otherCore, wantCore) {
			t.Errorf("%s: a result has changed", name)
		}
		sides := slices.Clone(otherDisk.Sides[1])
		spoil(impl.Disk{Sides: [2][]string{otherDisk.Sides[0], nil}})
		if !slices.Equal(otherDisk.Sides[1], sides) {
			t.Errorf("%s: the sides share memory", name)
		}
	}
	logCalls := map[string]func(d impl.Disk) impl.Disk{}
	for name, op := range map[string]impl.BookOp{"refused record": {}, "record without a sector": puts("v", 0, "a")} {
		logCalls[name] = func(d impl.Disk) impl.Disk {
			x, _, _ := impl.LogPut(d, impl.Core{Txg: 1}, op)
			return x
		}
	}
	sharesNoMemory(t, logCalls)
	sidesShareNoMemory(t, logCalls)
}

// findByHand is the operations that are logged behind a commit on a valid disk.
func findByHand(t *testing.T, d impl.Disk, txg int) []impl.BookOp {
	t.Helper()
	var ops []impl.BookOp
	all := readAll(t, d)
	for seq := 0; seq < 8 && 5+seq < len(all[0]); seq++ {
		r, ok := recByHand(all[0][5+seq])
		if !ok || r.Txg != txg || r.Seq != seq {
			r, ok = recByHand(all[1][5+seq])
		}
		if !ok || r.Txg != txg || r.Seq != seq {
			break
		}
		ops = append(ops, r.Op)
	}
	return ops
}

// finds fails unless the first operations of those that differ are found behind commit 7, and what is on the disk behind other commits.
func finds(t *testing.T, name string, d impl.Disk, n int) {
	t.Helper()
	if list := impl.LogFind(d, 7); !slices.Equal(list, loggedOps()[:n]) {
		t.Errorf("%s: %d operations: %+v", name, len(list), list)
	}
	for _, txg := range []int{6, 7, 8, 70, 77} {
		if list, want := impl.LogFind(d, txg), findByHand(t, d, txg); !slices.Equal(list, want) {
			t.Errorf("%s, commit %d: %+v, not %+v", name, txg, list, want)
		}
	}
	for _, txg := range []int{0, -1, -7, impl.BlkMaxBirth + 1, math.MinInt, math.MaxInt} {
		if list := impl.LogFind(d, txg); len(list) != 0 {
			t.Errorf("%s, commit %d: %+v", name, txg, list)
		}
	}
}

// slotText is the text of the record of a slot behind a commit.
func slotText(txg int, seq int) string {
	return impl.LogText(recOf(txg, seq, loggedOps()[seq]))
}

// logDisk is a disk of n sectors with a whole log behind commit 7 on both sides, as far as there are sectors.
func logDisk(n int) impl.Disk {
	d := wideDisk(n)
	for side := range d.Sides {
		for seq := 0; seq < impl.CoreLogs && 5+seq < n; seq++ {
			d.Sides[side][5+seq] = slotText(7, seq)
		}
	}
	return d
}

func TestLogFind(t *testing.T) {
	finds(t, "no record", wideDisk(60), 0)
	finds(t, "empty sectors", impl.DiskOpen(60), 0)
	finds(t, "a new store", firstOf(impl.CommitNew(60)), 0)
	finds(t, "a whole log", logDisk(60), 8)
	finds(t, "a whole log, most sectors", logDisk(impl.DiskMaxAt), 8)
	for n := 1; n <= 20; n++ {
		finds(t, strconv.Itoa(n)+" sectors", logDisk(n), min(max(n-5, 0), 8))
	}
	for name, d := range goodDisks() {
		finds(t, name, d, 0)
	}
	for n := range impl.CoreLogs + 1 {
		d := wideDisk(14)
		for seq := range n {
			d.Sides[0][5+seq], d.Sides[1][5+seq] = slotText(7, seq), slotText(7, seq)
		}
		finds(t, strconv.Itoa(n)+" records", d, n)
	}
}

// firstOf is the disk of a new store.
func firstOf(d impl.Disk, _ impl.Core, _ bool) impl.Disk { return d }

// Whichever side has a record, it is found.
func TestLogFindOnOneSide(t *testing.T) {
	for mask := range 1 << impl.CoreLogs {
		d := logDisk(60)
		for seq := range impl.CoreLogs {
			d.Sides[mask>>seq&1][5+seq] = []string{"", "spoilt", slotText(6, seq), slotText(7, (seq+1)%8)}[(seq+mask)%4]
		}
		finds(t, strconv.FormatInt(int64(mask), 2), d, 8)
	}
}

// otherSlots is texts that are not the record of a slot behind commit 7.
func otherSlots(seq int) map[string]string {
	text := slotText(7, seq)
	line := text[strings.Index(text, ":")+1:]
	other := slotText(6, seq)
	slots := map[string]string{
		"nothing":                     "",
		"another text":                "what another layer wrote",
		"a ring record":               "60041:7 14.9.7 7",
		"an earlier commit":           other,
		"a later commit":              slotText(8, seq),
		"a commit that begins alike":  slotText(70, seq),
		"a commit that ends alike":    slotText(17, seq),
		"the slot ahead":              slotText(7, (seq+7)%8),
		"the next slot":               slotText(7, (seq+1)%8),
		"another checksum":            "1" + text,
		"no checksum":                 line,
		"one byte less":               text[:len(text)-1],
		"one byte more":               text + "0",
		"another mark behind":         sealedByHand(line[:strings.LastIndex(line, " ")] + " 6." + strconv.Itoa(seq)),
		"another mark ahead":          sealedByHand("6." + strconv.Itoa(seq) + line[strings.Index(line, " "):]),
		"torn over an earlier commit": text[:len(text)/2] + other[min(len(text)/2, len(other)):],
		"torn over nothing":           text[:len(text)/2],
		"twice":                       text + text,
	}
	for i := 1; i < len(text); i++ {
		if s := text[:i] + other[min(i, len(other)):]; s != text {
			slots["torn behind "+strconv.Itoa(i)+" bytes"] = s
		}
	}
	return slots
}

// A record that neither side has ends the log, whatever is there in its place and whatever is behind it.
func TestLogFindStopsAtAGap(t *testing.T) {
	for seq := range impl.CoreLogs {
		for name, other := range otherSlots(seq) {
			name = "slot " + strconv.Itoa(seq) + ", " + name
			both, one := logDisk(60), logDisk(60)
			both.Sides[0][5+seq], both.Sides[1][5+seq] = other, other
			finds(t, name, both, seq)
			one.Sides[0][5+seq] = other
			finds(t, name+", on side 0", one, 8)
			one.Sides[0][5+seq], one.Sides[1][5+seq] = one.Sides[1][5+seq], other
			finds(t, name+", on side 1", one, 8)
			mixed := logDisk(60)
			mixed.Sides[0][5+seq], mixed.Sides[1][5+seq] = other, slotText(6, seq)
			finds(t, name+", and an earlier commit", mixed, seq)
		}
	}
}

// Records of two commits, one on each side, are the logs of both.
func TestLogFindOfTwoCommits(t *testing.T) {
	d := logDisk(60)
	for seq := range impl.CoreLogs {
		d.Sides[seq%2][5+seq] = slotText(6, seq)
	}
	finds(t, "two commits", d, 8)
	if list := impl.LogFind(d, 6); !slices.Equal(list, loggedOps()) {
		t.Errorf("%+v", list)
	}
}

// Side 0 comes first if both sides have a record of the slot.
func TestLogFindTakesTheFirstSide(t *testing.T) {
	for seq := range impl.CoreLogs {
		d := logDisk(60)
		op := puts("other", 4, "side 0")
		d.Sides[0][5+seq] = impl.LogText(recOf(7, seq, op))
		want := loggedOps()
		want[seq] = op
		if list := impl.LogFind(d, 7); !slices.Equal(list, want) {
			t.Errorf("slot %d: %+v", seq, list)
		}
		d.Sides[0], d.Sides[1] = d.Sides[1], d.Sides[0]
		finds(t, "slot "+strconv.Itoa(seq), d, 8)
		d.Sides[0][5+seq] += " "
		if list := impl.LogFind(d, 7); !slices.Equal(list, want) {
			t.Errorf("slot %d, side 0 is damaged: %+v", seq, list)
		}
	}
}

// The log is in its own sectors only.
func TestLogFindInOtherSectors(t *testing.T) {
	for by := -5; by <= 8; by++ {
		d := wideDisk(60)
		for seq := range impl.CoreLogs {
			d.Sides[0][5+seq+by], d.Sides[1][5+seq+by] = slotText(7, seq), slotText(7, seq)
		}
		n := 0
		if by == 0 {
			n = 8
		}
		finds(t, "shifted by "+strconv.Itoa(by), d, n)
	}
	d := logDisk(60)
	for side := range d.Sides {
		d.Sides[side][13], d.Sides[side][4] = recWords("7.8", "v", "0", "-", "7.8"), recWords("7.-1", "v", "0", "-", "7.-1")
	}
	finds(t, "a ninth record", d, 8)
}

// What is late counts as DiskRead reads it.
func TestLogFindReadsLateWrites(t *testing.T) {
	for seq := range impl.CoreLogs {
		d := logDisk(60)
		d.Late = []impl.DiskLate{late(0, 5+seq, "spoilt")}
		finds(t, "one late write", d, 8)
		d.Late = append(d.Late, late(1, 5+seq, slotText(6, seq)))
		finds(t, "two late writes", d, seq)
		d.Late = append(d.Late, late(1, 5+seq, slotText(7, seq)))
		finds(t, "three late writes", d, 8)
		d.Late = append(d.Late, late(1, 5+seq, ""), late(0, 6+seq, ""))
		finds(t, "five late writes", d, seq)
		finds(t, "lost writes", impl.DiskFall(d, nil), 8)
	}
}

func TestLogFindOnDisksThatAreNotValid(t *testing.T) {
	cases := badDisks()
	for name, spoils := range map[string]func(d *impl.Disk){
		"a sector more on side 0":   func(d *impl.Disk) { d.Sides[0] = append(d.Sides[0], "") },
		"a sector more on side 1":   func(d *impl.Disk) { d.Sides[1] = append(d.Sides[1], "") },
		"a long text":               func(d *impl.Disk) { d.Sides[1][40] = strings.Repeat("o", impl.DiskMaxText+1) },
		"a late write too many":     func(d *impl.Disk) { d.Late = lates(impl.DiskMaxLate + 1) },
		"a late write to no sector": func(d *impl.Disk) { d.Late = []impl.DiskLate{late(1, 60, "")} },
		"too many sectors":          func(d *impl.Disk) { *d = logDisk(impl.DiskMaxAt + 1) },
		"no side 1":                 func(d *impl.Disk) { d.Sides[1] = nil },
	} {
		d := logDisk(60)
		spoils(&d)
		cases["a whole log, "+name] = d
	}
	for name, d := range cases {
		for _, txg := range []int{7, 1, 0, -1} {
			if list := impl.LogFind(d, txg); len(list) != 0 {
				t.Errorf("%s, commit %d: %+v", name, txg, list)
			}
		}
	}
}

// What is found has memory of its own, and finding changes nothing.
func TestLogFindSharesNoMemory(t *testing.T) {
	d := logDisk(60)
	d.Late = append(make([]impl.DiskLate, 0, 5), late(0, 5, slotText(7, 0)))
	kept := ownDisk(d)
	list, other := impl.LogFind(d, 7), impl.LogFind(d, 7)
	for i, op := range list {
		for _, text := range []string{d.Sides[0][5+i], d.Sides[1][5+i], d.Late[0].Text} {
			if isPiece(op.A, text) || isPiece(op.Text, text) {
				t.Errorf("%+v is a piece of the disk", op)
			}
		}
	}
	for i := range list[:cap(list)] {
		list[:cap(list)][i] = puts("spoilt", 9, "spoilt")
	}
	if !sameDisk(d, kept) || d.Late[:2][1] != (impl.DiskLate{}) {
		t.Error("the disk has changed")
	}
	spoil(d)
	if !slices.Equal(other, loggedOps()) {
		t.Errorf("a result has changed: %+v", other)
	}
}

// Promise 12, for each fate of each late write: found are the records up to the first one that neither side kept, over older records of the same slots, other texts and nothing.
func TestLogAfterEachPowerFailure(t *testing.T) {
	for name, start := range map[string]func() impl.Disk{
		"nothing":        func() impl.Disk { return impl.DiskOpen(20) },
		"other texts":    func() impl.Disk { return wideDisk(20) },
		"older records":  func() impl.Disk { return olderLog(20, 6) },
		"longer numbers": func() impl.Disk { return olderLog(20, 77777) },
	} {
		for flushed := range impl.CoreLogs {
			for k := 1; k <= 3 && flushed+k <= impl.CoreLogs; k++ {
				d, c := start(), impl.Core{Txg: 7}
				for seq, op := range loggedOps()[:flushed+k] {
					if seq == flushed {
						d = impl.DiskFlush(d)
					}
					d, c, _ = impl.LogPut(d, c, op)
				}
				eachFate(2*k, func(fate []int) {
					n := 0
					for n < k && (fate[2*n] == impl.DiskKept || fate[2*n+1] == impl.DiskKept) {
						n++
					}
					if list := impl.LogFind(impl.DiskFall(d, fate), 7); !slices.Equal(list, loggedOps()[:flushed+n]) {
						t.Errorf("over %s, %d flushed, fate %v: %+v", name, flushed, fate, list)
					}
				})
			}
		}
	}
}

// olderLog is a disk of n sectors with a log behind another commit, whose operations are in another order.
func olderLog(n int, txg int) impl.Disk {
	d := wideDisk(n)
	for side := range d.Sides {
		for seq := range impl.CoreLogs {
			d.Sides[side][5+seq] = impl.LogText(recOf(txg, seq, loggedOps()[(seq+3)%8]))
		}
	}
	return d
}

// eachFate calls with each list of n fates.
func eachFate(n int, call func(fate []int)) {
	fate := make([]int, n)
	for {
		call(fate)
		i := 0
		for i < n && fate[i] == impl.DiskTorn {
			fate[i] = impl.DiskLost
			i++
		}
		if i == n {
			return
		}
		fate[i]++
	}
}

func TestLogAfterPowerFailuresOfAWholeLog(t *testing.T) {
	d, c := olderLog(60, 6), impl.Core{Txg: 7}
	for _, op := range loggedOps() {
		d, c, _ = impl.LogPut(d, c, op)
	}
	for name, fate := range fates(len(d.Late)) {
		n := 0
		kept := func(i int) bool { return i < len(fate) && fate[i] == impl.DiskKept }
		for n < 8 && (kept(2*n) || kept(2*n+1)) {
			n++
		}
		finds(t, name, impl.DiskFall(d, fate), n)
	}
	finds(t, "flushed", impl.DiskFlush(d), 8)
	finds(t, "flushed ahead of the failure", impl.DiskFall(impl.DiskFlush(d), slices.Repeat([]int{impl.DiskTorn}, 16)), 8)
}

// someFate is fates of n writes, of which more are kept than not.
func someFate(r *rand.Rand, n int) []int {
	fate := make([]int, n)
	for i := range fate {
		fate[i] = []int{impl.DiskKept, impl.DiskKept, impl.DiskTorn, impl.DiskLost, 3}[r.IntN(5)]
	}
	return fate
}

// Promise 12: what was logged is found in order; after a power failure a prefix of it is found, with all that was flushed. What an earlier failure left in the slots is never found behind a later commit.
func TestLogFindsAPrefix(t *testing.T) {
	r := rand.New(rand.NewPCG(9, 14))
	d, c, _ := impl.CommitNew(20)
	lengths := map[int]int{}
	for range 500 {
		var logged []impl.BookOp
		flushed := 0
		for range r.IntN(11) {
			op := someRec(r).Op
			if r.IntN(9) == 0 {
				op.I = r.IntN(12) - 2
			}
			x, core, ok := impl.LogPut(d, c, op)
			if ok != (goodOp(op) && len(logged) < impl.CoreLogs) {
				t.Fatalf("%+v behind %+v: %v", op, logged, ok)
			}
			if d, c = x, core; ok {
				logged = append(logged, op)
			}
			if r.IntN(4) == 0 {
				d, flushed = impl.DiskFlush(d), len(logged)
			}
			if list := impl.LogFind(d, c.Txg); !slices.Equal(list, logged) || c.LogN != len(logged) {
				t.Fatalf("%d records: %+v, not %+v", c.LogN, list, logged)
			}
			for range 3 {
				list := impl.LogFind(impl.DiskFall(d, someFate(r, r.IntN(20))), c.Txg)
				if len(list) < flushed || len(list) > len(logged) || !slices.Equal(list, logged[:len(list)]) {
					t.Fatalf("after a power failure %+v, of %+v, %d flushed", list, logged, flushed)
				}
				lengths[len(logged)-len(list)]++
			}
		}
		if r.IntN(3) == 0 {
			d = impl.DiskFall(d, someFate(r, 16))
			logged = impl.LogFind(d, c.Txg)
		}
		var code int
		if d, c, code = impl.CommitDo(d, c); code != impl.BookDone || c.LogN != 0 {
			t.Fatal(code, c)
		}
		if list := impl.LogFind(d, c.Txg); len(list) != 0 {
			t.Fatalf("behind commit %d, which is new: %+v", c.Txg, list)
		}
		if list := impl.LogFind(d, c.Txg-1); !slices.Equal(list, logged) {
			t.Fatalf("behind commit %d, which is past: %+v, not %+v", c.Txg-1, list, logged)
		}
	}
	if c.Txg != 501 || lengths[0] == 0 || lengths[1] == 0 || lengths[4] == 0 {
		t.Error(c.Txg, lengths)
	}
}
