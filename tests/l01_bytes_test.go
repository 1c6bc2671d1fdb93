package tests

import (
	"encoding/binary"
	"hash/crc32"
	"math"
	"strings"
	"testing"

	"loop.example/g00683/impl"
)

// edgeNums are the numbers around each power of two, and the least and the greatest one.
func edgeNums() []int64 {
	out := []int64{0, math.MinInt64, math.MinInt64 + 1, math.MaxInt64, math.MaxInt64 - 1}
	for bit := range 63 {
		p := int64(1) << bit
		out = append(out, p-1, p, p+1, -p-1, -p, -p+1)
	}
	return out
}

// Promise 1: numbers come back from their bytes.
func TestNumbersComeBack(t *testing.T) {
	for _, n := range edgeNums() {
		text := impl.PutNum(n)
		same(t, "bytes", text, string(binary.AppendVarint(nil, n)))
		size := int64(len(text))
		same(t, "alone", impl.GetNum(text, 0), impl.NumOut{N: n, At: size})
		same(t, "between others", impl.GetNum("\x80\xff"+text+"\x00", 2), impl.NumOut{N: n, At: size + 2})
	}
}

func TestNumberSizes(t *testing.T) {
	sizes := []struct {
		n    int64
		size int
	}{
		{0, 1}, {-1, 1}, {63, 1}, {-64, 1}, {64, 2}, {-65, 2}, {8191, 2}, {-8192, 2}, {8192, 3},
		{1<<62 - 1, 9}, {-1 << 62, 9}, {1 << 62, 10}, {-1<<62 - 1, 10}, {math.MaxInt64, 10}, {math.MinInt64, 10},
	}
	for _, c := range sizes {
		same(t, "size", len(impl.PutNum(c.n)), c.size)
	}
	nine := strings.Repeat("\xff", 9)
	same(t, "least", impl.PutNum(math.MinInt64), nine+"\x01")
	same(t, "greatest", impl.PutNum(math.MaxInt64), "\xfe"+nine[1:]+"\x01")
}

// wantNum reckons the answer for texts of fewer than ten bytes from the library's reader, which lets needless bytes pass.
func wantNum(text string, at int64) impl.NumOut {
	if at < 0 {
		return impl.NumOut{Code: impl.ErrForm}
	}
	if at > int64(len(text)) {
		return impl.NumOut{Code: impl.ErrShort}
	}
	rest := text[at:]
	n, size := binary.Varint([]byte(rest))
	if size == 0 {
		return impl.NumOut{Code: impl.ErrShort}
	}
	if string(binary.AppendVarint(nil, n)) != rest[:size] {
		return impl.NumOut{Code: impl.ErrSyntax}
	}
	return impl.NumOut{N: n, At: at + int64(size)}
}

func TestNumbersOfAllShortTexts(t *testing.T) {
	for i := range 1 << 16 {
		text := string([]byte{byte(i), byte(i >> 8)})
		for at := int64(-1); at <= 3; at++ {
			if got, want := impl.GetNum(text, at), wantNum(text, at); got != want {
				t.Fatalf("GetNum(%q, %d): got %+v, want %+v", text, at, got, want)
			}
		}
	}
}

func TestNumberFaults(t *testing.T) {
	nine := strings.Repeat("\xff", 9)
	noughts := strings.Repeat("\x80", 9)
	full := strings.Repeat("\x00", impl.MaxBytes)
	faults := []struct {
		text string
		at   int64
		code int64
	}{
		{"", 0, impl.ErrShort},
		{"\x00", -1, impl.ErrForm},
		{"\x00", math.MinInt64, impl.ErrForm},
		{"", -1, impl.ErrForm},
		{"\x00", 1, impl.ErrShort},
		{"\x00", 2, impl.ErrShort},
		{"\x00", math.MaxInt64, impl.ErrShort},
		{"\x80", 0, impl.ErrShort},
		{noughts, 0, impl.ErrShort},
		{nine, 0, impl.ErrShort},
		{"\x00" + nine, 1, impl.ErrShort},
		{nine + "\x02", 0, impl.ErrSyntax},
		{nine + "\x7f", 0, impl.ErrSyntax},
		{nine + "\x80", 0, impl.ErrSyntax},
		{nine + "\x81", 0, impl.ErrSyntax},
		{nine + "\xff", 0, impl.ErrSyntax},
		{nine + "\x81\x00", 0, impl.ErrSyntax},
		{nine + "\x00", 0, impl.ErrSyntax},
		{noughts + "\x00", 0, impl.ErrSyntax},
		{"\x80\x00", 0, impl.ErrSyntax},
		{"\xff\x80\x00", 0, impl.ErrSyntax},
		{full, impl.MaxBytes, impl.ErrShort},
		{full + "\x00", 0, impl.ErrSize},
		{full + "\x00", -1, impl.ErrSize},
	}
	for _, c := range faults {
		same(t, "fault", impl.GetNum(c.text, c.at), impl.NumOut{Code: c.code})
		same(t, "fault of a text's length", impl.GetText(c.text, c.at), impl.TextOut{Code: c.code})
	}
	same(t, "tenth byte of 1", impl.GetNum(noughts+"\x01", 0), impl.NumOut{N: 1 << 62, At: 10})
	same(t, "last byte of a full text", impl.GetNum(full, impl.MaxBytes-1), impl.NumOut{At: impl.MaxBytes})
}

// Promise 1: texts that fit in come back from their bytes.
func TestTextsComeBack(t *testing.T) {
	for _, size := range []int{0, 1, 63, 64, 127, 128, 4000, impl.MaxBytes - 3, impl.MaxBytes - 2} {
		word := letters(size)
		text := impl.PutText(word)
		same(t, "bytes", text, string(binary.AppendVarint(nil, int64(size)))+word)
		same(t, "text", impl.GetText(text, 0), impl.TextOut{Text: word, At: int64(len(text))})
	}
	same(t, "all bytes", impl.GetText(impl.PutText("\x00\xff\x80\n"), 0).Text, "\x00\xff\x80\n")
	row := "\xff" + impl.PutText("one") + impl.PutText("") + impl.PutText("three")
	same(t, "first", impl.GetText(row, 1), impl.TextOut{Text: "one", At: 5})
	same(t, "empty", impl.GetText(row, 5), impl.TextOut{At: 6})
	same(t, "last", impl.GetText(row, 6), impl.TextOut{Text: "three", At: 12})
	same(t, "behind all", impl.GetText(row, 12), impl.TextOut{Code: impl.ErrShort})
}

func TestTextLimits(t *testing.T) {
	most := letters(impl.MaxBytes)
	same(t, "greatest text", impl.PutText(most), "\x80\x7d"+most)
	same(t, "one byte more", impl.PutText(most+"a"), "")
	same(t, "greatest text does not fit in", impl.GetText(impl.PutText(most), 0), impl.TextOut{Code: impl.ErrSize})
}

func TestTextFaults(t *testing.T) {
	faults := []struct {
		text string
		code int64
	}{
		{impl.PutNum(1), impl.ErrShort},
		{impl.PutNum(3) + "ab", impl.ErrShort},
		{impl.PutNum(impl.MaxBytes), impl.ErrShort},
		{impl.PutNum(impl.MaxBytes) + letters(impl.MaxBytes-2), impl.ErrShort},
		{impl.PutNum(impl.MaxBytes + 1), impl.ErrSyntax},
		{impl.PutNum(-1) + "ab", impl.ErrSyntax},
		{impl.PutNum(math.MaxInt64), impl.ErrSyntax},
		{impl.PutNum(math.MinInt64), impl.ErrSyntax},
		{"\x82\x00a", impl.ErrSyntax},
	}
	for _, c := range faults {
		same(t, "fault", impl.GetText(c.text, 0), impl.TextOut{Code: c.code})
		same(t, "fault behind others", impl.GetText(c.text, -1), impl.TextOut{Code: impl.ErrForm})
	}
}

func TestNames(t *testing.T) {
	for _, right := range []string{"a", "z", "a9", "a_", "abcdefghijklmnopqrst", "z0_9_a"} {
		same(t, right, impl.NameRight(right), true)
	}
	wrong := []string{
		"", "_", "0", "9a", "_a", "A", "aB", "a-", "a ", " a", "a\x00", "a\n", "\u00e4", "a\u00e4",
		"`", "{", "a`", "a{", "a/", "a:", "abcdefghijklmnopqrstu", letters(impl.MaxBytes + 1),
	}
	for _, name := range wrong {
		same(t, name, impl.NameRight(name), false)
	}
	for b := range 256 {
		text := string([]byte{byte(b)})
		letter := strings.Contains("abcdefghijklmnopqrstuvwxyz", text)
		same(t, "first byte "+text, impl.NameRight(text), letter)
		same(t, "second byte "+text, impl.NameRight("a"+text), letter || strings.Contains("0123456789_", text))
	}
}

// Promise 2: a CRC goes on from text to text.
func TestCrcGoesOn(t *testing.T) {
	for _, size := range []int{0, 1, 2, 9, 300, impl.MaxBytes} {
		text := letters(size)
		whole := int64(crc32.ChecksumIEEE([]byte(text)))
		same(t, "crc", impl.Crc(text), whole)
		for _, cut := range []int{0, size / 3, size} {
			same(t, "crc of two", impl.CrcMore(impl.Crc(text[:cut]), text[cut:]), whole)
		}
	}
	for b := range 256 {
		text := string([]byte{byte(b)})
		same(t, "crc of a byte", impl.Crc(text), int64(crc32.ChecksumIEEE([]byte(text))))
	}
	a, b := letters(impl.MaxBytes), letters(impl.MaxBytes-1)
	same(t, "crc of more than fits in one text", impl.CrcMore(impl.Crc(a), b), int64(crc32.ChecksumIEEE([]byte(a+b))))
}

func TestCrcLimits(t *testing.T) {
	const top = 1<<32 - 1
	long := letters(impl.MaxBytes + 1)
	same(t, "known", impl.Crc("123456789"), int64(0xCBF43926))
	same(t, "too long", impl.Crc(long), int64(0))
	same(t, "too long to go on", impl.CrcMore(1, long), int64(0))
	same(t, "nothing behind 0", impl.CrcMore(0, ""), int64(0))
	same(t, "nothing behind the greatest", impl.CrcMore(top, ""), int64(top))
	same(t, "from 0", impl.CrcMore(0, "ab"), int64(crc32.ChecksumIEEE([]byte("ab"))))
	same(t, "from the greatest", impl.CrcMore(top, "ab"), int64(crc32.Update(top, crc32.IEEETable, []byte("ab"))))
	for _, crc := range []int64{-1, top + 1, math.MinInt64, math.MaxInt64} {
		same(t, "no crc", impl.CrcMore(crc, "ab"), int64(0))
		same(t, "no crc, nothing behind", impl.CrcMore(crc, ""), int64(0))
	}
}

// Promise 2: a sealed text comes back.
func TestSealedTextsComeBack(t *testing.T) {
	for _, size := range []int{0, 1, 3, 4, 5, 100, impl.MaxBytes - 5, impl.MaxBytes - 4} {
		text := letters(size)
		sealed := impl.Seal(text)
		same(t, "sealed", sealed, string(binary.LittleEndian.AppendUint32([]byte(text), crc32.ChecksumIEEE([]byte(text)))))
		same(t, "unsealed", impl.Unseal(sealed), impl.TextOut{Text: text})
	}
	same(t, "lowest byte first", impl.Seal("123456789"), "123456789\x26\x39\xf4\xcb")
	same(t, "sealed twice", impl.Unseal(impl.Unseal(impl.Seal(impl.Seal("a\x00b"))).Text).Text, "a\x00b")
}

// Promise 2: with one byte turned it is refused.
func TestTurnedBytesAreRefused(t *testing.T) {
	for _, text := range []string{"", "a", "\x00\x00\x00\x00", "what was said"} {
		sealed := impl.Seal(text)
		for i := range sealed {
			for turn := 1; turn < 256; turn++ {
				b := []byte(sealed)
				b[i] ^= byte(turn)
				if got := impl.Unseal(string(b)); got != (impl.TextOut{Code: impl.ErrSum}) {
					t.Fatalf("Unseal of %q with byte %d turned by %d: got %+v", text, i, turn, got)
				}
			}
		}
	}
}

func TestSealLimits(t *testing.T) {
	same(t, "too long to be sealed", impl.Seal(letters(impl.MaxBytes-3)), "")
	same(t, "far too long to be sealed", impl.Seal(letters(impl.MaxBytes+1)), "")
	for _, text := range []string{"", "a", "\x00\x00\x00", "abc"} {
		same(t, "short", impl.Unseal(text), impl.TextOut{Code: impl.ErrShort})
	}
	same(t, "four bytes", impl.Unseal("\x00\x00\x00\x00"), impl.TextOut{})
	same(t, "four other bytes", impl.Unseal("\x00\x00\x00\x01"), impl.TextOut{Code: impl.ErrSum})
	same(t, "no seal, as long as may be", impl.Unseal(letters(impl.MaxBytes)), impl.TextOut{Code: impl.ErrSum})
	same(t, "too long", impl.Unseal(letters(impl.MaxBytes+1)), impl.TextOut{Code: impl.ErrSize})
	same(t, "an end cut off", impl.Unseal(impl.Seal("abc")[:6]), impl.TextOut{Code: impl.ErrSum})
	long := letters(impl.MaxBytes - 3)
	sealed := string(binary.LittleEndian.AppendUint32([]byte(long), crc32.ChecksumIEEE([]byte(long))))
	same(t, "sealed, but too long", impl.Unseal(sealed), impl.TextOut{Code: impl.ErrSize})
}

func TestAnswersAreNewMemory(t *testing.T) {
	word := letters(40)
	put, sealed := impl.PutText(word), impl.Seal(word)
	pairs := [][2]string{
		{put, word},
		{sealed, word},
		{impl.GetText(put, 0).Text, put},
		{impl.Unseal(sealed).Text, sealed},
	}
	for i, p := range pairs {
		if shares(p[0], p[1]) {
			t.Errorf("answer %d shares memory with what was handed in", i)
		}
	}
}
