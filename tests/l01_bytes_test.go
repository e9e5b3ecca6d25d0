package tests

import (
	"encoding/binary"
	"encoding/hex"
	"math"
	"strconv"
	"strings"
	"testing"
	"unsafe"

	"loop.example/g00279/impl"
)

func show(t string) string {
	if len(t) > 60 {
		return strconv.Quote(t[:60]) + ".. of " + strconv.Itoa(len(t)) + " bytes"
	}
	return strconv.Quote(t)
}

func showText(o impl.TextOut) string {
	return show(o.Text) + " At " + strconv.FormatInt(o.At, 10) + " Code " + strconv.FormatInt(o.Code, 10)
}

func wantNum(t *testing.T, text string, at int64, want impl.NumOut) {
	t.Helper()
	if got := impl.GetNum(text, at); got != want {
		t.Errorf("GetNum(%s, %d): got %+v, want %+v", show(text), at, got, want)
	}
}

func wantText(t *testing.T, text string, at int64, want impl.TextOut) {
	t.Helper()
	if got := impl.GetText(text, at); got != want {
		t.Errorf("GetText(%s, %d): got %s, want %s", show(text), at, showText(got), showText(want))
	}
}

func wantHexRead(t *testing.T, text string, want impl.TextOut) {
	t.Helper()
	if got := impl.HexRead(text); got != want {
		t.Errorf("HexRead(%s): got %s, want %s", show(text), showText(got), showText(want))
	}
}

// ends is so many bytes that go on, and the bytes behind them.
func ends(count int, on byte, behind ...byte) string {
	return strings.Repeat(string([]byte{on}), count) + string(behind)
}

// mixed is a text of that length in which all bytes come up.
func mixed(size int) string {
	out := make([]byte, size)
	for i := range out {
		out[i] = byte(i*7 + i/256)
	}
	return string(out)
}

// numberEdges are numbers around each length that their bytes can have.
func numberEdges() []int64 {
	out := []int64{0, 1, -1, 2, -2, 300, -300, impl.MaxBytes, impl.MaxTime, math.MaxInt64, math.MinInt64}
	for bit := 5; bit < 63; bit++ {
		for add := int64(-2); add <= 2; add++ {
			out = append(out, 1<<bit+add, -(1<<bit)+add)
		}
	}
	for add := int64(1); add <= 5; add++ {
		out = append(out, math.MaxInt64-add, math.MinInt64+add)
	}
	return out
}

// numAt is what GetNum tells, read once more from the document.
func numAt(text string, at int64) impl.NumOut {
	if len(text) > impl.MaxBytes {
		return impl.NumOut{Code: impl.ErrSize}
	}
	if at < 0 {
		return impl.NumOut{Code: impl.ErrForm}
	}
	rest := text[min(at, int64(len(text))):]
	count := 1
	for count < 10 && count <= len(rest) && rest[count-1] >= 128 {
		count++
	}
	if len(rest) < count {
		return impl.NumOut{Code: impl.ErrShort}
	}
	n, used := binary.Varint([]byte(rest[:count]))
	if used != count || count > 1 && rest[count-1] == 0 {
		return impl.NumOut{Code: impl.ErrSyntax}
	}
	return impl.NumOut{N: n, At: at + int64(count)}
}

// textAt is what GetText tells, read once more from the document.
func textAt(text string, at int64) impl.TextOut {
	size := numAt(text, at)
	if size.Code != impl.OK {
		return impl.TextOut{Code: size.Code}
	}
	if size.N < 0 || size.N > impl.MaxBytes {
		return impl.TextOut{Code: impl.ErrSyntax}
	}
	if size.At+size.N > int64(len(text)) {
		return impl.TextOut{Code: impl.ErrShort}
	}
	return impl.TextOut{Text: text[size.At : size.At+size.N], At: size.At + size.N}
}

// eachShortText hands on every text of at most so many of the bytes.
func eachShortText(bytes string, most int, take func(string)) {
	take("")
	if most == 0 {
		return
	}
	for i := range len(bytes) {
		eachShortText(bytes, most-1, func(t string) { take(bytes[i:i+1] + t) })
	}
}

func TestCodesAndLimits(t *testing.T) {
	codes := []int64{impl.OK, impl.ErrForm, impl.ErrSize, impl.ErrSyntax, impl.ErrShort, impl.ErrSum, impl.ErrSign, impl.ErrVersion,
		impl.ErrExpired, impl.ErrNone, impl.ErrProof, impl.ErrPolicy, impl.ErrFull, impl.ErrPower, impl.ErrFork}
	for want, code := range codes {
		if code != int64(want) {
			t.Errorf("code %d is %d", want, code)
		}
	}
	limits := [3]int64{impl.MaxBytes, impl.MaxList, impl.MaxTime}
	if limits != [3]int64{20000, 400, 1000000000} {
		t.Errorf("the limits are %v", limits)
	}
}

func TestPutNum(t *testing.T) {
	for _, c := range []struct {
		n    int64
		want string
	}{
		{0, "\x00"}, {-1, "\x01"}, {1, "\x02"}, {-2, "\x03"},
		{63, "\x7e"}, {-64, "\x7f"}, {64, "\x80\x01"}, {-65, "\x81\x01"},
		{150, "\xac\x02"}, {8191, "\xfe\x7f"}, {-8192, "\xff\x7f"}, {8192, "\x80\x80\x01"},
		{1<<62 - 1, ends(1, 0xfe) + ends(7, 0xff, 0x7f)},
		{-1 << 62, ends(8, 0xff, 0x7f)},
		{1 << 62, ends(9, 0x80, 1)},
		{math.MaxInt64, ends(1, 0xfe) + ends(8, 0xff, 1)},
		{math.MinInt64, ends(9, 0xff, 1)},
	} {
		if got := impl.PutNum(c.n); got != c.want {
			t.Errorf("PutNum(%d): got %q, want %q", c.n, got, c.want)
		}
	}
	for _, n := range numberEdges() {
		if got, want := impl.PutNum(n), string(binary.AppendVarint(nil, n)); got != want {
			t.Errorf("PutNum(%d): got %q, want %q", n, got, want)
		}
	}
}

func TestNumbersComeBack(t *testing.T) {
	for _, n := range numberEdges() {
		bytes := impl.PutNum(n)
		size := int64(len(bytes))
		wantNum(t, bytes, 0, impl.NumOut{N: n, At: size})
		wantNum(t, "\xff\x00"+bytes, 2, impl.NumOut{N: n, At: 2 + size})
		wantNum(t, bytes+"\x00\xff", 0, impl.NumOut{N: n, At: size})
	}
	for n := int64(-20000); n <= 20000; n++ {
		bytes := impl.PutNum(n)
		wantNum(t, bytes, 0, impl.NumOut{N: n, At: int64(len(bytes))})
	}
}

func TestNumbersStandInARow(t *testing.T) {
	row := ""
	for _, n := range numberEdges() {
		row += impl.PutNum(n)
	}
	at := int64(0)
	for _, n := range numberEdges() {
		got := impl.GetNum(row, at)
		if got.N != n || got.Code != impl.OK {
			t.Fatalf("GetNum at %d: got %+v, want %d", at, got, n)
		}
		at = got.At
	}
	if at != int64(len(row)) {
		t.Errorf("the row ends at %d, not at %d", at, len(row))
	}
}

func TestGetNumSize(t *testing.T) {
	most := strings.Repeat("\x00", impl.MaxBytes)
	wantNum(t, most, 0, impl.NumOut{At: 1})
	wantNum(t, most, impl.MaxBytes-1, impl.NumOut{At: impl.MaxBytes})
	wantNum(t, most, impl.MaxBytes, impl.NumOut{Code: impl.ErrShort})
	for _, at := range []int64{math.MinInt64, -1, 0, 1, impl.MaxBytes, impl.MaxBytes + 1, math.MaxInt64} {
		wantNum(t, most+"\x00", at, impl.NumOut{Code: impl.ErrSize})
		wantNum(t, strings.Repeat("\xff", impl.MaxBytes+1), at, impl.NumOut{Code: impl.ErrSize})
	}
}

func TestGetNumPlace(t *testing.T) {
	for _, text := range []string{"", "\x02", "\x80", ends(10, 0xff)} {
		wantNum(t, text, -1, impl.NumOut{Code: impl.ErrForm})
		wantNum(t, text, math.MinInt64, impl.NumOut{Code: impl.ErrForm})
		for _, add := range []int64{0, 1, 2, 20} {
			wantNum(t, text, int64(len(text))+add, impl.NumOut{Code: impl.ErrShort})
		}
		wantNum(t, text, math.MaxInt32, impl.NumOut{Code: impl.ErrShort})
		wantNum(t, text, 1<<32, impl.NumOut{Code: impl.ErrShort})
		wantNum(t, text, math.MaxInt64, impl.NumOut{Code: impl.ErrShort})
	}
}

func TestGetNumShort(t *testing.T) {
	for count := 1; count <= 9; count++ {
		wantNum(t, ends(count, 0x80), 0, impl.NumOut{Code: impl.ErrShort})
		wantNum(t, ends(count, 0xff), 0, impl.NumOut{Code: impl.ErrShort})
		wantNum(t, "\x00"+ends(count, 0xff), 1, impl.NumOut{Code: impl.ErrShort})
	}
}

func TestGetNumSyntax(t *testing.T) {
	for count := 1; count <= 9; count++ {
		wantNum(t, ends(count, 0x80, 0), 0, impl.NumOut{Code: impl.ErrSyntax})
		wantNum(t, ends(count, 0xff, 0, 1), 0, impl.NumOut{Code: impl.ErrSyntax})
	}
	for last := 2; last <= 255; last++ {
		wantNum(t, ends(9, 0x80, byte(last)), 0, impl.NumOut{Code: impl.ErrSyntax})
		wantNum(t, ends(9, 0xff, byte(last), 0), 0, impl.NumOut{Code: impl.ErrSyntax})
	}
	wantNum(t, ends(10, 0x80, 1), 0, impl.NumOut{Code: impl.ErrSyntax})
	wantNum(t, ends(30, 0xff), 20, impl.NumOut{Code: impl.ErrSyntax})
	wantNum(t, ends(30, 0xff), 21, impl.NumOut{Code: impl.ErrShort})
	wantNum(t, ends(9, 0x80, 1), 0, impl.NumOut{N: 1 << 62, At: 10})
	wantNum(t, ends(9, 0xff, 1), 0, impl.NumOut{N: math.MinInt64, At: 10})
}

func TestPutText(t *testing.T) {
	for _, c := range []struct{ text, want string }{
		{"", "\x00"}, {"a", "\x02a"}, {"ab", "\x04ab"}, {"\x00\xff", "\x04\x00\xff"},
		{mixed(63), "\x7e" + mixed(63)}, {mixed(64), "\x80\x01" + mixed(64)},
		{mixed(impl.MaxBytes), "\xc0\xb8\x02" + mixed(impl.MaxBytes)},
		{mixed(impl.MaxBytes + 1), ""}, {mixed(2 * impl.MaxBytes), ""},
	} {
		if got := impl.PutText(c.text); got != c.want {
			t.Errorf("PutText(%s): got %s, want %s", show(c.text), show(got), show(c.want))
		}
	}
}

func TestTextsComeBack(t *testing.T) {
	// Three bytes of length leave room for that many more.
	sizes := []int{impl.MaxBytes - 4, impl.MaxBytes - 3, 8191, 8192, 8193, 10000}
	for size := range 200 {
		sizes = append(sizes, size)
	}
	for _, size := range sizes {
		text := mixed(size)
		bytes := impl.PutText(text)
		wantText(t, bytes, 0, impl.TextOut{Text: text, At: int64(len(bytes))})
	}
	wantText(t, "\xff\xff"+impl.PutText("layer")+"\xff", 2, impl.TextOut{Text: "layer", At: 8})
	wantText(t, "\x00", 0, impl.TextOut{At: 1})
	wantText(t, "ab\x00", 2, impl.TextOut{At: 3})
	wantText(t, "\x02\x80", 0, impl.TextOut{Text: "\x80", At: 2})
}

func TestGetTextSize(t *testing.T) {
	for _, at := range []int64{math.MinInt64, -1, 0, impl.MaxBytes + 1, math.MaxInt64} {
		wantText(t, strings.Repeat("\x00", impl.MaxBytes+1), at, impl.TextOut{Code: impl.ErrSize})
		wantText(t, impl.PutText(mixed(impl.MaxBytes-2)), at, impl.TextOut{Code: impl.ErrSize})
	}
}

func TestGetTextPlace(t *testing.T) {
	for _, text := range []string{"", "\x00", "\x02a", "\x01", ends(10, 0xff)} {
		wantText(t, text, -1, impl.TextOut{Code: impl.ErrForm})
		wantText(t, text, math.MinInt64, impl.TextOut{Code: impl.ErrForm})
		wantText(t, text, int64(len(text)), impl.TextOut{Code: impl.ErrShort})
		wantText(t, text, int64(len(text))+1, impl.TextOut{Code: impl.ErrShort})
		wantText(t, text, math.MaxInt64, impl.TextOut{Code: impl.ErrShort})
	}
}

func TestGetTextLength(t *testing.T) {
	for _, size := range []int64{-1, -2, -impl.MaxBytes, math.MinInt64, impl.MaxBytes + 1, 1 << 32, 1<<32 + 1, math.MaxInt64} {
		wantText(t, impl.PutNum(size), 0, impl.TextOut{Code: impl.ErrSyntax})
		wantText(t, impl.PutNum(size)+mixed(50), 0, impl.TextOut{Code: impl.ErrSyntax})
	}
	for _, size := range []int64{1, 2, 63, 64, impl.MaxBytes - 1, impl.MaxBytes} {
		wantText(t, impl.PutNum(size), 0, impl.TextOut{Code: impl.ErrShort})
		wantText(t, impl.PutNum(size)+mixed(int(min(size, impl.MaxBytes-3))-1), 0, impl.TextOut{Code: impl.ErrShort})
		wantText(t, "ab"+impl.PutNum(size), 2, impl.TextOut{Code: impl.ErrShort})
	}
	wantText(t, impl.PutNum(impl.MaxBytes)+mixed(impl.MaxBytes-3), 0, impl.TextOut{Code: impl.ErrShort})
	wantText(t, "\x80\x00", 0, impl.TextOut{Code: impl.ErrSyntax})
	wantText(t, "\x82\x00a", 0, impl.TextOut{Code: impl.ErrSyntax})
	wantText(t, ends(9, 0x80, 2), 0, impl.TextOut{Code: impl.ErrSyntax})
	wantText(t, "\x82", 0, impl.TextOut{Code: impl.ErrShort})
}

func TestShortTextsAreReadAsTold(t *testing.T) {
	eachShortText("\x00\x01\x02\x04\x7f\x80\x81\xff", 4, func(text string) {
		for at := int64(-1); at <= 5; at++ {
			wantNum(t, text, at, numAt(text, at))
			wantText(t, text, at, textAt(text, at))
		}
	})
}

func TestLongNumbersAreReadAsTold(t *testing.T) {
	for count := 4; count <= 11; count++ {
		eachShortText("\x00\x01\x02\x7f\x80\x81\xff", 3, func(behind string) {
			for _, on := range []byte{0x80, 0x81, 0xc5, 0xff} {
				text := ends(count, on) + behind
				for at := int64(0); at <= 2; at++ {
					wantNum(t, text, at, numAt(text, at))
					wantText(t, text, at, textAt(text, at))
				}
			}
		})
	}
}

func TestNameRight(t *testing.T) {
	for _, name := range []string{
		"a", "z", "a-9", "z0", "a-", "a--", "layer-0", "abcdefghijklmnopqrstuvwxyz-0123456789",
		strings.Repeat("a", 39), strings.Repeat("a", 40), "b" + strings.Repeat("-", 39),
	} {
		if !impl.NameRight(name) {
			t.Errorf("NameRight(%q): got false, want true", name)
		}
	}
	for _, name := range []string{
		"", "A", "-", "9", "-a", "9a", "aB", "a_", "a.b", "a b", "a\n", " a", "a\x00", "\xc3\xa9", "a\xc3\xa9", "a\xff",
		strings.Repeat("a", 41), strings.Repeat("a", 39) + "A", strings.Repeat("a", 39) + "\xc3\xa9",
		strings.Repeat("a", impl.MaxBytes), strings.Repeat("a", impl.MaxBytes+1),
	} {
		if impl.NameRight(name) {
			t.Errorf("NameRight(%s): got true, want false", show(name))
		}
	}
}

func TestNameRightByteByByte(t *testing.T) {
	const letters = "abcdefghijklmnopqrstuvwxyz"
	for b := range 256 {
		one := string([]byte{byte(b)})
		if got, want := impl.NameRight(one), strings.Contains(letters, one); got != want {
			t.Errorf("NameRight(%q): got %t, want %t", one, got, want)
		}
		want := strings.Contains(letters+"0123456789-", one)
		for _, name := range []string{"a" + one, "a" + one + "a", strings.Repeat("z", 39) + one} {
			if got := impl.NameRight(name); got != want {
				t.Errorf("NameRight(%q): got %t, want %t", name, got, want)
			}
		}
	}
}

func TestHex(t *testing.T) {
	for _, c := range []struct{ text, want string }{
		{"", ""}, {"\x00", "00"}, {"\x0a\xff", "0aff"}, {"\xf0\x0f", "f00f"}, {"\x9a\xa9", "9aa9"}, {"abc", "616263"},
		{mixed(impl.MaxBytes + 1), ""},
	} {
		if got := impl.Hex(c.text); got != c.want {
			t.Errorf("Hex(%s): got %s, want %s", show(c.text), show(got), show(c.want))
		}
	}
	for _, size := range []int{256, 1000, impl.MaxBytes/2 + 1, impl.MaxBytes - 1, impl.MaxBytes} {
		if got := impl.Hex(mixed(size)); got != hex.EncodeToString([]byte(mixed(size))) {
			t.Errorf("Hex of %d bytes: got %s", size, show(got))
		}
	}
}

func TestTextsComeBackFromTheirDigits(t *testing.T) {
	sizes := []int{impl.MaxBytes/2 - 1, impl.MaxBytes / 2, 1000}
	for size := range 300 {
		sizes = append(sizes, size)
	}
	for _, size := range sizes {
		wantHexRead(t, impl.Hex(mixed(size)), impl.TextOut{Text: mixed(size)})
	}
	wantHexRead(t, impl.Hex(mixed(impl.MaxBytes/2+1)), impl.TextOut{Code: impl.ErrSize})
	wantHexRead(t, "", impl.TextOut{})
	wantHexRead(t, "00ff10", impl.TextOut{Text: "\x00\xff\x10"})
}

func TestHexReadFaults(t *testing.T) {
	for _, text := range []string{"0", "a", "abc", "0A", "A0", "AB", "0g", "g0", "0x", "0x00", "00 ", " 00", "0 ", "00\n0", "zz",
		strings.Repeat("0", impl.MaxBytes-1), strings.Repeat("g", impl.MaxBytes), strings.Repeat("0", impl.MaxBytes-1) + "g"} {
		wantHexRead(t, text, impl.TextOut{Code: impl.ErrSyntax})
	}
	for _, text := range []string{strings.Repeat("0", impl.MaxBytes+1), strings.Repeat("0", impl.MaxBytes+2), strings.Repeat("g", impl.MaxBytes+1)} {
		wantHexRead(t, text, impl.TextOut{Code: impl.ErrSize})
	}
	wantHexRead(t, strings.Repeat("0", impl.MaxBytes), impl.TextOut{Text: strings.Repeat("\x00", impl.MaxBytes/2)})
}

func TestHexReadByteByByte(t *testing.T) {
	for b := range 256 {
		one := string([]byte{byte(b)})
		value := strings.Index("0123456789abcdef", one)
		low, high := impl.TextOut{Code: impl.ErrSyntax}, impl.TextOut{Code: impl.ErrSyntax}
		if value >= 0 {
			low = impl.TextOut{Text: string([]byte{byte(value)})}
			high = impl.TextOut{Text: string([]byte{byte(16 * value)})}
		}
		wantHexRead(t, "0"+one, low)
		wantHexRead(t, one+"0", high)
	}
}

// share leaves out texts of one byte: Go keeps one of each of them.
func share(a string, b string) bool {
	if len(a) < 2 || len(b) < 2 {
		return false
	}
	from, other := uintptr(unsafe.Pointer(unsafe.StringData(a))), uintptr(unsafe.Pointer(unsafe.StringData(b)))
	return from < other+uintptr(len(b)) && other < from+uintptr(len(a))
}

func TestAnswersAreNewMemory(t *testing.T) {
	text := impl.PutText(mixed(500))
	if share(impl.GetText(text, 0).Text, text) {
		t.Error("GetText hands out a piece of its argument")
	}
	if share(impl.PutText(text), text) {
		t.Error("PutText hands out a piece of its argument")
	}
	digits := impl.Hex(text)
	if share(impl.HexRead(digits).Text, digits) || share(digits, text) {
		t.Error("Hex or HexRead hands out a piece of its argument")
	}
}

func TestNothingIsKept(t *testing.T) {
	for range 3 {
		wantNum(t, ends(9, 0x80, 2), 0, impl.NumOut{Code: impl.ErrSyntax})
		wantNum(t, "\x80\x01", 0, impl.NumOut{N: 64, At: 2})
		wantText(t, "\x04a", 0, impl.TextOut{Code: impl.ErrShort})
		wantText(t, "\x04ab", 0, impl.TextOut{Text: "ab", At: 3})
		wantHexRead(t, "0", impl.TextOut{Code: impl.ErrSyntax})
		wantHexRead(t, "6162", impl.TextOut{Text: "ab"})
	}
}
