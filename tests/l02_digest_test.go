package tests

import (
	"crypto/sha256"
	"encoding"
	"encoding/binary"
	"math"
	"slices"
	"strings"
	"testing"
	"unsafe"

	"loop.example/g00279/impl"
)

const (
	wordMost = 1<<32 - 1
	sizeMost = 1 << 40
)

func sameHash(a impl.Hash, b impl.Hash) bool {
	return slices.Equal(a.State, b.State) && a.Rest == b.Rest && a.Size == b.Size
}

func wantHash(t *testing.T, what string, got impl.Hash, want impl.Hash) {
	t.Helper()
	if !sameHash(got, want) {
		t.Errorf("%s: got State %v Rest %s Size %d, want State %v Rest %s Size %d",
			what, got.State, show(got.Rest), got.Size, want.State, show(want.Rest), want.Size)
	}
}

func sumOf(text string) string {
	sum := sha256.Sum256([]byte(text))
	return string(sum[:])
}

// libraryHead begins the bytes in which the library keeps a SHA-256 that is under way.
const libraryHead = "sha\x03"

// goOn is what the library tells of a right Hash with more text behind it: what stands then, and its digest.
func goOn(t *testing.T, h impl.Hash, text string) (impl.Hash, string) {
	t.Helper()
	kept := []byte(libraryHead)
	for _, word := range h.State {
		kept = binary.BigEndian.AppendUint32(kept, uint32(word))
	}
	kept = append(kept, h.Rest...)
	kept = append(kept, make([]byte, 64-len(h.Rest))...)
	kept = binary.BigEndian.AppendUint64(kept, uint64(h.Size))
	under := sha256.New()
	if err := under.(encoding.BinaryUnmarshaler).UnmarshalBinary(kept); err != nil {
		t.Fatal(err)
	}
	under.Write([]byte(text))
	behind, err := under.(encoding.BinaryMarshaler).MarshalBinary()
	if err != nil {
		t.Fatal(err)
	}
	out := impl.Hash{Size: h.Size + int64(len(text))}
	behind = behind[len(libraryHead):]
	for i := range 8 {
		out.State = append(out.State, int64(binary.BigEndian.Uint32(behind[4*i:])))
	}
	out.Rest = string(behind[32 : 32+out.Size%64])
	return out, string(under.Sum(nil))
}

func wantMore(t *testing.T, h impl.Hash, text string) {
	t.Helper()
	want, digest := goOn(t, h, text)
	got := impl.HashMore(h, text)
	wantHash(t, "HashMore("+show(text)+")", got, want)
	if !impl.HashRight(got) {
		t.Errorf("HashMore(%s): its answer is not right", show(text))
	}
	if end := impl.HashEnd(got); end != digest {
		t.Errorf("HashEnd behind %s: got %x, want %x", show(text), end, digest)
	}
}

// begun is a right Hash of that size, whose State is that of no text that is known.
func begun(size int64) impl.Hash {
	return impl.Hash{State: []int64{0, wordMost, 1, 1 << 31, 0x6a09e667, 2, wordMost - 1, 77}, Rest: mixed(int(size % 64)), Size: size}
}

// wrongHashes are Hashes that are not right, each for one cause alone.
func wrongHashes() []impl.Hash {
	out := []impl.Hash{
		{},
		{State: []int64{}},
		{State: make([]int64, 1)},
		{State: make([]int64, 7)},
		{State: make([]int64, 9)},
		{State: make([]int64, impl.MaxList)},
		{State: make([]int64, impl.MaxList+1)},
		{Rest: mixed(5), Size: 5},
	}
	for _, size := range []int64{-1, -2, -63, -64, -65, math.MinInt64, sizeMost + 64, sizeMost + 1, math.MaxInt64, math.MaxInt64 - 63} {
		h := begun(0)
		h.Size = size
		if size > 0 {
			h.Rest = mixed(int(size % 64))
		}
		out = append(out, h)
	}
	for _, word := range []int64{-1, -wordMost, math.MinInt64, wordMost + 1, wordMost + 2, math.MaxInt64} {
		for i := range 8 {
			h := begun(70)
			h.State[i] = word
			out = append(out, h)
		}
	}
	for _, c := range []struct{ rest, size int64 }{
		{0, 1}, {1, 0}, {1, 2}, {2, 1}, {0, 63}, {63, 64}, {62, 63}, {1, 64}, {64, 0}, {64, 64}, {65, 1}, {65, 65}, {127, 63}, {128, 128},
		{1, sizeMost}, {63, sizeMost}, {64, sizeMost}, {0, sizeMost - 1}, {62, sizeMost - 1}, {impl.MaxBytes, impl.MaxBytes},
		{impl.MaxBytes + 1, impl.MaxBytes + 1},
	} {
		h := begun(0)
		h.Rest, h.Size = mixed(int(c.rest)), c.size
		out = append(out, h)
	}
	return out
}

// inParts takes a text part by part, the cuts in their order.
func inParts(text string, cuts ...int) impl.Hash {
	h, from := impl.HashBegin(), 0
	for _, cut := range append(cuts, len(text)) {
		h = impl.HashMore(h, text[from:cut])
		from = cut
	}
	return h
}

func TestDigestsOfTheStandard(t *testing.T) {
	for _, c := range []struct{ text, digits string }{
		{"", "e3b0c44298fc1c149afbf4c8996fb92427ae41e4649b934ca495991b7852b855"},
		{"abc", "ba7816bf8f01cfea414140de5dae2223b00361a396177a9cb410ff61f20015ad"},
		{"abcdbcdecdefdefgefghfghighijhijkijkljklmklmnlmnomnopnopq", "248d6a61d20638b8e5c026930c3e6039a33ce45964ff2167f6ecedd419db06c1"},
		{"abcdefghbcdefghicdefghijdefghijkefghijklfghijklmghijklmnhijklmnoijklmnopjklmnopqklmnopqrlmnopqrsmnopqrstnopqrstu",
			"cf5b16a778af8380036ce59e7b0492370b249b11e8f07a51afac45037afee9d1"},
	} {
		if got := impl.Hex(impl.Digest(c.text)); got != c.digits {
			t.Errorf("Digest(%s): got %s, want %s", show(c.text), got, c.digits)
		}
		if got := impl.Hex(impl.HashEnd(impl.HashMore(impl.HashBegin(), c.text))); got != c.digits {
			t.Errorf("HashEnd behind %s: got %s, want %s", show(c.text), got, c.digits)
		}
		if got := impl.Short(c.text); got != c.digits[:8] {
			t.Errorf("Short(%s): got %s, want %s", show(c.text), got, c.digits[:8])
		}
	}
}

func TestDigestOfAMillion(t *testing.T) {
	h := impl.HashBegin()
	for range 100 {
		h = impl.HashMore(h, strings.Repeat("a", 10000))
	}
	if got := impl.Hex(impl.HashEnd(h)); got != "cdc76e5c9914fb9281a1c7e284d73e67f1809a48a497200e046d39ccc7112cd0" {
		t.Errorf("a million times a: got %s", got)
	}
	if h.Size != 1000000 || h.Rest != "" {
		t.Errorf("a million times a: got Size %d and Rest %q", h.Size, h.Rest)
	}
}

func TestDigestOfEachLength(t *testing.T) {
	sizes := []int{1000, 8191, 8192, impl.MaxBytes - 1, impl.MaxBytes}
	for size := range 300 {
		sizes = append(sizes, size)
	}
	for _, size := range sizes {
		for _, text := range []string{mixed(size), strings.Repeat("\x00", size), strings.Repeat("\xff", size), strings.Repeat("\x80", size)} {
			want := sumOf(text)
			if got := impl.Digest(text); got != want {
				t.Errorf("Digest(%s): got %x, want %x", show(text), got, want)
			}
			if got := impl.Short(text); got != impl.Hex(want)[:8] {
				t.Errorf("Short(%s): got %q, want %q", show(text), got, impl.Hex(want)[:8])
			}
		}
	}
}

func TestDigestOfEachByte(t *testing.T) {
	for at := range 64 {
		for _, b := range []byte{1, 128, 255} {
			text := []byte(strings.Repeat("\x00", 64))
			text[at] = b
			if got, want := impl.Digest(string(text)), sumOf(string(text)); got != want {
				t.Errorf("Digest(%q): got %x, want %x", text, got, want)
			}
		}
	}
}

func TestTextsThatAreTooLongHaveNoDigest(t *testing.T) {
	for _, size := range []int{impl.MaxBytes + 1, impl.MaxBytes + 64, 2 * impl.MaxBytes} {
		if got := impl.Digest(mixed(size)); got != "" {
			t.Errorf("Digest of %d bytes: got %x, want none", size, got)
		}
		if got := impl.Short(mixed(size)); got != "" {
			t.Errorf("Short of %d bytes: got %q, want none", size, got)
		}
	}
}

func TestHashBegin(t *testing.T) {
	want := impl.Hash{State: []int64{
		0x6a09e667, 0xbb67ae85, 0x3c6ef372, 0xa54ff53a, 0x510e527f, 0x9b05688c, 0x1f83d9ab, 0x5be0cd19,
	}}
	got := impl.HashBegin()
	wantHash(t, "HashBegin", got, want)
	if !impl.HashRight(got) {
		t.Error("HashBegin is not right")
	}
	got.State[0], got.State[7] = 1, -1
	wantHash(t, "HashBegin, behind a change of an earlier one", impl.HashBegin(), want)
	if end := impl.HashEnd(impl.HashBegin()); end != sumOf("") {
		t.Errorf("HashEnd of HashBegin: got %x", end)
	}
}

func TestDigestIsTheSameInTwoParts(t *testing.T) {
	for _, size := range []int{0, 1, 2, 55, 56, 63, 64, 65, 119, 120, 127, 128, 129, 200} {
		text := mixed(size)
		whole := impl.HashMore(impl.HashBegin(), text)
		digest := impl.Digest(text)
		if digest != sumOf(text) {
			t.Errorf("Digest of %d bytes: got %x", size, digest)
		}
		for cut := range size + 1 {
			h := inParts(text, cut)
			wantHash(t, "two parts", h, whole)
			if got := impl.HashEnd(h); got != digest {
				t.Errorf("%d bytes cut at %d: got %x, want %x", size, cut, got, digest)
			}
		}
	}
}

func TestDigestIsTheSameInThreeParts(t *testing.T) {
	text := mixed(140)
	want := impl.Digest(text)
	for first := range len(text) + 1 {
		for second := first; second <= len(text); second++ {
			if got := impl.HashEnd(inParts(text, first, second)); got != want {
				t.Fatalf("cut at %d and %d: got %x, want %x", first, second, got, want)
			}
		}
	}
}

func TestDigestIsTheSameInPartsOfOneSize(t *testing.T) {
	for _, size := range []int{64, 300, impl.MaxBytes} {
		text := mixed(size)
		want := impl.Digest(text)
		for _, part := range []int{1, 3, 7, 55, 63, 64, 65, 127, 128, 1000, impl.MaxBytes} {
			h := impl.HashMore(impl.HashBegin(), "")
			for from := 0; from < size; from += part {
				h = impl.HashMore(impl.HashMore(h, text[from:min(from+part, size)]), "")
			}
			if got := impl.HashEnd(h); got != want {
				t.Errorf("%d bytes in parts of %d: got %x, want %x", size, part, got, want)
			}
		}
	}
}

func TestDigestOfMoreThanOneCallTakes(t *testing.T) {
	text := mixed(3*impl.MaxBytes + 33)
	h := impl.HashBegin()
	for from := 0; from < len(text); from += impl.MaxBytes {
		h = impl.HashMore(h, text[from:min(from+impl.MaxBytes, len(text))])
		if got, want := impl.HashEnd(h), sumOf(text[:h.Size]); got != want {
			t.Errorf("%d bytes: got %x, want %x", h.Size, got, want)
		}
	}
	if h.Size != int64(len(text)) {
		t.Errorf("got Size %d, want %d", h.Size, len(text))
	}
}

func TestHashMoreFromEachRest(t *testing.T) {
	for size := range int64(130) {
		for _, more := range []int{0, 1, 8, 55, 56, 63, 64, 65, 130} {
			wantMore(t, begun(size), mixed(more))
		}
	}
	wantMore(t, begun(63), mixed(impl.MaxBytes))
	wantMore(t, begun(64), mixed(impl.MaxBytes-1))
}

func TestHashMoreNearTheGreatestSize(t *testing.T) {
	for _, size := range []int64{wordMost/8 - 1, 1 << 29, wordMost, 1 << 32, 1<<35 + 5, sizeMost - 65, sizeMost - 64} {
		for _, more := range []int{0, 1, 63, 64} {
			wantMore(t, begun(size), mixed(more))
		}
	}
	for left := range int64(66) {
		wantMore(t, begun(sizeMost-left), mixed(int(left)))
		if left > 0 {
			wantMore(t, begun(sizeMost-left), mixed(int(left-1)))
		}
		for _, above := range []int64{1, 2, 64, 1000} {
			h := begun(sizeMost - left)
			wantHash(t, "HashMore above the greatest size", impl.HashMore(h, mixed(int(left+above))), h)
		}
	}
	wantMore(t, begun(sizeMost-impl.MaxBytes), mixed(impl.MaxBytes))
	full := begun(sizeMost - impl.MaxBytes + 1)
	wantHash(t, "HashMore above the greatest size", impl.HashMore(full, mixed(impl.MaxBytes)), full)
}

func TestHashRight(t *testing.T) {
	for _, size := range []int64{0, 1, 55, 56, 62, 63, 64, 65, 127, 128, impl.MaxBytes, impl.MaxBytes + 1, wordMost, 1 << 32, sizeMost - 64, sizeMost - 1, sizeMost} {
		h := begun(size)
		if !impl.HashRight(h) {
			t.Errorf("HashRight, Size %d and Rest of %d: got false, want true", h.Size, len(h.Rest))
		}
		wantMore(t, h, "")
	}
	for _, word := range []int64{0, 1, 1<<31 - 1, 1 << 31, wordMost - 1, wordMost} {
		for i := range 8 {
			h := begun(70)
			h.State[i] = word
			if !impl.HashRight(h) {
				t.Errorf("HashRight, %d at %d of the State: got false, want true", word, i)
			}
			wantMore(t, h, mixed(100))
		}
	}
}

func TestHashesThatAreNotRight(t *testing.T) {
	for _, h := range wrongHashes() {
		if impl.HashRight(h) {
			t.Errorf("HashRight(State %v Rest %s Size %d): got true, want false", h.State, show(h.Rest), h.Size)
		}
		if got := impl.HashEnd(h); got != "" {
			t.Errorf("HashEnd(State %v Rest %s Size %d): got %x, want none", h.State, show(h.Rest), h.Size, got)
		}
		for _, more := range []int{0, 1, 64, impl.MaxBytes} {
			wantHash(t, "HashMore of what is not right", impl.HashMore(h, mixed(more)), h)
		}
	}
}

func TestHashMoreOfATextThatIsTooLong(t *testing.T) {
	hashes := append(wrongHashes(), impl.HashBegin(), begun(0), begun(63), begun(sizeMost-1), begun(sizeMost))
	for _, h := range hashes {
		for _, size := range []int{impl.MaxBytes + 1, impl.MaxBytes + 44, 2 * impl.MaxBytes} {
			wantHash(t, "HashMore of a text that is too long", impl.HashMore(h, mixed(size)), impl.Hash{})
		}
	}
}

func shareList(a []int64, b []int64) bool {
	a, b = a[:cap(a)], b[:cap(b)]
	if len(a) == 0 || len(b) == 0 {
		return false
	}
	from, other := uintptr(unsafe.Pointer(&a[0])), uintptr(unsafe.Pointer(&b[0]))
	return from < other+uintptr(8*len(b)) && other < from+uintptr(8*len(a))
}

func TestHashesAreNewMemory(t *testing.T) {
	hashes := append(wrongHashes(), impl.HashBegin(), begun(0), begun(40), begun(sizeMost), begun(sizeMost-20))
	for _, h := range hashes {
		for _, size := range []int{0, 1, 40, 100} {
			text := mixed(size)
			got := impl.HashMore(h, text)
			if shareList(got.State, h.State) || share(got.Rest, h.Rest) || share(got.Rest, text) {
				t.Errorf("HashMore(State %v Rest %s Size %d) of %d bytes hands out a piece of an argument", h.State, show(h.Rest), h.Size, size)
			}
		}
	}
	if shareList(impl.HashBegin().State, impl.HashBegin().State) {
		t.Error("HashBegin hands out one list twice")
	}
}

func TestHashesAreNotChanged(t *testing.T) {
	for _, size := range []int64{0, 40, 64, sizeMost} {
		h := begun(size)
		h.State = append(make([]int64, 0, 20), h.State...)
		first := impl.HashEnd(h)
		for range 2 {
			impl.HashRight(h)
			impl.HashMore(h, mixed(200))
			wantHash(t, "what was handed in", h, begun(size))
			if got := impl.HashEnd(h); got != first {
				t.Errorf("HashEnd once more: got %x, want %x", got, first)
			}
		}
	}
}
