package tests

import (
	"crypto/sha256"
	"encoding/binary"
	"math"
	"strings"
	"sync"
	"testing"

	"loop.example/g00279/impl"
)

func wantSecretRight(t *testing.T, x int64, want bool) {
	t.Helper()
	if got := impl.SecretRight(x); got != want {
		t.Errorf("SecretRight(%d): got %t, want %t", x, got, want)
	}
}

func wantPublic(t *testing.T, x int64, want int64) {
	t.Helper()
	if got := impl.PublicOf(x); got != want {
		t.Errorf("PublicOf(%d): got %d, want %d", x, got, want)
	}
}

func wantChallenge(t *testing.T, r int64, key int64, text string, want int64) {
	t.Helper()
	if got := impl.Challenge(r, key, text); got != want {
		t.Errorf("Challenge(%d, %d, %s): got %d, want %d", r, key, show(text), got, want)
	}
}

func wantSig(t *testing.T, x int64, text string, want impl.Sig) {
	t.Helper()
	if got := impl.SignText(x, text); got != want {
		t.Errorf("SignText(%d, %s): got %+v, want %+v", x, show(text), got, want)
	}
}

func wantSigRight(t *testing.T, s impl.Sig, want bool) {
	t.Helper()
	if got := impl.SigRight(s); got != want {
		t.Errorf("SigRight(%+v): got %t, want %t", s, got, want)
	}
}

func wantCheck(t *testing.T, s impl.Sig, text string, want bool) {
	t.Helper()
	if got := impl.SigCheck(s, text); got != want {
		t.Errorf("SigCheck(%+v, %s): got %t, want %t", s, show(text), got, want)
	}
}

// plainNumber, plainChallenge, plainSig and plainCheck read chapter 5 once more, by the library's numbers and digests.
func plainNumber(text string) int64 {
	if len(text) > impl.MaxBytes {
		// What is too long has the empty text as its Digest, and that has no first bytes.
		return 0
	}
	sum := sha256.Sum256([]byte(text))
	return int64(binary.BigEndian.Uint64(sum[:]) >> 8)
}

func plainPut(numbers ...int64) string {
	var out []byte
	for _, n := range numbers {
		out = binary.AppendVarint(out, n)
	}
	return string(out)
}

func plainChallenge(r int64, key int64, text string) int64 {
	return plainNumber(plainPut(r, key)+text) % impl.GroupQ
}

func plainOneTime(x int64, text string) int64 {
	return plainNumber("\x4b"+plainPut(x)+text)%(impl.GroupQ-1) + 1
}

func plainSig(x int64, text string) impl.Sig {
	k := plainOneTime(x, text)
	key := bigPow(impl.GroupG, x, impl.GroupP)
	e := plainChallenge(bigPow(impl.GroupG, k, impl.GroupP), key, text)
	return impl.Sig{Key: key, E: e, S: (bigMul(e, x, impl.GroupQ) + k) % impl.GroupQ}
}

// plainCheck is told of a right signature and a text that is not too long.
func plainCheck(s impl.Sig, text string) bool {
	r := bigMul(bigPow(impl.GroupG, s.S, impl.GroupP), bigPow(s.Key, impl.GroupQ-s.E, impl.GroupP), impl.GroupP)
	return s.E == plainChallenge(r, s.Key, text)
}

func someSecrets() []int64 {
	out := []int64{1, 2, 3, 63, 64, 1001, 5000, 5010, 8191, 8192, 1<<20 - 1, 1 << 20, 1<<27 - 1, 1 << 27, 1<<29 + 1,
		impl.GroupQ / 2, impl.GroupQ/2 + 1, impl.GroupQ - 3, impl.GroupQ - 2, impl.GroupQ - 1}
	x := int64(777)
	for range 30 {
		x = (x*48271+13)%(impl.GroupQ-1) + 1
		out = append(out, x)
	}
	return out
}

func noSecrets() []int64 {
	return append(belowNought(), 0, impl.GroupQ, impl.GroupQ+1, impl.GroupQ+2, 2*impl.GroupQ, 2*impl.GroupQ+1, impl.GroupP-1, impl.GroupP,
		mostModulus, 1<<32+1, 1<<32+1001, 1<<62, math.MaxInt64)
}

// someTexts are short enough that nothing that stands ahead of them makes them too long.
func someTexts() []string {
	return []string{"", "\x00", "K", "K\x02", "a", "hello", "hellO", " hello", "hello ", "\xff\xfe\x80", "\x08\x20hello", strings.Repeat("\x00", 64),
		mixed(55), mixed(56), mixed(64), mixed(300), mixed(8000)}
}

// otherTexts are those that lie near to a text.
func otherTexts(text string) []string {
	out := []string{text + "\x00", text + "a", "\x00" + text, text + text + "b"}
	for _, at := range []int{0, len(text) / 2, len(text) - 1} {
		if 0 <= at && at < len(text) {
			turned := []byte(text)
			turned[at] ^= 1
			out = append(out, string(turned), text[:at]+text[at+1:])
		}
	}
	return out
}

// lengthEdges are those around which a text, or what stands ahead of it and it, is too long.
func lengthEdges() []int {
	var out []int
	for less := -1; less <= 14; less++ {
		out = append(out, impl.MaxBytes-less)
	}
	return out
}

// unitsOfEachLength have numbers of one to five bytes.
func unitsOfEachLength() []int64 {
	return []int64{1, 4, 63, 64, 8191, 8192, 1<<20 - 1, 1 << 20, 1<<27 - 1, 1 << 27, impl.GroupP - 1}
}

func TestSecretRight(t *testing.T) {
	for _, x := range someSecrets() {
		wantSecretRight(t, x, true)
	}
	for _, x := range noSecrets() {
		wantSecretRight(t, x, false)
	}
	for x := int64(-50); x <= 50; x++ {
		wantSecretRight(t, x, x >= 1)
		wantSecretRight(t, impl.GroupQ+x, x < 0)
	}
}

func TestPublicOf(t *testing.T) {
	for x, key := range map[int64]int64{
		1: impl.GroupG, 2: 16, 3: 64, 1001: 554688020, impl.GroupQ / 2: 1073741789, impl.GroupQ - 2: 1744830408, impl.GroupQ - 1: 536870895,
	} {
		wantPublic(t, x, key)
	}
	keys := map[int64]int64{}
	for _, x := range someSecrets() {
		wantPublic(t, x, bigPow(impl.GroupG, x, impl.GroupP))
		key := impl.PublicOf(x)
		wantGroupRight(t, key, true)
		if other, ok := keys[key]; ok {
			t.Errorf("the secrets %d and %d have one key", x, other)
		}
		keys[key] = x
	}
	for _, x := range noSecrets() {
		wantPublic(t, x, 0)
	}
}

func TestKnownChallenges(t *testing.T) {
	for _, c := range []struct {
		r, key int64
		text   string
		want   int64
	}{
		{1, 1, "", 415240252},
		{1, 1, "a", 908555664},
		{impl.GroupP - 1, impl.GroupP - 1, "", 528471154},
		{4, 16, "hello", 355289978},
		{16, 4, "hello", 954073277},
		{1, impl.GroupP - 1, "x", 213429397},
		{impl.GroupP - 1, 1, "x", 426130170},
	} {
		wantChallenge(t, c.r, c.key, c.text, c.want)
	}
}

func TestChallenge(t *testing.T) {
	units := append(unitsOfEachLength(), 2, 3, impl.GroupQ, impl.GroupP-2)
	for _, r := range units {
		for _, key := range units {
			for _, text := range someTexts() {
				wantChallenge(t, r, key, text, plainChallenge(r, key, text))
			}
		}
	}
}

func TestChallengeOfNumbersThatAreNoUnits(t *testing.T) {
	for _, wrong := range noUnits() {
		for _, other := range append(noUnits(), 1, impl.GroupG, impl.GroupP-1) {
			for _, text := range []string{"", "hello", mixed(impl.MaxBytes), mixed(impl.MaxBytes + 1)} {
				wantChallenge(t, wrong, other, text, 0)
				wantChallenge(t, other, wrong, text, 0)
			}
		}
	}
}

func TestChallengeOfLongTexts(t *testing.T) {
	for _, size := range lengthEdges() {
		text := mixed(size)
		for _, r := range unitsOfEachLength() {
			for _, key := range []int64{1, 64, 8192, impl.GroupP - 1} {
				wantChallenge(t, r, key, text, plainChallenge(r, key, text))
			}
		}
	}
	for _, size := range []int{impl.MaxBytes, impl.MaxBytes + 1, 2 * impl.MaxBytes} {
		wantChallenge(t, 1, 1, mixed(size), 0)
	}
	if impl.Challenge(1, 1, mixed(impl.MaxBytes-2)) == 0 {
		t.Error("the longest text that has a Digest behind two numbers of one byte has no Challenge")
	}
}

func TestKnownSignatures(t *testing.T) {
	for _, c := range []struct {
		x    int64
		text string
		want impl.Sig
	}{
		{1, "", impl.Sig{Key: 4, E: 654472554, S: 586188757}},
		{1001, "hello", impl.Sig{Key: 554688020, E: 1058906874, S: 572036885}},
		{impl.GroupQ - 1, "", impl.Sig{Key: 536870895, E: 364486083, S: 927296702}},
		{impl.GroupQ - 1, "hello", impl.Sig{Key: 536870895, E: 55650309, S: 405739556}},
		{2, "\x00", impl.Sig{Key: 16, E: 978120629, S: 23600554}},
		{5000, "\xff\x80", impl.Sig{Key: 540204187, E: 425288804, S: 429421366}},
		{123456789, strings.Repeat("a", 1000), impl.Sig{Key: 436533508, E: 223232872, S: 722391917}},
	} {
		wantSig(t, c.x, c.text, c.want)
		wantCheck(t, c.want, c.text, true)
	}
}

func TestWhatASecretHasSignedPasses(t *testing.T) {
	for _, x := range someSecrets() {
		for _, text := range someTexts() {
			wantSig(t, x, text, plainSig(x, text))
			s := impl.SignText(x, text)
			wantSigRight(t, s, true)
			wantCheck(t, s, text, true)
			wantPublic(t, x, s.Key)
		}
	}
	x, text := int64(1), ""
	for i := range 2000 {
		x = (x*69621+7)%(impl.GroupQ-1) + 1
		text = mixed(i)[i/2:]
		wantCheck(t, impl.SignText(x, text), text, true)
	}
}

func TestSignaturesOfLongTexts(t *testing.T) {
	for _, size := range lengthEdges() {
		text := mixed(size)
		for _, x := range someSecrets() {
			if size > impl.MaxBytes {
				wantSig(t, x, text, impl.Sig{})
				wantCheck(t, impl.Sig{Key: impl.PublicOf(x), E: 0, S: 1}, text, false)
				continue
			}
			wantSig(t, x, text, plainSig(x, text))
			s := impl.SignText(x, text)
			wantSigRight(t, s, true)
			wantCheck(t, s, text, true)
		}
	}
	wantSig(t, 1001, mixed(impl.MaxBytes), impl.Sig{Key: impl.PublicOf(1001), E: 0, S: 1})
	for _, x := range append(noSecrets(), 1, 1001) {
		wantSig(t, x, mixed(impl.MaxBytes+1), impl.Sig{})
		wantSig(t, x, mixed(2*impl.MaxBytes), impl.Sig{})
	}
}

// The longest texts with a Challenge of their own, whatever the key is, are ten bytes shorter than the longest.
func TestAnotherTextDoesNotPass(t *testing.T) {
	for _, x := range someSecrets()[:25] {
		for _, text := range append(someTexts(), mixed(impl.MaxBytes-11)) {
			s := impl.SignText(x, text)
			for _, other := range otherTexts(text) {
				if len(other) <= impl.MaxBytes-10 {
					wantCheck(t, s, other, false)
				}
			}
		}
	}
	for i, text := range someTexts() {
		s := impl.SignText(1001, text)
		for k, other := range someTexts() {
			wantCheck(t, s, other, i == k)
		}
	}
}

func TestAnotherEDoesNotPass(t *testing.T) {
	for _, x := range someSecrets() {
		s := impl.SignText(x, "hello")
		for _, e := range []int64{0, 1, 2, s.E - 2, s.E - 1, s.E + 1, s.E + 2, s.S, impl.GroupQ - s.E, impl.GroupQ - 2, impl.GroupQ - 1} {
			if e != s.E {
				wantCheck(t, impl.Sig{Key: s.Key, E: e, S: s.S}, "hello", false)
			}
		}
		for bit := range 30 {
			wantCheck(t, impl.Sig{Key: s.Key, E: s.E ^ 1<<bit, S: s.S}, "hello", false)
		}
	}
}

func TestAnotherSDoesNotPass(t *testing.T) {
	for _, x := range someSecrets() {
		s := impl.SignText(x, "hello")
		for _, other := range []int64{0, 1, 2, s.S - 2, s.S - 1, s.S + 1, s.S + 2, s.E, impl.GroupQ - s.S, impl.GroupQ - 2, impl.GroupQ - 1} {
			if other != s.S {
				wantCheck(t, impl.Sig{Key: s.Key, E: s.E, S: other}, "hello", false)
			}
		}
		for bit := range 30 {
			wantCheck(t, impl.Sig{Key: s.Key, E: s.E, S: s.S ^ 1<<bit}, "hello", false)
		}
	}
}

func TestAnotherKeyPassesJustWhereItsChallengeIsE(t *testing.T) {
	for _, x := range someSecrets() {
		for _, text := range []string{"", "hello", mixed(300)} {
			s := impl.SignText(x, text)
			for _, other := range someSecrets() {
				turned := impl.Sig{Key: impl.PublicOf(other), E: s.E, S: s.S}
				wantCheck(t, turned, text, plainCheck(turned, text))
				if x != other && impl.SigCheck(turned, text) {
					t.Errorf("%+v of the secret %d passes with the key of %d", s, x, other)
				}
			}
			inverse := impl.Sig{Key: impl.ModInv(s.Key, impl.GroupP), E: s.E, S: s.S}
			wantCheck(t, inverse, text, plainCheck(inverse, text))
		}
	}
	// Behind the longest texts the Challenge is 0 whatever the key is, so what is signed with E 0 passes with each.
	s := impl.SignText(1001, mixed(impl.MaxBytes))
	for _, other := range someSecrets() {
		wantCheck(t, impl.Sig{Key: impl.PublicOf(other), E: s.E, S: s.S}, mixed(impl.MaxBytes), true)
	}
}

func TestSigCheckAtTheEdges(t *testing.T) {
	edges := []int64{0, 1, 2, impl.GroupQ / 2, impl.GroupQ - 2, impl.GroupQ - 1}
	for _, key := range []int64{3, impl.GroupG, 16, impl.GroupP - 2, impl.PublicOf(1001)} {
		for _, e := range edges {
			for _, s := range edges {
				made := impl.Sig{Key: key, E: e, S: s}
				wantSigRight(t, made, true)
				for _, text := range []string{"", "hello", mixed(impl.MaxBytes - 10), mixed(impl.MaxBytes)} {
					wantCheck(t, made, text, plainCheck(made, text))
				}
				wantCheck(t, made, mixed(impl.MaxBytes), e == 0)
				wantCheck(t, made, mixed(impl.MaxBytes+1), false)
			}
		}
	}
}

func TestSigRight(t *testing.T) {
	inside := []int64{0, 1, 2, impl.GroupQ / 2, impl.GroupQ - 2, impl.GroupQ - 1}
	outside := append(belowNought(), impl.GroupQ, impl.GroupQ+1, impl.GroupP, 1<<32, math.MaxInt64)
	for _, n := range inside {
		for _, k := range inside {
			wantSigRight(t, impl.Sig{Key: impl.GroupG, E: n, S: k}, true)
		}
		for _, k := range outside {
			wantSigRight(t, impl.Sig{Key: impl.GroupG, E: n, S: k}, false)
			wantSigRight(t, impl.Sig{Key: impl.GroupG, E: k, S: n}, false)
		}
	}
	for _, key := range someUnits() {
		wantSigRight(t, impl.Sig{Key: key, E: 5, S: 6}, key != 1 && isSquare(key))
	}
	for _, key := range noUnits() {
		wantSigRight(t, impl.Sig{Key: key, E: 5, S: 6}, false)
	}
	wantSigRight(t, impl.Sig{}, false)
	wantSigRight(t, impl.Sig{Key: 1}, false)
}

// All of these would pass, if numbers were taken modulo GroupQ and GroupP.
func TestWhatIsNotRightDoesNotPass(t *testing.T) {
	for _, x := range someSecrets() {
		s := impl.SignText(x, "hello")
		for _, turned := range []impl.Sig{
			{Key: s.Key, E: s.E + impl.GroupQ, S: s.S}, {Key: s.Key, E: s.E - impl.GroupQ, S: s.S},
			{Key: s.Key, E: s.E, S: s.S + impl.GroupQ}, {Key: s.Key, E: s.E, S: s.S - impl.GroupQ},
			{Key: s.Key, E: s.E, S: s.S + 1<<32}, {Key: s.Key, E: s.E + 1<<32, S: s.S},
			{Key: s.Key + impl.GroupP, E: s.E, S: s.S}, {Key: s.Key - impl.GroupP, E: s.E, S: s.S},
			{Key: impl.GroupP - s.Key, E: s.E, S: s.S}, {Key: -s.Key, E: s.E, S: s.S},
		} {
			wantSigRight(t, turned, false)
			wantCheck(t, turned, "hello", false)
		}
	}
}

// Behind the longest texts the Challenge is 0, so that E 0 fails only for what is not right.
func TestKeysAndNumbersThatAreNotRightDoNotPass(t *testing.T) {
	text := mixed(impl.MaxBytes)
	wantCheck(t, impl.Sig{Key: impl.GroupG, E: 0, S: 0}, text, true)
	wantCheck(t, impl.Sig{Key: impl.GroupG, E: 0, S: impl.GroupQ - 1}, text, true)
	for _, key := range append(noUnits(), 1, 2, impl.GroupP-4, impl.GroupP-1) {
		wantCheck(t, impl.Sig{Key: key, E: 0, S: 1}, text, false)
		wantCheck(t, impl.Sig{Key: key, E: 0, S: 1}, "hello", false)
	}
	for _, wrong := range append(belowNought(), impl.GroupQ, impl.GroupQ+1, math.MaxInt64) {
		wantCheck(t, impl.Sig{Key: impl.GroupG, E: 0, S: wrong}, text, false)
		wantCheck(t, impl.Sig{Key: impl.GroupG, E: wrong, S: 0}, text, false)
		wantCheck(t, impl.Sig{Key: impl.GroupG, E: wrong, S: wrong}, "", false)
	}
	wantCheck(t, impl.Sig{}, "", false)
	wantCheck(t, impl.Sig{}, text, false)
}

func TestWhatIsNoSecretSignsNothing(t *testing.T) {
	for _, x := range noSecrets() {
		for _, text := range []string{"", "hello", mixed(impl.MaxBytes)} {
			wantSig(t, x, text, impl.Sig{})
		}
	}
}

func TestSignaturesAreTheSameEachTime(t *testing.T) {
	first := impl.SignText(1001, "hello")
	for range 3 {
		wantSig(t, 0, "hello", impl.Sig{})
		wantSig(t, 1002, "hello", plainSig(1002, "hello"))
		wantCheck(t, first, "other", false)
		wantSig(t, 1001, "hello", first)
		wantCheck(t, first, "hello", true)
	}
}

func TestSignaturesMadeAtTheSameTime(t *testing.T) {
	var made [16]impl.Sig
	var passed [16]bool
	var all sync.WaitGroup
	for i := range made {
		all.Go(func() {
			made[i] = impl.SignText(int64(i)+1, mixed(i))
			passed[i] = impl.SigCheck(made[i], mixed(i))
		})
	}
	all.Wait()
	for i, s := range made {
		if want := plainSig(int64(i)+1, mixed(i)); s != want || !passed[i] {
			t.Errorf("the secret %d: got %+v, which passes: %t; want %+v", i+1, s, passed[i], want)
		}
	}
}
