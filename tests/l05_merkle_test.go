package tests

import (
	"encoding/hex"
	"math"
	"slices"
	"strconv"
	"strings"
	"testing"

	"loop.example/g00279/impl"
)

const mostTree = 1 << 40

func showProof(proof []string) string {
	var out []string
	for _, hash := range proof {
		out = append(out, hex.EncodeToString([]byte(hash[:min(6, len(hash))]))+":"+strconv.Itoa(len(hash)))
	}
	return "[" + strings.Join(out[:min(12, len(out))], " ") + "] of " + strconv.Itoa(len(proof))
}

func wantRoot(t *testing.T, what string, leaves []string, want string) {
	t.Helper()
	if got := impl.TreeRoot(leaves); got != want {
		t.Errorf("TreeRoot of %s: got %x, want %x", what, got, want)
	}
}

func wantProof(t *testing.T, what string, got impl.ProofOut, proof []string, code int64) {
	t.Helper()
	if !slices.Equal(got.Proof, proof) || got.Code != code {
		t.Errorf("%s: got %s Code %d, want %s Code %d", what, showProof(got.Proof), got.Code, showProof(proof), code)
	}
}

// inclusion and consistency are what the two checks are asked.
type inclusion struct {
	leaf  string
	at    int64
	size  int64
	proof []string
	root  string
}

type consistency struct {
	first int64
	size  int64
	proof []string
	old   string
	root  string
}

func (c inclusion) passes() bool {
	return impl.InclusionCheck(c.leaf, c.at, c.size, c.proof, c.root)
}

func (c consistency) passes() bool {
	return impl.ConsistencyCheck(c.first, c.size, c.proof, c.old, c.root)
}

func wantIn(t *testing.T, what string, c inclusion, want bool) {
	t.Helper()
	if got := c.passes(); got != want {
		t.Errorf("%s: InclusionCheck(%.6x, %d, %d, %s, %.6x): got %t, want %t", what, c.leaf, c.at, c.size, showProof(c.proof), c.root, got, want)
	}
}

func wantBegins(t *testing.T, what string, c consistency, want bool) {
	t.Helper()
	if got := c.passes(); got != want {
		t.Errorf("%s: ConsistencyCheck(%d, %d, %s, %.6x, %.6x): got %t, want %t", what, c.first, c.size, showProof(c.proof), c.old, c.root, got, want)
	}
}

func plainLeaf(text string) string {
	return sumOf("\x00" + text)
}

func plainNode(left string, right string) string {
	return sumOf("\x01" + left + right)
}

// levelAbove puts two and two together; one that is left over goes up as it is.
func levelAbove(level []string) []string {
	var out []string
	for i := 0; i < len(level); i += 2 {
		if i+1 < len(level) {
			out = append(out, plainNode(level[i], level[i+1]))
		} else {
			out = append(out, level[i])
		}
	}
	return out
}

func lowestLevel(leaves []string) []string {
	var out []string
	for _, leaf := range leaves {
		out = append(out, plainLeaf(leaf))
	}
	return out
}

// plainRoot and plainPath go up level by level, where the document goes down by powers of 2.
func plainRoot(leaves []string) string {
	if len(leaves) == 0 {
		return sumOf("")
	}
	level := lowestLevel(leaves)
	for len(level) > 1 {
		level = levelAbove(level)
	}
	return level[0]
}

func plainPath(leaves []string, at int) []string {
	var out []string
	for level := lowestLevel(leaves); len(level) > 1; level = levelAbove(level) {
		if beside := at ^ 1; beside < len(level) {
			out = append(out, level[beside])
		}
		at /= 2
	}
	return out
}

// plainBeginning goes up from the last of the first leaves: what stands right of it, and, where that is not whole, it and what is left of it.
func plainBeginning(leaves []string, first int) []string {
	if first == len(leaves) {
		return nil
	}
	var out []string
	at, level := first-1, lowestLevel(leaves)
	for at%2 == 1 {
		at, level = at/2, levelAbove(level)
	}
	if at > 0 {
		out = append(out, level[at])
	}
	for ; len(level) > 1; level = levelAbove(level) {
		if beside := at ^ 1; beside < len(level) {
			out = append(out, level[beside])
		}
		at /= 2
	}
	return out
}

// halfOf is the greatest power of 2 below a size.
func halfOf(size int64) int64 {
	k := int64(1)
	for 2*k < size {
		k *= 2
	}
	return k
}

// ledTo goes the way of a proof from the root's side down, and tells whether its length is that of the place's path.
func ledTo(leaf string, at int64, size int64, proof []string) (string, bool) {
	if size == 1 || len(proof) == 0 {
		return leaf, size == 1 && len(proof) == 0
	}
	k, below, top := halfOf(size), proof[:len(proof)-1], proof[len(proof)-1]
	if at < k {
		hash, ok := ledTo(leaf, at, k, below)
		return plainNode(hash, top), ok
	}
	hash, ok := ledTo(leaf, at-k, size-k, below)
	return plainNode(top, hash), ok
}

// ledToBoth is the same for a beginning: the old root and the root that a proof leads to.
func ledToBoth(first int64, size int64, proof []string, old string, known bool) (string, string, bool) {
	if first == size && known {
		return old, old, len(proof) == 0
	}
	if len(proof) == 0 {
		return old, old, false
	}
	below, top := proof[:len(proof)-1], proof[len(proof)-1]
	if first == size {
		return top, top, len(below) == 0
	}
	k := halfOf(size)
	if first <= k {
		a, b, ok := ledToBoth(first, k, below, old, known)
		return a, plainNode(b, top), ok
	}
	a, b, ok := ledToBoth(first-k, size-k, below, old, false)
	return plainNode(top, a), plainNode(top, b), ok
}

func plainIn(c inclusion) bool {
	root, ok := ledTo(c.leaf, c.at, c.size, c.proof)
	return ok && root == c.root
}

func plainBegins(c consistency) bool {
	old, root, ok := ledToBoth(c.first, c.size, c.proof, c.old, true)
	return ok && old == c.old && root == c.root
}

// someLeaves are unlike texts, the empty one among them.
func someLeaves(count int) []string {
	out := make([]string, 0, count)
	for i := range count {
		out = append(out, mixed(i * 5)[i:])
	}
	return out
}

// madeUp are that many unlike hashes of nothing that is known.
func madeUp(count int) []string {
	var out []string
	for i := range count {
		out = append(out, sumOf("made up "+strconv.Itoa(i)))
	}
	return out
}

func inclusionOf(leaves []string, at int) inclusion {
	return inclusion{leaf: plainLeaf(leaves[at]), at: int64(at), size: int64(len(leaves)), proof: plainPath(leaves, at), root: plainRoot(leaves)}
}

func consistencyOf(leaves []string, first int) consistency {
	return consistency{first: int64(first), size: int64(len(leaves)), proof: plainBeginning(leaves, first), old: plainRoot(leaves[:first]), root: plainRoot(leaves)}
}

// depthOf is how often a tree of that size parts, at the most.
func depthOf(size int) int {
	depth := 0
	for 1<<depth < size {
		depth++
	}
	return depth
}

// wrongHashesOf are texts near to a hash, but not of 32 bytes.
func wrongHashesOf(hash string) []string {
	return []string{"", hash[:1], hash[:31], hash[1:], hash + "\x00", "\x00" + hash, hash + hash, mixed(impl.MaxBytes), mixed(impl.MaxBytes + 1)}
}

// turned has one bit of a text turned.
func turned(text string, bit int) string {
	out := []byte(text)
	out[bit/8] ^= 1 << (bit % 8)
	return string(out)
}

// with has another hash at a place of a list.
func with(list []string, at int, hash string) []string {
	out := slices.Clone(list)
	out[at] = hash
	return out
}

// otherProofs are those near to one: one hash another one, left out, or one too many; two of them the other way round.
func otherProofs(proof []string) [][]string {
	var out [][]string
	for i, hash := range proof {
		for _, bit := range []int{0, 100, 255} {
			out = append(out, with(proof, i, turned(hash, bit)))
		}
		out = append(out, slices.Delete(slices.Clone(proof), i, i+1), proof[:i])
		if i > 0 && hash != proof[i-1] {
			out = append(out, with(with(proof, i, proof[i-1]), i-1, hash))
		}
	}
	for i := range len(proof) + 1 {
		for _, more := range append(madeUp(1), proof...) {
			out = append(out, slices.Insert(slices.Clone(proof), i, more))
		}
	}
	return out
}

// rfcLeaves are the leaves by which logs are commonly tested.
func rfcLeaves() []string {
	return []string{"", "\x00", "\x10", "\x20\x21", "\x30\x31", "\x40\x41\x42\x43", "\x50\x51\x52\x53\x54\x55\x56\x57",
		"\x60\x61\x62\x63\x64\x65\x66\x67\x68\x69\x6a\x6b\x6c\x6d\x6e\x6f"}
}

func fromHex(t *testing.T, digits ...string) []string {
	t.Helper()
	var out []string
	for _, d := range digits {
		b, err := hex.DecodeString(d)
		if err != nil {
			t.Fatal(err)
		}
		out = append(out, string(b))
	}
	return out
}

func TestKnownRoots(t *testing.T) {
	roots := fromHex(t,
		"e3b0c44298fc1c149afbf4c8996fb92427ae41e4649b934ca495991b7852b855",
		"6e340b9cffb37a989ca544e6bb780a2c78901d3fb33738768511a30617afa01d",
		"fac54203e7cc696cf0dfcb42c92a1d9dbaf70ad9e621f4bd8d98662f00e3c125",
		"aeb6bcfe274b70a14fb067a5e5578264db0fa9b51af5e0ba159158f329e06e77",
		"d37ee418976dd95753c1c73862b9398fa2a2cf9b4ff0fdfe8b30cd95209614b7",
		"4e3bbb1f7b478dcfe71fb631631519a3bca12c9aefca1612bfce4c13a86264d4",
		"76e67dadbcdf1e10e1b74ddc608abd2f98dfb16fbce75277b5232a127f2087ef",
		"ddb89be403809e325750d3d263cd78929c2942b7942a34b77e122c9594a74c8c",
		"5dc9da79a70659a9ad559cb701ded9a2ab9d823aad2f4960cfe370eff4604328",
	)
	for size, root := range roots {
		wantRoot(t, strconv.Itoa(size)+" leaves", rfcLeaves()[:size], root)
	}
}

func TestKnownProofs(t *testing.T) {
	hashes := fromHex(t,
		"96a296d224f285c67bee93c30f8a309157f0daa35dc5b87e410b78630a09cfc7",
		"5f083f0a1a33ca076a95279832580db3e0ef4584bdff1f54c8a360f50de3031e",
		"6b47aaf29ee3c2af9af889bc1fb9254dabd31177f16232dd6aab035ca39bf6e4",
		"bc1a0643b12e4d2d7c77918f44e0f4f79a838b6cf9ec5b5c283e1f4d88599e6b",
		"ca854ea128ed050b41b35ffc1b87b8eb2bde461e9e3b5596ece6b9d5975a0ae0",
		"d37ee418976dd95753c1c73862b9398fa2a2cf9b4ff0fdfe8b30cd95209614b7",
		"0ebc5d3437fbe2db158b9f126a1d118e308181031d0a949f8dededebc558ef6a",
		"fac54203e7cc696cf0dfcb42c92a1d9dbaf70ad9e621f4bd8d98662f00e3c125",
	)
	pick := func(places ...int) []string {
		var out []string
		for _, at := range places {
			out = append(out, hashes[at])
		}
		return out
	}
	l := rfcLeaves()
	wantProof(t, "the only one", impl.InclusionProof(l[:1], 0), nil, impl.OK)
	wantProof(t, "the first of 8", impl.InclusionProof(l, 0), pick(0, 1, 2), impl.OK)
	wantProof(t, "the sixth of 8", impl.InclusionProof(l, 5), pick(3, 4, 5), impl.OK)
	wantProof(t, "the third of 3", impl.InclusionProof(l[:3], 2), pick(7), impl.OK)
	wantProof(t, "1 of 1", impl.ConsistencyProof(l[:1], 1), nil, impl.OK)
	wantProof(t, "1 of 8", impl.ConsistencyProof(l, 1), pick(0, 1, 2), impl.OK)
	wantProof(t, "6 of 8", impl.ConsistencyProof(l, 6), pick(6, 4, 5), impl.OK)
	wantProof(t, "2 of 5", impl.ConsistencyProof(l[:5], 2), pick(1, 3), impl.OK)
}

func TestLeafHash(t *testing.T) {
	for _, size := range []int{0, 1, 2, 31, 32, 54, 55, 56, 62, 63, 64, 65, 1000, impl.MaxBytes - 2, impl.MaxBytes - 1} {
		if got, want := impl.LeafHash(mixed(size)), plainLeaf(mixed(size)); got != want {
			t.Errorf("LeafHash of %d bytes: got %x, want %x", size, got, want)
		}
	}
	for _, size := range []int{impl.MaxBytes, impl.MaxBytes + 1, impl.MaxBytes + 2, 2 * impl.MaxBytes} {
		if got := impl.LeafHash(mixed(size)); got != "" {
			t.Errorf("LeafHash of %d bytes: got %x", size, got)
		}
	}
}

func TestNodeHash(t *testing.T) {
	h := append(madeUp(4), strings.Repeat("\x00", 32), strings.Repeat("\xff", 32))
	for _, left := range h {
		for _, right := range h {
			if got, want := impl.NodeHash(left, right), plainNode(left, right); got != want {
				t.Errorf("NodeHash(%x, %x): got %x, want %x", left, right, got, want)
			}
		}
	}
	for _, wrong := range wrongHashesOf(h[0]) {
		for _, other := range append(wrongHashesOf(h[1]), h...) {
			if impl.NodeHash(wrong, other) != "" || impl.NodeHash(other, wrong) != "" {
				t.Errorf("NodeHash of %d and %d bytes is told", len(wrong), len(other))
			}
		}
	}
	if impl.NodeHash(h[0][:31], h[0][31:]+h[1]) != "" {
		t.Error("NodeHash takes 31 and 33 bytes")
	}
}

// A leaf that reads like a pair of hashes is none, and a pair the other way round is another one.
func TestLeavesAndNodesAreUnlike(t *testing.T) {
	h := madeUp(2)
	seen := map[string]int{}
	for i, hash := range []string{
		impl.NodeHash(h[0], h[1]), impl.NodeHash(h[1], h[0]), impl.LeafHash(h[0] + h[1]), impl.LeafHash("\x01" + h[0] + h[1]),
		impl.Digest(h[0] + h[1]), impl.LeafHash(""), impl.TreeRoot(nil), impl.TreeRoot([]string{"", ""}),
	} {
		if other, ok := seen[hash]; ok {
			t.Errorf("the hashes %d and %d are alike", other, i)
		}
		seen[hash] = i
	}
}

func TestTreeRoot(t *testing.T) {
	for size := range impl.MaxLeaves + 1 {
		leaves := someLeaves(size)
		wantRoot(t, strconv.Itoa(size)+" leaves", leaves, plainRoot(leaves))
		same := slices.Repeat([]string{"x"}, size)
		wantRoot(t, strconv.Itoa(size)+" like leaves", same, plainRoot(same))
	}
	wantRoot(t, "an empty list", []string{}, sumOf(""))
	wantRoot(t, "an empty leaf", []string{""}, plainLeaf(""))
	longest := slices.Repeat([]string{mixed(impl.MaxBytes - 1)}, impl.MaxLeaves)
	wantRoot(t, "64 leaves of MaxBytes less 1 bytes", longest, plainRoot(longest))
}

func TestLeavesWithoutARoot(t *testing.T) {
	for _, count := range []int{65, 66, 127, 128, 129, 399, 400, 401, 402, 1000} {
		wantRoot(t, strconv.Itoa(count)+" leaves", someLeaves(count)[:count], "")
	}
	for _, size := range []int{impl.MaxBytes, impl.MaxBytes + 1, 2 * impl.MaxBytes} {
		for _, count := range []int{1, 2, 3, 63, 64} {
			for _, at := range []int{0, count / 2, count - 1} {
				wantRoot(t, "a leaf that is too long", with(someLeaves(count), at, mixed(size)), "")
			}
		}
	}
}

// Promise 5, its first half.
func TestEachLeafIsShownToBeInItsTree(t *testing.T) {
	for size := 1; size <= impl.MaxLeaves; size++ {
		leaves := someLeaves(size)
		root := impl.TreeRoot(leaves)
		for at, leaf := range leaves {
			got := impl.InclusionProof(leaves, int64(at))
			wantProof(t, "InclusionProof", got, plainPath(leaves, at), impl.OK)
			if len(got.Proof) > depthOf(size) {
				t.Errorf("the proof of %d in %d is %d long", at, size, len(got.Proof))
			}
			wantIn(t, "each leaf", inclusion{leaf: impl.LeafHash(leaf), at: int64(at), size: int64(size), proof: got.Proof, root: root}, true)
		}
	}
}

// Promise 5, its second half.
func TestAnyFirstLeavesAreShownToBeABeginning(t *testing.T) {
	for size := 1; size <= impl.MaxLeaves; size++ {
		leaves := someLeaves(size)
		root := impl.TreeRoot(leaves)
		for first := 1; first <= size; first++ {
			got := impl.ConsistencyProof(leaves, int64(first))
			wantProof(t, "ConsistencyProof", got, plainBeginning(leaves, first), impl.OK)
			if len(got.Proof) > depthOf(size)+1 {
				t.Errorf("the proof of %d of %d is %d long", first, size, len(got.Proof))
			}
			old := impl.TreeRoot(leaves[:first])
			wantBegins(t, "any first ones", consistency{first: int64(first), size: int64(size), proof: got.Proof, old: old, root: root}, true)
		}
	}
}

func TestLikeLeavesAreShownToo(t *testing.T) {
	for size := 1; size <= impl.MaxLeaves; size++ {
		leaves := slices.Repeat([]string{"x"}, size)
		root := impl.TreeRoot(leaves)
		for at := range size {
			wantIn(t, "like leaves", inclusion{impl.LeafHash("x"), int64(at), int64(size), impl.InclusionProof(leaves, int64(at)).Proof, root}, true)
			first := int64(at + 1)
			wantBegins(t, "like leaves", consistency{first, int64(size), impl.ConsistencyProof(leaves, first).Proof, impl.TreeRoot(leaves[:first]), root}, true)
		}
	}
}

func TestTheLongestLeavesAreShown(t *testing.T) {
	for _, size := range []int{1, 2, 3, 64} {
		leaves := with(someLeaves(size), size-1, mixed(impl.MaxBytes-1))
		for _, at := range []int{0, size - 1} {
			got := impl.InclusionProof(leaves, int64(at))
			wantProof(t, "InclusionProof", got, plainPath(leaves, at), impl.OK)
			wantIn(t, "the longest leaf", inclusion{impl.LeafHash(leaves[at]), int64(at), int64(size), got.Proof, impl.TreeRoot(leaves)}, true)
			wantProof(t, "ConsistencyProof", impl.ConsistencyProof(leaves, int64(at+1)), plainBeginning(leaves, at+1), impl.OK)
		}
	}
}

// treeSizes are those of which each place, and each beginning, is turned and tried.
func treeSizes() []int {
	return []int{1, 2, 3, 4, 5, 6, 7, 8, 9, 11, 13, 16, 17, 31, 33, 63, 64}
}

// Promise 6, its first half: two leaves, or two places, of one tree are never shown by one proof.
func TestAnotherLeafOrPlaceIsNotInTheTree(t *testing.T) {
	for _, size := range treeSizes() {
		leaves := someLeaves(size)
		for at := range size {
			c := inclusionOf(leaves, at)
			wantIn(t, "as it is", c, true)
			for _, bit := range []int{0, 7, 128, 255} {
				wantIn(t, "another leaf", inclusion{turned(c.leaf, bit), c.at, c.size, c.proof, c.root}, false)
				wantIn(t, "another root", inclusion{c.leaf, c.at, c.size, c.proof, turned(c.root, bit)}, false)
			}
			for other := range size {
				if other != at {
					wantIn(t, "a leaf of another place", inclusion{plainLeaf(leaves[other]), c.at, c.size, c.proof, c.root}, false)
					wantIn(t, "another place", inclusion{c.leaf, int64(other), c.size, c.proof, c.root}, false)
				}
			}
			if size > 1 {
				wantIn(t, "the root as a leaf", inclusion{c.root, c.at, c.size, c.proof, c.root}, false)
				wantIn(t, "the text as a leaf", inclusion{leaves[at], c.at, c.size, c.proof, c.root}, false)
			}
		}
	}
}

func TestAnotherInclusionProofDoesNotPass(t *testing.T) {
	for _, size := range treeSizes() {
		leaves := someLeaves(size)
		for at := range size {
			c := inclusionOf(leaves, at)
			for _, proof := range otherProofs(c.proof) {
				wantIn(t, "another proof", inclusion{c.leaf, c.at, c.size, proof, c.root}, false)
			}
		}
	}
}

// What is left out or one too many is refused by the size, also where the rest leads to the root.
func TestProofsOfAnotherLengthDoNotPassByAnotherRoot(t *testing.T) {
	for _, size := range treeSizes() {
		leaves := someLeaves(size)
		more := madeUp(1)[0]
		for at := range size {
			c := inclusionOf(leaves, at)
			for _, root := range []string{plainNode(c.root, more), plainNode(more, c.root), c.root} {
				wantIn(t, "one too many", inclusion{c.leaf, c.at, c.size, append(slices.Clone(c.proof), more), root}, false)
			}
			for cut := range c.proof {
				short := c.proof[:cut]
				root, _ := ledTo(c.leaf, c.at, partOf(c.at, c.size, cut), short)
				wantIn(t, "left out", inclusion{c.leaf, c.at, c.size, short, root}, false)
			}
			if size > 1 {
				wantIn(t, "nothing", inclusion{c.leaf, c.at, c.size, nil, c.leaf}, false)
			}
		}
	}
}

// partOf is a size of which the path at a place goes as the first hashes of a path in a greater tree.
func partOf(at int64, size int64, count int) int64 {
	for part := at + 1; part <= size; part++ {
		if _, ok := ledTo(madeUp(1)[0], at, part, madeUp(count)); ok {
			return part
		}
	}
	return size
}

// Another size is refused where the path goes another way there; where it goes the same way, it says the same.
func TestAnotherSizePassesJustWhereThePathIsTheSame(t *testing.T) {
	passed, refused := 0, 0
	for size := 1; size <= 40; size++ {
		leaves := someLeaves(size)
		for at := range size {
			c := inclusionOf(leaves, at)
			for other := int64(-2); other <= 70; other++ {
				c.size = other
				want := other > c.at && plainIn(c)
				wantIn(t, "another size", c, want)
				if want {
					passed++
				} else {
					refused++
				}
			}
		}
	}
	if passed < 1000 || refused < 10000 {
		t.Errorf("%d passed, %d were refused", passed, refused)
	}
	// Of 3 and of 4 leaves the way from the first is the same, from the last it is not.
	c := inclusionOf(someLeaves(3), 0)
	wantIn(t, "the first of 3", inclusion{c.leaf, 0, 4, c.proof, c.root}, true)
	c = inclusionOf(someLeaves(3), 2)
	wantIn(t, "the last of 3", inclusion{c.leaf, 2, 4, c.proof, c.root}, false)
	wantIn(t, "the last of 2", inclusion{c.leaf, 1, 2, c.proof, c.root}, true)
}

// Promise 6, its second half.
func TestAnotherRootIsNoBeginning(t *testing.T) {
	for _, size := range treeSizes() {
		leaves := someLeaves(size)
		for first := 1; first <= size; first++ {
			c := consistencyOf(leaves, first)
			wantBegins(t, "as it is", c, true)
			for _, bit := range []int{0, 7, 128, 255} {
				wantBegins(t, "another old root", consistency{c.first, c.size, c.proof, turned(c.old, bit), c.root}, false)
				wantBegins(t, "another root", consistency{c.first, c.size, c.proof, c.old, turned(c.root, bit)}, false)
			}
			for other := range size + 1 {
				if other != first {
					wantBegins(t, "the root of others", consistency{c.first, c.size, c.proof, plainRoot(leaves[:other]), c.root}, false)
				}
				if other != size {
					wantBegins(t, "a root of fewer", consistency{c.first, c.size, c.proof, c.old, plainRoot(leaves[:other])}, false)
				}
			}
			wantBegins(t, "both roots the other way round", consistency{c.first, c.size, c.proof, c.root, c.old}, first == size)
		}
	}
}

// Of leaves of which one is another one, the first ones have another root, which no proof of the document's makes the beginning.
func TestWhatIsNoBeginningIsNotShown(t *testing.T) {
	for _, size := range []int{1, 2, 3, 5, 8, 13, 21, 64} {
		leaves := someLeaves(size)
		for first := 1; first <= size; first++ {
			for _, at := range []int{0, first / 2, first - 1} {
				forked := with(leaves, at, "forked")
				old := plainRoot(forked[:first])
				for _, from := range [][]string{leaves, forked} {
					proof := impl.ConsistencyProof(from, int64(first)).Proof
					wantBegins(t, "a fork", consistency{int64(first), int64(size), proof, old, plainRoot(leaves)}, false)
				}
			}
		}
	}
}

func TestAnotherConsistencyProofDoesNotPass(t *testing.T) {
	for _, size := range treeSizes() {
		leaves := someLeaves(size)
		for first := 1; first <= size; first++ {
			c := consistencyOf(leaves, first)
			for _, proof := range otherProofs(c.proof) {
				wantBegins(t, "another proof", consistency{c.first, c.size, proof, c.old, c.root}, false)
			}
			wantBegins(t, "the old root ahead", consistency{c.first, c.size, append([]string{c.old}, c.proof...), c.old, c.root}, false)
		}
	}
}

func TestConsistencyProofsOfAnotherLengthDoNotPassByAnotherRoot(t *testing.T) {
	for _, size := range treeSizes() {
		leaves := someLeaves(size)
		more := madeUp(1)[0]
		for first := 1; first <= size; first++ {
			c := consistencyOf(leaves, first)
			long := append(slices.Clone(c.proof), more)
			for _, old := range []string{c.old, plainNode(more, c.old)} {
				for _, root := range []string{c.root, plainNode(c.root, more), plainNode(more, c.root)} {
					wantBegins(t, "one too many", consistency{c.first, c.size, long, old, root}, false)
				}
			}
			for cut := range c.proof {
				for _, part := range []int64{c.first, c.first + 1, c.size / 2, c.size - 1} {
					old, root, _ := ledToBoth(c.first, max(part, c.first), c.proof[:cut], c.old, true)
					wantBegins(t, "left out", consistency{c.first, c.size, c.proof[:cut], old, root}, false)
				}
			}
			if first < size {
				wantBegins(t, "nothing", consistency{c.first, c.size, nil, c.old, c.old}, false)
				wantBegins(t, "nothing, to the root", consistency{c.first, c.size, nil, c.root, c.root}, false)
			}
		}
	}
}

func TestAnotherFirstIsNoBeginning(t *testing.T) {
	for size := 1; size <= 40; size++ {
		leaves := someLeaves(size)
		for first := 1; first <= size; first++ {
			c := consistencyOf(leaves, first)
			for other := int64(-2); other <= int64(size)+2; other++ {
				wantBegins(t, "another first", consistency{other, c.size, c.proof, c.old, c.root}, other == int64(first))
			}
		}
	}
}

// As of a leaf: a size of which the way is the same says the same; all others are refused.
func TestAnotherSizeOfABeginningPassesJustWhereTheWayIsTheSame(t *testing.T) {
	passed, refused := 0, 0
	for size := 1; size <= 24; size++ {
		leaves := someLeaves(size)
		for first := 1; first <= size; first++ {
			c := consistencyOf(leaves, first)
			for other := int64(-2); other <= 40; other++ {
				c.size = other
				want := other >= c.first && plainBegins(c)
				wantBegins(t, "another size", c, want)
				if want {
					passed++
				} else {
					refused++
				}
			}
		}
	}
	if passed < 500 || refused < 5000 {
		t.Errorf("%d passed, %d were refused", passed, refused)
	}
	c := consistencyOf(someLeaves(7), 3)
	wantBegins(t, "3 of 8 by the way of 3 of 7", consistency{3, 8, c.proof, c.old, c.root}, true)
	wantBegins(t, "3 of 9 by the way of 3 of 7", consistency{3, 9, c.proof, c.old, c.root}, false)
}

// Whatever hashes a proof is made of, it passes just with the roots to which it leads.
func TestMadeUpProofsLeadWhereTheDocumentSays(t *testing.T) {
	leaf := sumOf("leaf")
	for size := int64(1); size <= 20; size++ {
		for at := range size {
			for count := range 8 {
				proof := madeUp(count)
				root, ok := ledTo(leaf, at, size, proof)
				wantIn(t, "made up", inclusion{leaf, at, size, proof, root}, ok)
				for _, known := range []string{leaf, proof0(proof, leaf)} {
					old, root, ok := ledToBoth(at+1, size, proof, known, true)
					c := consistency{at + 1, size, proof, old, root}
					wantBegins(t, "made up", c, ok && plainBegins(c))
				}
			}
		}
	}
}

func proof0(proof []string, other string) string {
	if len(proof) > 0 {
		return proof[0]
	}
	return other
}

// placesIn are those at the ends of a great tree, and around its powers of 2.
func placesIn(size int64) []int64 {
	var out []int64
	for _, at := range []int64{0, 1, 2, 3, size / 3, size/2 - 1, size / 2, size/2 + 1, size - 3, size - 2, size - 1} {
		if 0 <= at && at < size {
			out = append(out, at)
		}
	}
	for power := int64(4); power < size; power *= 8 {
		out = append(out, power-1, power, min(power+1, size-1))
	}
	return out
}

func lengthOfPath(at int64, size int64) int {
	for count := 0; ; count++ {
		if _, ok := ledTo(madeUp(1)[0], at, size, madeUp(count)); ok {
			return count
		}
	}
}

func lengthOfBeginning(first int64, size int64) int {
	for count := 0; ; count++ {
		if _, _, ok := ledToBoth(first, size, madeUp(count), madeUp(1)[0], true); ok {
			return count
		}
	}
}

// madeUpBeginning has the proof, and the old root, that a great tree's first ones may have.
func madeUpBeginning(first int64, size int64) consistency {
	proof := madeUp(lengthOfBeginning(first, size))
	old, root, _ := ledToBoth(first, size, proof, sumOf("old"), true)
	return consistency{first, size, proof, old, root}
}

func TestGreatTrees(t *testing.T) {
	leaf := sumOf("leaf")
	for _, size := range []int64{1, 2, 3, 63, 64, 65, 1000000, 1<<31 - 1, 1 << 31, 1<<32 - 1, 1 << 32, 1<<32 + 1, mostTree/2 + 1, mostTree - 1, mostTree} {
		for _, at := range placesIn(size) {
			proof := madeUp(lengthOfPath(at, size))
			root, _ := ledTo(leaf, at, size, proof)
			wantIn(t, "a great tree", inclusion{leaf, at, size, proof, root}, true)
			wantIn(t, "another root", inclusion{leaf, at, size, proof, turned(root, 3)}, false)
			wantIn(t, "one too many", inclusion{leaf, at, size, append(proof, leaf), root}, false)
			c := madeUpBeginning(at+1, size)
			wantBegins(t, "a great tree", c, true)
			wantBegins(t, "another old root", consistency{c.first, c.size, c.proof, turned(c.old, 3), c.root}, false)
			wantBegins(t, "one too many", consistency{c.first, c.size, append(c.proof, leaf), c.old, c.root}, false)
		}
	}
	if count := lengthOfPath(0, mostTree); count != 40 {
		t.Errorf("the greatest tree has paths of %d", count)
	}
}

// All of these would pass, if there were no greatest size.
func TestTreesThatAreTooGreat(t *testing.T) {
	leaf := sumOf("leaf")
	for _, size := range []int64{mostTree + 1, mostTree + 2, 2 * mostTree, 1 << 62} {
		for _, at := range []int64{0, 1, mostTree - 1, mostTree, size - 1} {
			proof := madeUp(lengthOfPath(at, size))
			root, _ := ledTo(leaf, at, size, proof)
			wantIn(t, "too great", inclusion{leaf, at, size, proof, root}, false)
			wantBegins(t, "too great", madeUpBeginning(at+1, size), false)
		}
		wantBegins(t, "too great, and all of it", consistency{size, size, nil, leaf, leaf}, false)
	}
	wantBegins(t, "the greatest, and all of it", consistency{mostTree, mostTree, nil, leaf, leaf}, true)
}

// oddNumbers are those that are no size, no place and no first.
func oddNumbers() []int64 {
	return []int64{math.MinInt64, math.MinInt64 + 1, -mostTree - 1, -mostTree, -(1 << 32), -64, -2, -1}
}

func TestSizesPlacesAndFirstsOutsideTheirBounds(t *testing.T) {
	leaf := sumOf("leaf")
	ends := append(oddNumbers(), 0, mostTree+1, 1<<62, math.MaxInt64-1, math.MaxInt64)
	for _, proof := range [][]string{nil, madeUp(1), madeUp(2), madeUp(40)} {
		root, _ := ledTo(leaf, 0, 1<<len(proof), proof)
		for _, size := range ends {
			for _, at := range append(ends, 1, size-1, size, size+1) {
				wantIn(t, "no size", inclusion{leaf, at, size, proof, root}, false)
				wantBegins(t, "no size", consistency{at, size, proof, root, root}, false)
			}
		}
		for _, size := range []int64{1, 2, 3, 64, mostTree} {
			for _, at := range append(oddNumbers(), size, size+1, mostTree+1, math.MaxInt64-1, math.MaxInt64) {
				wantIn(t, "no place", inclusion{leaf, at, size, proof, root}, false)
			}
			for _, first := range append(oddNumbers(), 0, size+1, size+2, mostTree+1, math.MaxInt64-1, math.MaxInt64) {
				wantBegins(t, "no first", consistency{first, size, proof, root, root}, false)
				wantBegins(t, "no first", consistency{first, size, proof, leaf, root}, false)
			}
		}
	}
	wantIn(t, "the only one", inclusion{leaf, 0, 1, nil, leaf}, true)
	wantIn(t, "the only one, an empty list", inclusion{leaf, 0, 1, []string{}, leaf}, true)
	wantIn(t, "none, of the empty tree", inclusion{sumOf(""), 0, 0, nil, sumOf("")}, false)
	wantBegins(t, "all of one", consistency{1, 1, nil, leaf, leaf}, true)
	wantBegins(t, "nothing of one", consistency{0, 1, nil, sumOf(""), leaf}, false)
	wantBegins(t, "nothing of nothing", consistency{0, 0, nil, sumOf(""), sumOf("")}, false)
}

func TestTheWholeIsItsOwnBeginning(t *testing.T) {
	h := madeUp(3)
	for _, size := range []int64{1, 2, 3, 4, 63, 64, 65, mostTree - 1, mostTree} {
		wantBegins(t, "all", consistency{size, size, nil, h[0], h[0]}, true)
		wantBegins(t, "all, an empty list", consistency{size, size, []string{}, h[0], h[0]}, true)
		wantBegins(t, "all, unlike", consistency{size, size, nil, h[0], h[1]}, false)
		for _, proof := range [][]string{h[:1], h[1:2], h[:2], h} {
			wantBegins(t, "all, with a proof", consistency{size, size, proof, h[0], h[0]}, false)
		}
	}
}

func TestHashesOfAnotherLengthDoNotPass(t *testing.T) {
	for _, size := range []int{1, 2, 3, 6, 7, 8} {
		leaves := someLeaves(size)
		for at := range size {
			c, b := inclusionOf(leaves, at), consistencyOf(leaves, at+1)
			for _, wrong := range wrongHashesOf(c.leaf) {
				wantIn(t, "leaf", inclusion{wrong, c.at, c.size, c.proof, c.root}, false)
				wantIn(t, "leaf and root", inclusion{wrong, c.at, c.size, c.proof, wrong}, false)
				wantIn(t, "no proof", inclusion{wrong, c.at, c.size, nil, wrong}, false)
			}
			for _, wrong := range wrongHashesOf(c.root) {
				wantIn(t, "root", inclusion{c.leaf, c.at, c.size, c.proof, wrong}, false)
				wantBegins(t, "root", consistency{b.first, b.size, b.proof, b.old, wrong}, false)
				wantBegins(t, "both", consistency{b.first, b.size, b.proof, wrong, wrong}, false)
				wantBegins(t, "no proof", consistency{b.first, b.size, nil, wrong, wrong}, false)
			}
			for _, wrong := range wrongHashesOf(b.old) {
				wantBegins(t, "old", consistency{b.first, b.size, b.proof, wrong, b.root}, false)
			}
			for i, hash := range c.proof {
				for _, wrong := range wrongHashesOf(hash) {
					wantIn(t, "proof", inclusion{c.leaf, c.at, c.size, with(c.proof, i, wrong), c.root}, false)
				}
			}
			for i, hash := range b.proof {
				for _, wrong := range wrongHashesOf(hash) {
					wantBegins(t, "proof", consistency{b.first, b.size, with(b.proof, i, wrong), b.old, b.root}, false)
				}
			}
		}
	}
}

// These lead to a root that is the digest of a byte 1 and two texts, but not of 32 bytes each.
func TestPairsOfOtherLengthsLeadNowhere(t *testing.T) {
	h := madeUp(2)
	both := h[0] + h[1]
	root := plainNode(h[0], h[1])
	for cut := range 65 {
		left, right := both[:cut], both[cut:]
		wantIn(t, "from the left", inclusion{left, 0, 2, []string{right}, root}, cut == 32)
		wantIn(t, "from the right", inclusion{right, 1, 2, []string{left}, root}, cut == 32)
		wantBegins(t, "1 of 2", consistency{1, 2, []string{right}, left, root}, cut == 32)
	}
}

func TestProofsThatAreTooLong(t *testing.T) {
	for _, count := range []int{41, 42, 64, 399, 400, 401, 402, 2000} {
		proof := slices.Repeat(madeUp(1), count)
		for _, size := range []int64{1, 2, 64, mostTree} {
			for _, at := range []int64{0, size / 2, size - 1} {
				wantIn(t, "too long", inclusion{proof[0], at, size, proof, proof[0]}, false)
				wantBegins(t, "too long", consistency{at + 1, size, proof, proof[0], proof[0]}, false)
			}
		}
	}
}

func TestProofFaultsInTheirOrder(t *testing.T) {
	long := mixed(impl.MaxBytes)
	for _, c := range []struct {
		what   string
		leaves []string
		code   int64
	}{
		{"64 leaves", someLeaves(64), impl.OK},
		{"65 leaves", someLeaves(65), impl.ErrForm},
		{"MaxList leaves", slices.Repeat([]string{"a"}, impl.MaxList), impl.ErrForm},
		{"one more than MaxList", slices.Repeat([]string{"a"}, impl.MaxList+1), impl.ErrSize},
		{"many more than MaxList", slices.Repeat([]string{""}, 5*impl.MaxList), impl.ErrSize},
		{"a leaf of MaxBytes less 1", []string{"a", long[1:]}, impl.OK},
		{"a leaf of MaxBytes", []string{"a", long}, impl.ErrForm},
		{"the only leaf of MaxBytes", []string{long}, impl.ErrForm},
		{"a leaf of more than MaxBytes", []string{long + "a", "a"}, impl.ErrForm},
		{"65 leaves, one of more than MaxBytes", with(someLeaves(65), 64, long+"a"), impl.ErrForm},
		{"too many, one of more than MaxBytes", with(slices.Repeat([]string{"a"}, impl.MaxList+1), 0, long+"a"), impl.ErrSize},
	} {
		count := int64(len(c.leaves))
		for _, n := range append(oddNumbers(), 0, 1, count-1, count, count+1, 64, mostTree, math.MaxInt64-1, math.MaxInt64) {
			got, code := impl.InclusionProof(c.leaves, n), c.code
			if code == impl.OK && (n < 0 || n >= count) {
				code = impl.ErrNone
			}
			wantCode(t, c.what+", InclusionProof at "+strconv.FormatInt(n, 10), got, code)
			got, code = impl.ConsistencyProof(c.leaves, n), c.code
			if code == impl.OK && (n < 1 || n > count) {
				code = impl.ErrNone
			}
			wantCode(t, c.what+", ConsistencyProof of "+strconv.FormatInt(n, 10), got, code)
		}
	}
}

// wantCode also wants nothing beside a code but OK.
func wantCode(t *testing.T, what string, got impl.ProofOut, code int64) {
	t.Helper()
	if got.Code != code || code != impl.OK && len(got.Proof) > 0 {
		t.Errorf("%s: got %s Code %d, want Code %d", what, showProof(got.Proof), got.Code, code)
	}
}

func TestNoLeavesHaveNoProofs(t *testing.T) {
	for _, leaves := range [][]string{nil, {}} {
		for _, n := range append(oddNumbers(), 0, 1, 2, 64, math.MaxInt64) {
			wantProof(t, "InclusionProof of none", impl.InclusionProof(leaves, n), nil, impl.ErrNone)
			wantProof(t, "ConsistencyProof of none", impl.ConsistencyProof(leaves, n), nil, impl.ErrNone)
		}
	}
}

func TestProofsAtTheEndsOfEachTree(t *testing.T) {
	for size := 1; size <= impl.MaxLeaves; size++ {
		leaves, n := someLeaves(size), int64(size)
		wantProof(t, "at -1", impl.InclusionProof(leaves, -1), nil, impl.ErrNone)
		wantProof(t, "at size", impl.InclusionProof(leaves, n), nil, impl.ErrNone)
		wantProof(t, "the last one", impl.InclusionProof(leaves, n-1), plainPath(leaves, size-1), impl.OK)
		wantProof(t, "first 0", impl.ConsistencyProof(leaves, 0), nil, impl.ErrNone)
		wantProof(t, "first size and 1", impl.ConsistencyProof(leaves, n+1), nil, impl.ErrNone)
		wantProof(t, "all", impl.ConsistencyProof(leaves, n), nil, impl.OK)
	}
}

// The root of first leaves that are a power of 2 is no part of their proof; of all others a hash more is.
func TestBeginningsThatArePowersOfTwo(t *testing.T) {
	for size := 2; size <= impl.MaxLeaves; size++ {
		leaves := someLeaves(size)
		for first := 1; first < size; first++ {
			proof := impl.ConsistencyProof(leaves, int64(first)).Proof
			path := impl.InclusionProof(leaves, int64(first-1)).Proof
			whole := first&(first-1) == 0
			if slices.Contains(proof, impl.TreeRoot(leaves[:first])) {
				t.Errorf("the proof of %d of %d has their root", first, size)
			}
			if whole && len(proof) != len(path)-depthOf(first) {
				t.Errorf("the proof of %d of %d is %d long", first, size, len(proof))
			}
			c := consistencyOf(leaves, first)
			wantBegins(t, "as it is", consistency{c.first, c.size, proof, c.old, c.root}, true)
			wantBegins(t, "without its first hash", consistency{c.first, c.size, proof[1:], c.old, c.root}, false)
			wantBegins(t, "with their root ahead", consistency{c.first, c.size, append([]string{c.old}, proof...), c.old, c.root}, false)
		}
	}
}

// roomy is a list of which the memory goes on behind its end.
func roomy(list []string) []string {
	return append(slices.Clone(list), "kept", "kept", "kept")[: len(list) : len(list)+3]
}

func wantUnchanged(t *testing.T, what string, list []string, want []string) {
	t.Helper()
	if !slices.Equal(list, want) || !slices.Equal(list[len(list):len(list)+3], []string{"kept", "kept", "kept"}) {
		t.Errorf("%s changes what is handed in", what)
	}
}

func TestLeavesAndProofsAreNotChanged(t *testing.T) {
	for size := 1; size <= 20; size++ {
		leaves := roomy(someLeaves(size))
		impl.TreeRoot(leaves)
		wantUnchanged(t, "TreeRoot", leaves, someLeaves(size))
		for at := range size {
			c, b := inclusionOf(leaves, at), consistencyOf(leaves, at+1)
			impl.InclusionProof(leaves, int64(at))
			impl.ConsistencyProof(leaves, int64(at+1))
			wantUnchanged(t, "a proof", leaves, someLeaves(size))
			path, beginning := roomy(c.proof), roomy(b.proof)
			impl.InclusionCheck(c.leaf, c.at, c.size, path, c.root)
			impl.ConsistencyCheck(b.first, b.size, beginning, b.old, b.root)
			wantUnchanged(t, "InclusionCheck", path, c.proof)
			wantUnchanged(t, "ConsistencyCheck", beginning, b.proof)
		}
	}
}

func TestProofsAreNewMemory(t *testing.T) {
	leaves := madeUp(13)
	for at := range leaves {
		for _, got := range [][]string{impl.InclusionProof(leaves, int64(at)).Proof, impl.ConsistencyProof(leaves, int64(at+1)).Proof} {
			for _, hash := range got {
				if slices.ContainsFunc(leaves, func(leaf string) bool { return share(hash, leaf) }) {
					t.Error("a proof shares memory with a leaf")
				}
			}
			for i := range got {
				got[i] = "turned"
			}
		}
		wantProof(t, "once more", impl.InclusionProof(leaves, int64(at)), plainPath(leaves, at), impl.OK)
		wantProof(t, "once more", impl.ConsistencyProof(leaves, int64(at+1)), plainBeginning(leaves, at+1), impl.OK)
	}
	if !slices.Equal(leaves, madeUp(13)) {
		t.Error("a proof is a piece of the leaves")
	}
}

func TestTreesAreTheSameEachTime(t *testing.T) {
	leaves := someLeaves(7)
	for range 3 {
		wantProof(t, "too many", impl.InclusionProof(someLeaves(65), 0), nil, impl.ErrForm)
		wantProof(t, "InclusionProof", impl.InclusionProof(leaves, 4), plainPath(leaves, 4), impl.OK)
		wantProof(t, "no first", impl.ConsistencyProof(leaves, 0), nil, impl.ErrNone)
		wantProof(t, "ConsistencyProof", impl.ConsistencyProof(leaves, 5), plainBeginning(leaves, 5), impl.OK)
		wantRoot(t, "7 leaves", leaves, plainRoot(leaves))
	}
}
