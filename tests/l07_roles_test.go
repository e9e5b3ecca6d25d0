package tests

import (
	"fmt"
	"math"
	"slices"
	"sync"
	"testing"

	"loop.example/g00279/impl"
)

// plainSigners, plainSignAll and plainRoleOf read chapter 8 once more.
func plainSigners(r impl.Role, s impl.Signed) []int64 {
	var out []int64
	if !plainRole(r) || !allSigned().right(s) {
		return out
	}
	for _, key := range r.Keys {
		if slices.ContainsFunc(s.Sigs, func(sig impl.Sig) bool { return sig.Key == key && plainCheck(sig, s.Body) }) {
			out = append(out, key)
		}
	}
	return out
}

func plainSecrets(secrets []int64) bool {
	return !slices.ContainsFunc(secrets, func(x int64) bool { return x < 1 || x >= impl.GroupQ })
}

func plainSignAll(secrets []int64, body string) impl.Signed {
	if len(body) > 8000 || len(secrets) > 16 || !plainSecrets(secrets) {
		return impl.Signed{}
	}
	out := impl.Signed{Body: body}
	for _, x := range secrets {
		out.Sigs = append(out.Sigs, plainSig(x, body))
	}
	return out
}

// keysTold are those of secrets, rising, each once.
func keysTold(secrets []int64) []int64 {
	seen := map[int64]int64{}
	for _, x := range secrets {
		seen[bigPow(impl.GroupG, x, impl.GroupP)]++
	}
	var out []int64
	for key := range seen {
		out = append(out, key)
	}
	slices.Sort(out)
	return out
}

func plainRoleOf(need int64, secrets []int64) impl.Role {
	if len(secrets) > impl.MaxList || !plainSecrets(secrets) {
		return impl.Role{}
	}
	if r := (impl.Role{Need: need, Keys: keysTold(secrets)}); plainRole(r) {
		return r
	}
	return impl.Role{}
}

func wantSigners(t *testing.T, what string, r impl.Role, s impl.Signed, want []int64) {
	t.Helper()
	if got := impl.Signers(r, s); !slices.Equal(got, want) {
		t.Errorf("%s: Signers: got %v, want %v", what, got, want)
	}
}

func wantEnough(t *testing.T, what string, r impl.Role, s impl.Signed, want bool) {
	t.Helper()
	if got := impl.Enough(r, s); got != want {
		t.Errorf("%s: Enough: got %t, want %t", what, got, want)
	}
}

// wantSignedBy asks for the signers of a right role, and with each Need whether they are enough.
func wantSignedBy(t *testing.T, what string, keys []int64, s impl.Signed, want []int64) {
	t.Helper()
	for need := int64(1); need <= int64(len(keys)); need++ {
		r := impl.Role{Need: need, Keys: keys}
		wantSigners(t, what, r, s, want)
		wantEnough(t, fmt.Sprint(what, ", Need ", need), r, s, need <= int64(len(want)))
	}
	if told := plainSigners(impl.Role{Need: 1, Keys: keys}, s); !slices.Equal(told, want) {
		t.Errorf("%s: the document asks for %v, the test for %v", what, told, want)
	}
}

// wantNobody is for a role, or a Signed, that is not right: nobody has signed, and that is not enough.
func wantNobody(t *testing.T, what string, r impl.Role, s impl.Signed) {
	t.Helper()
	wantSigners(t, what, r, s, nil)
	wantEnough(t, what, r, s, false)
}

func wantSignAll(t *testing.T, what string, secrets []int64, body string, want impl.Signed) {
	t.Helper()
	if got := impl.SignAll(secrets, body); told(got) != told(want) {
		t.Errorf("%s: SignAll(%v, %s): got %s, want %s", what, secrets, show(body), show(told(got)), show(told(want)))
	}
}

func wantRoleOf(t *testing.T, what string, need int64, secrets []int64, want impl.Role) {
	t.Helper()
	if got := impl.RoleOf(need, secrets); told(got) != told(want) {
		t.Errorf("%s: RoleOf(%d, %v): got %v, want %v", what, need, secrets, got, want)
	}
}

// chosen are those of a list whose bit is set.
func chosen(list []int64, bits int) []int64 {
	var out []int64
	for i, n := range list {
		if bits>>i&1 == 1 {
			out = append(out, n)
		}
	}
	return out
}

func reversed(list []int64) []int64 {
	out := slices.Clone(list)
	slices.Reverse(out)
	return out
}

// eightSecrets have keys that do not rise with them.
func eightSecrets() []int64 {
	return []int64{1001, 1002, 1003, 5, impl.GroupQ - 1, 777777, 1, 99}
}

// failing are right Sigs of a key that do not pass for the body.
func failing(x int64, body string) []impl.Sig {
	good := plainSig(x, body)
	other := plainSig(x, body+"x")
	var out []impl.Sig
	for _, sig := range []impl.Sig{
		{Key: good.Key, E: good.E, S: (good.S + 1) % impl.GroupQ},
		{Key: good.Key, E: (good.E + 1) % impl.GroupQ, S: good.S},
		{Key: good.Key, E: good.S, S: good.E},
		{Key: good.Key},
		{Key: good.Key, E: impl.GroupQ - 1, S: impl.GroupQ - 1},
		other,
		{Key: good.Key, E: good.E, S: other.S},
	} {
		if plainSigRight(sig) && !plainCheck(sig, body) {
			out = append(out, sig)
		}
	}
	return out
}

func TestKnownThresholds(t *testing.T) {
	r := impl.Role{Need: 2, Keys: []int64{4, 554688020, 1744830408}}
	wantRoleOf(t, "of the secrets 1001, GroupQ less 2 and 1", 2, []int64{1001, impl.GroupQ - 2, 1}, r)
	s := impl.Signed{Body: "hello", Sigs: []impl.Sig{
		{Key: 536870895, E: 55650309, S: 405739556},
		{Key: 554688020, E: 1058906874, S: 572036885},
	}}
	wantSignAll(t, "of the secrets GroupQ less 1 and 1001", []int64{impl.GroupQ - 1, 1001}, "hello", s)
	wantSigners(t, "a key that is not of the role beside one that is", r, s, []int64{554688020})
	wantEnough(t, "one of two", r, s, false)
	both := impl.RoleOf(2, []int64{impl.GroupQ - 1, 1001})
	wantSigners(t, "both", both, s, []int64{536870895, 554688020})
	wantEnough(t, "both", both, s, true)
	s.Body = "hellO"
	wantSigners(t, "another body", both, s, nil)
	wantEnough(t, "another body", both, s, false)
}

// Promise 8: just the keys of the role whose secrets have signed, rising, each once.
func TestSignersAreThoseWhoHaveSigned(t *testing.T) {
	secrets := eightSecrets()
	for count := 1; count <= 8; count++ {
		keys := keysTold(secrets[:count])
		for bits := range 1 << 8 {
			// Those of the eight that are not of the role sign, too, and are no signers.
			who := chosen(secrets, bits)
			if count < 8 && bits%7 != 0 && bits >= 1<<count {
				continue
			}
			s := plainSignAll(who, "body")
			want := keysTold(chosen(secrets[:count], bits))
			wantSigners(t, fmt.Sprint(count, " keys, signed by ", who), impl.Role{Need: 1, Keys: keys}, s, want)
			for _, need := range []int{len(want) - 1, len(want), len(want) + 1} {
				if 1 <= need && need <= count {
					wantEnough(t, fmt.Sprint(len(want), " of ", count, ", Need ", need), impl.Role{Need: int64(need), Keys: keys}, s, need <= len(want))
				}
			}
		}
	}
}

func TestWhatIsSignedByAllPasses(t *testing.T) {
	for _, body := range someTexts() {
		for count := 1; count <= 8; count++ {
			secrets := eightSecrets()[:count]
			r := impl.RoleOf(int64(count), secrets)
			wantSigners(t, fmt.Sprint("all ", count, " of ", show(body)), r, impl.SignAll(reversed(secrets), body), keysTold(secrets))
			wantEnough(t, fmt.Sprint("all ", count, " of ", show(body)), r, impl.SignAll(reversed(secrets), body), true)
			wantEnough(t, fmt.Sprint("all but one of ", count), r, impl.SignAll(secrets[1:], body), false)
		}
	}
}

func TestSignersAtTheEdges(t *testing.T) {
	one, eight := []int64{1001}, eightSecrets()
	for _, secrets := range [][]int64{one, eight} {
		keys := keysTold(secrets)
		what := fmt.Sprint("a role of ", len(keys))
		wantSignedBy(t, what+", no Sig", keys, impl.Signed{Body: "body"}, nil)
		wantSignedBy(t, what+", no Sig, no Body", keys, impl.Signed{}, nil)
		wantSignedBy(t, what+", an empty list of Sigs", keys, impl.Signed{Sigs: []impl.Sig{}}, nil)
		wantSignedBy(t, what+", all, no Body", keys, plainSignAll(secrets, ""), keys)
		wantSignedBy(t, what+", all, a Body of 8000", keys, plainSignAll(secrets, mixed(8000)), keys)
		wantSignedBy(t, what+", one Sig", keys, plainSignAll(one, "body"), keysTold(one))
		wantSignedBy(t, what+", the same Sig twice", keys, plainSignAll([]int64{1001, 1001}, "body"), keysTold(one))
		wantSignedBy(t, what+", the same Sig 16 times", keys, plainSignAll(slices.Repeat(one, 16), "body"), keysTold(one))
		wantSignedBy(t, what+", all, 16 Sigs", keys, plainSignAll(slices.Repeat(secrets, 16/len(secrets)), "body"), keys)
		wantSignedBy(t, what+", none of it", keys, plainSignAll([]int64{2, 3, 4, 6, 7}, "body"), nil)
		wantSignedBy(t, what+", 15 not of it ahead of one", keys, plainSignAll(append(slices.Repeat([]int64{2, 3, 4}, 5), 1001), "body"), keysTold(one))
		wantSignedBy(t, what+", 15 not of it behind one", keys, plainSignAll(append([]int64{1001}, slices.Repeat([]int64{2, 3, 4}, 5)...), "body"), keysTold(one))
	}
}

func TestSigsThatDoNotPassAreNoSigners(t *testing.T) {
	for _, secrets := range [][]int64{{1001}, {1001, 1002}, eightSecrets()} {
		keys := keysTold(secrets)
		for _, body := range []string{"", "body", mixed(8000)} {
			bad := failing(1001, body)
			if len(bad) < 5 {
				t.Fatalf("of %s only %d Sigs fail", show(body), len(bad))
			}
			wantSignedBy(t, "all of them fail", keys, impl.Signed{Body: body, Sigs: bad}, nil)
			for i, sig := range bad {
				what := fmt.Sprint("failing ", i, " of ", show(body))
				good := plainSig(1001, body)
				mine := []int64{good.Key}
				wantSignedBy(t, what, keys, impl.Signed{Body: body, Sigs: []impl.Sig{sig}}, nil)
				wantSignedBy(t, what+" ahead of one that passes", keys, impl.Signed{Body: body, Sigs: []impl.Sig{sig, good}}, mine)
				wantSignedBy(t, what+" behind one that passes", keys, impl.Signed{Body: body, Sigs: []impl.Sig{good, sig}}, mine)
				wantSignedBy(t, what+" 15 times ahead", keys, impl.Signed{Body: body, Sigs: append(slices.Repeat([]impl.Sig{sig}, 15), good)}, mine)
			}
		}
	}
	for _, text := range someTexts() {
		s := plainSignAll(eightSecrets(), text)
		for _, other := range otherTexts(text) {
			if len(other) <= 8000 {
				s.Body = other
				wantSignedBy(t, "signed is another body", keysTold(eightSecrets()), s, nil)
			}
		}
	}
}

// A signature that stands under the key of another one is not his.
func TestSigsUnderAnotherKey(t *testing.T) {
	secrets := eightSecrets()
	keys := keysTold(secrets)
	for i, x := range secrets {
		sig := plainSig(x, "body")
		for j, other := range secrets {
			turned := impl.Sig{Key: plainSig(other, "body").Key, E: sig.E, S: sig.S}
			s := impl.Signed{Body: "body", Sigs: []impl.Sig{turned}}
			wantSigners(t, fmt.Sprint(x, " under the key of ", other), impl.Role{Need: 1, Keys: keys}, s, plainSigners(impl.Role{Need: 1, Keys: keys}, s))
			if i != j && impl.Enough(impl.Role{Need: 1, Keys: keys}, s) {
				t.Errorf("the Sig of %d passes under the key of %d", x, other)
			}
		}
	}
}

// Promise 8: one more takes none away, wherever it stands.
func TestOneSigMoreTakesNoSignerAway(t *testing.T) {
	secrets := eightSecrets()
	r := impl.Role{Need: 3, Keys: keysTold(secrets)}
	more := append(failing(1001, "body"), failing(5, "body")...)
	more = append(more, plainSignAll([]int64{1001, 1003, 1, 99, 2, 3}, "body").Sigs...)
	more = append(more, manySigs(20)...)
	more = append(more, impl.Sig{Key: 4}, impl.Sig{Key: impl.GroupP - 2, E: impl.GroupQ - 1, S: impl.GroupQ - 1})
	for _, who := range [][]int64{nil, {1001}, {1, 1001}, {1001, 1002, 1003}, {99, 5, 1}, secrets, slices.Repeat([]int64{1001, 5, 99}, 5)} {
		s := plainSignAll(who, "body")
		ahead := impl.Signers(r, s)
		wantSigners(t, fmt.Sprint("signed by ", who), r, s, keysTold(who))
		for _, sig := range more {
			for at := 0; at <= len(s.Sigs); at++ {
				grown := impl.Signed{Body: s.Body, Sigs: slices.Insert(slices.Clone(s.Sigs), at, sig)}
				now := impl.Signers(r, grown)
				for _, key := range ahead {
					if !slices.Contains(now, key) {
						t.Errorf("signed by %v, and at %d by %+v: %d is no signer any more", who, at, sig, key)
					}
				}
				if impl.Enough(r, s) && !impl.Enough(r, grown) {
					t.Errorf("signed by %v, and at %d by %+v: it is not enough any more", who, at, sig)
				}
				wantSigners(t, fmt.Sprint("signed by ", who, " and one more at ", at), r, grown, plainSigners(r, grown))
			}
		}
	}
}

func TestTheOrderOfSigsSaysNothing(t *testing.T) {
	secrets := []int64{1001, 1002, 5, 99}
	r := impl.Role{Need: 2, Keys: keysTold(secrets)}
	sigs := append(plainSignAll([]int64{1001, 99, 2}, "body").Sigs, failing(1001, "body")[0], failing(5, "body")[1])
	want := keysTold([]int64{1001, 99})
	var turn func(ahead []impl.Sig, left []impl.Sig)
	turn = func(ahead []impl.Sig, left []impl.Sig) {
		if len(left) == 0 {
			wantSigners(t, "in another order", r, impl.Signed{Body: "body", Sigs: ahead}, want)
		}
		for i := range left {
			turn(append(slices.Clone(ahead), left[i]), slices.Delete(slices.Clone(left), i, i+1))
		}
	}
	turn(nil, sigs)
}

func TestNobodySignsForARoleThatIsNotRight(t *testing.T) {
	for what, r := range wrongRoles() {
		wantNobody(t, what, r, impl.Signed{})
		wantNobody(t, what, r, someSigned())
		wantNobody(t, what, r, plainSignAll(eightSecrets(), "body"))
	}
	// These would have signers, were they right.
	s := plainSignAll([]int64{1, 2, 3}, "body")
	for what, r := range map[string]impl.Role{
		"Need 0":                  {Need: 0, Keys: []int64{4, 16, 64}},
		"Need below 0":            {Need: -1, Keys: []int64{4, 16, 64}},
		"the least Need":          {Need: math.MinInt64, Keys: []int64{4, 16, 64}},
		"Need of one too many":    {Need: 4, Keys: []int64{4, 16, 64}},
		"falling":                 {Need: 1, Keys: []int64{64, 16, 4}},
		"one twice":               {Need: 1, Keys: []int64{4, 4, 16}},
		"a key that is none":      {Need: 1, Keys: []int64{1, 4, 16}},
		"a key that is no square": {Need: 1, Keys: []int64{2, 4, 16}},
		"nine keys":               {Need: 1, Keys: append(leastKeys(9)[:8:8], 64)},
		"no keys, none needed":    {},
	} {
		wantNobody(t, what, r, s)
	}
	nine := keysTold([]int64{1, 2, 3, 4, 5, 6, 7, 8, 9})
	wantNobody(t, "nine keys that have all signed", impl.Role{Need: 1, Keys: nine}, plainSignAll([]int64{1, 2, 3, 4, 5, 6, 7, 8, 9}, "body"))
	wantNobody(t, "more than MaxList keys", impl.Role{Need: 1, Keys: leastKeys(impl.MaxList + 1)}, s)
}

func TestNobodySignsWhatIsNotRight(t *testing.T) {
	r := impl.Role{Need: 1, Keys: keysTold(someSecrets()[:3])}
	wantSignedBy(t, "a right one", r.Keys, someSigned(), r.Keys)
	for what, s := range wrongSigned() {
		wantNobody(t, what, r, s)
	}
	long := mixed(8001)
	s := impl.Signed{Body: long}
	for _, x := range []int64{1, 2, 3} {
		s.Sigs = append(s.Sigs, plainSig(x, long))
	}
	wantNobody(t, "a Body of 8001 that is signed", impl.Role{Need: 1, Keys: []int64{4, 16, 64}}, s)
	full := plainSignAll(slices.Repeat([]int64{1, 2, 3, 1}, 4), "body")
	wantSignedBy(t, "16 Sigs", []int64{4, 16, 64}, full, []int64{4, 16, 64})
	for at := 0; at <= 16; at++ {
		seventeen := impl.Signed{Body: "body", Sigs: slices.Insert(slices.Clone(full.Sigs), at, plainSig(2, "body"))}
		wantNobody(t, "17 Sigs", impl.Role{Need: 1, Keys: []int64{4, 16, 64}}, seventeen)
	}
	for what, sig := range wrongSigs() {
		for at := 0; at <= 3; at++ {
			s := plainSignAll([]int64{1, 2, 3}, "body")
			s.Sigs = slices.Insert(s.Sigs, at, sig)
			wantNobody(t, fmt.Sprint(what, " at ", at), impl.Role{Need: 1, Keys: []int64{4, 16, 64}}, s)
		}
	}
	for what, r := range wrongRoles() {
		wantNobody(t, what+", and 17 Sigs", r, impl.Signed{Body: "body", Sigs: manySigs(17)})
	}
}

func TestMadeUpSigners(t *testing.T) {
	x := int64(2718)
	next := func(most int64) int64 {
		x = (x*48271 + 17) % 2147483647
		return x % most
	}
	all := someSecrets()
	for i := range 400 {
		body := mixed(int(next(60)))
		var secrets []int64
		for range 1 + next(8) {
			secrets = append(secrets, all[next(int64(len(all)))])
		}
		keys := keysTold(secrets)
		r := impl.Role{Need: 1 + next(int64(len(keys))), Keys: keys}
		s := impl.Signed{Body: body}
		for range next(17) {
			who := append(secrets, all...)[next(int64(2*len(secrets)))]
			sigs := append(failing(who, body), plainSig(who, body), plainSig(who, body))
			s.Sigs = append(s.Sigs, sigs[next(int64(len(sigs)))])
		}
		want := plainSigners(r, s)
		wantSigners(t, fmt.Sprint("made up ", i), r, s, want)
		wantEnough(t, fmt.Sprint("made up ", i), r, s, int64(len(want)) >= r.Need)
	}
}

func TestSignAll(t *testing.T) {
	for _, body := range someTexts() {
		for count := 0; count <= 17; count++ {
			secrets := someSecrets()[:count]
			wantSignAll(t, fmt.Sprint(count, " secrets"), secrets, body, plainSignAll(secrets, body))
			wantSignAll(t, fmt.Sprint(count, " secrets, turned round"), reversed(secrets), body, plainSignAll(reversed(secrets), body))
		}
	}
	wantSignAll(t, "no secret", nil, "body", impl.Signed{Body: "body"})
	wantSignAll(t, "no secret and no body", []int64{}, "", impl.Signed{})
	one := plainSig(1001, "body")
	wantSignAll(t, "one secret", []int64{1001}, "body", impl.Signed{Body: "body", Sigs: []impl.Sig{one}})
	wantSignAll(t, "one secret twice", []int64{1001, 1001}, "body", impl.Signed{Body: "body", Sigs: []impl.Sig{one, one}})
	wantSignAll(t, "one secret 16 times", slices.Repeat([]int64{1001}, 16), "body", impl.Signed{Body: "body", Sigs: slices.Repeat([]impl.Sig{one}, 16)})
	wantSignAll(t, "one secret 17 times", slices.Repeat([]int64{1001}, 17), "body", impl.Signed{})
	for _, x := range []int64{1, 2, impl.GroupQ - 2, impl.GroupQ - 1} {
		wantSignAll(t, "an end of the secrets", []int64{x}, "body", impl.Signed{Body: "body", Sigs: []impl.Sig{plainSig(x, "body")}})
	}
}

func TestSignAllOfWhatIsNotRight(t *testing.T) {
	for _, wrong := range noSecrets() {
		for count := 0; count <= 3; count++ {
			for at := 0; at <= count; at++ {
				wantSignAll(t, "no secret among them", slices.Insert([]int64{1001, 1002, 1003}[:count:count], at, wrong), "body", impl.Signed{})
			}
		}
		wantSignAll(t, "no secret at the 16th place", append(someSecrets()[:15:15], wrong), "body", impl.Signed{})
	}
	for _, size := range []int{0, 1, 7999, 8000, 8001, 8002, 8192, impl.MaxBytes - 1, impl.MaxBytes, impl.MaxBytes + 1, 2 * impl.MaxBytes} {
		for _, secrets := range [][]int64{nil, {1001}, {1001, 1002}, someSecrets()[:16], {0}} {
			body := mixed(size)
			wantSignAll(t, fmt.Sprint("a body of ", size), secrets, body, plainSignAll(secrets, body))
			if got := impl.SignAll(secrets, body); size > 8000 && (got.Body != "" || len(got.Sigs) != 0) {
				t.Errorf("a body of %d is signed", size)
			}
		}
	}
	for _, count := range []int{15, 16, 17, 18, 32, impl.MaxList - 1, impl.MaxList, impl.MaxList + 1, 2 * impl.MaxList} {
		secrets := slices.Repeat([]int64{1001}, count)
		wantSignAll(t, fmt.Sprint(count, " secrets"), secrets, "body", plainSignAll(secrets, "body"))
		wantSignAll(t, fmt.Sprint(count, " that are none"), slices.Repeat([]int64{0}, count), "body", impl.Signed{})
	}
}

// What is signed is right, so it has bytes, and comes back from these.
func TestWhatIsSignedHasBytes(t *testing.T) {
	for count := 0; count <= 16; count++ {
		for _, size := range []int{0, 1, 8000} {
			wantBack(t, allSigned(), fmt.Sprint(count, " secrets, ", size, " bytes"), impl.SignAll(someSecrets()[:count], mixed(size)))
		}
	}
}

func TestRoleOf(t *testing.T) {
	secrets := eightSecrets()
	for count := 0; count <= 8; count++ {
		for _, need := range []int64{math.MinInt64, -1, 0, 1, 2, int64(count) - 1, int64(count), int64(count) + 1, 8, 9, 1 << 32, 1<<32 + 1, math.MaxInt64} {
			some := secrets[:count]
			for _, list := range [][]int64{some, reversed(some), slices.Sorted(slices.Values(some)), slices.Repeat(some, 2), append(reversed(some), some...)} {
				want := plainRoleOf(need, list)
				wantRoleOf(t, fmt.Sprint(count, " keys"), need, list, want)
				if (len(want.Keys) == count) != (1 <= need && need <= int64(count)) && count > 0 {
					t.Errorf("Need %d of %d keys: the document asks for %v", need, count, want)
				}
			}
		}
	}
	wantRoleOf(t, "no secret", 1, nil, impl.Role{})
	wantRoleOf(t, "no secret, none needed", 0, nil, impl.Role{})
	wantRoleOf(t, "no secret, an empty list", 0, []int64{}, impl.Role{})
	wantRoleOf(t, "one secret twice", 1, []int64{1, 1}, impl.Role{Need: 1, Keys: []int64{4}})
	wantRoleOf(t, "one secret twice, two needed", 2, []int64{1, 1}, impl.Role{})
	wantRoleOf(t, "secrets that fall", 2, []int64{3, 2, 1}, impl.Role{Need: 2, Keys: []int64{4, 16, 64}})
	wantRoleOf(t, "secrets that rise, and keys that do not", 1, []int64{1, 1001, impl.GroupQ - 1}, impl.Role{Need: 1, Keys: []int64{4, 536870895, 554688020}})
}

func TestRoleOfManySecrets(t *testing.T) {
	all := someSecrets()
	for count := 7; count <= 20; count++ {
		for _, need := range []int64{1, 7, 8, 9, int64(count)} {
			wantRoleOf(t, fmt.Sprint(count, " secrets"), need, all[:count], plainRoleOf(need, all[:count]))
			if got := impl.RoleOf(need, all[:count]); count > 8 && (got.Need != 0 || len(got.Keys) != 0) {
				t.Errorf("%d keys: got %v", count, got)
			}
		}
	}
	// As long a list as may be handed in is a role's, as long as few enough keys are in it.
	eight := keysTold(eightSecrets())
	wantRoleOf(t, "eight secrets 50 times", 8, slices.Repeat(eightSecrets(), 50), impl.Role{Need: 8, Keys: eight})
	wantRoleOf(t, "one secret MaxList times", 1, slices.Repeat([]int64{1}, impl.MaxList), impl.Role{Need: 1, Keys: []int64{4}})
	wantRoleOf(t, "one secret MaxList times and once", 1, slices.Repeat([]int64{1}, impl.MaxList+1), impl.Role{})
	wantRoleOf(t, "one secret twice MaxList times", 1, slices.Repeat([]int64{1}, 2*impl.MaxList), impl.Role{})
	wantRoleOf(t, "nine keys at the very end", 1, append(slices.Repeat(eightSecrets(), 49), 2), impl.Role{})
}

func TestRoleOfWhatIsNoSecret(t *testing.T) {
	for _, wrong := range noSecrets() {
		for count := 0; count <= 3; count++ {
			for at := 0; at <= count; at++ {
				list := slices.Insert([]int64{1001, 1002, 1003}[:count:count], at, wrong)
				for need := int64(0); need <= 4; need++ {
					wantRoleOf(t, "no secret among them", need, list, impl.Role{})
				}
			}
		}
		wantRoleOf(t, "no secret behind 399", 1, append(slices.Repeat([]int64{1}, impl.MaxList-1), wrong), impl.Role{})
	}
	for _, x := range []int64{1, impl.GroupQ - 1} {
		wantRoleOf(t, "an end of the secrets", 1, []int64{x}, impl.Role{Need: 1, Keys: []int64{bigPow(impl.GroupG, x, impl.GroupP)}})
	}
}

func TestThresholdsChangeNothingThatIsHandedIn(t *testing.T) {
	secrets := roomyKeys([]int64{99, 1001, 1, 99})
	wantSignAll(t, "with place behind", secrets, "body", plainSignAll([]int64{99, 1001, 1, 99}, "body"))
	wantRoleOf(t, "with place behind", 2, secrets, plainRoleOf(2, []int64{99, 1001, 1, 99}))
	if !slices.Equal(secrets[:7], []int64{99, 1001, 1, 99, 77, 77, 77}) {
		t.Errorf("the secrets are %v", secrets[:7])
	}
	keys := keysTold([]int64{1, 99, 1001})
	r := impl.Role{Need: 2, Keys: roomyKeys(keys)}
	s := plainSignAll([]int64{1001, 1, 2, 1}, "body")
	sigs := slices.Clone(s.Sigs)
	s.Sigs = append(s.Sigs, impl.Sig{Key: 77})[:4]
	wantSigners(t, "with place behind", r, s, keysTold([]int64{1, 1001}))
	wantEnough(t, "with place behind", r, s, true)
	if !slices.Equal(r.Keys[:6], append(keys, 77, 77, 77)) || r.Need != 2 {
		t.Errorf("the role is %v", r)
	}
	if !slices.Equal(s.Sigs[:5], append(sigs, impl.Sig{Key: 77})) || s.Body != "body" {
		t.Errorf("the Signed is %v", s)
	}
}

func TestThresholdsAreNewMemory(t *testing.T) {
	for _, size := range []int{1, 4, 8000} {
		body := mixed(size)
		if got := impl.SignAll([]int64{1}, body); len(got.Body) != size || share(got.Body, body) {
			t.Errorf("a Body of %d bytes lies in the body that was handed in", size)
		}
	}
	for count := 1; count <= 8; count++ {
		keys := keysTold(eightSecrets()[:count])
		r := impl.Role{Need: 1, Keys: keys}
		s := plainSignAll(eightSecrets()[:count], "body")
		a, b := impl.Signers(r, s), impl.Signers(r, s)
		if len(a) != count || shareList(a, r.Keys) || shareList(a, b) {
			t.Errorf("%d signers share memory with the role, or with those told ahead", len(a))
		}
		secrets := slices.Clone(eightSecrets()[:count])
		x, y := impl.RoleOf(1, secrets), impl.RoleOf(1, secrets)
		if len(x.Keys) != count || shareList(x.Keys, secrets) || shareList(x.Keys, y.Keys) {
			t.Errorf("%d keys share memory with the secrets, or with those told ahead", len(x.Keys))
		}
		one, two := impl.SignAll(secrets, "body"), impl.SignAll(secrets, "body")
		one.Sigs[0] = impl.Sig{}
		if two.Sigs[0] != plainSig(secrets[0], "body") {
			t.Errorf("two answers share their Sigs")
		}
	}
}

func TestThresholdsAreTheSameEachTime(t *testing.T) {
	secrets := eightSecrets()
	r := impl.RoleOf(3, secrets)
	s := impl.SignAll([]int64{99, 1001, 5, 2}, "body")
	want := keysTold([]int64{99, 1001, 5})
	for range 300 {
		wantSigners(t, "again", r, s, want)
		wantEnough(t, "again", r, s, true)
		wantNobody(t, "a wrong one between", impl.Role{Need: 9, Keys: r.Keys}, s)
		wantSigners(t, "another one between", r, impl.SignAll([]int64{1}, "body"), []int64{4})
		wantEnough(t, "another one between", r, impl.SignAll([]int64{1}, "body"), false)
	}
	wantRoleOf(t, "again", 3, secrets, r)
	wantSignAll(t, "again", []int64{99, 1001, 5, 2}, "body", s)
}

func TestThresholdsAskedForAtTheSameTime(t *testing.T) {
	const callers = 32
	secrets := eightSecrets()
	r := impl.RoleOf(2, secrets)
	var signers [callers][]int64
	var enough [callers]bool
	var roles [callers]impl.Role
	var signed [callers]impl.Signed
	var all sync.WaitGroup
	for i := range callers {
		all.Go(func() {
			who := chosen(secrets, i*8+3)
			signed[i] = impl.SignAll(who, "body")
			roles[i] = impl.RoleOf(1, who)
			signers[i] = impl.Signers(r, signed[i])
			enough[i] = impl.Enough(r, signed[i])
		})
	}
	all.Wait()
	for i := range callers {
		who := chosen(secrets, i*8+3)
		if !slices.Equal(signers[i], keysTold(who)) || enough[i] != (len(who) >= 2) {
			t.Errorf("signed by %v: got %v, enough: %t", who, signers[i], enough[i])
		}
		if told(signed[i]) != told(plainSignAll(who, "body")) || told(roles[i]) != told(plainRoleOf(1, who)) {
			t.Errorf("of %v: got %v and %v", who, signed[i], roles[i])
		}
	}
}
