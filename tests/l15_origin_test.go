package tests

import (
	"fmt"
	"slices"
	"testing"

	"loop.example/g00279/impl"
)

// plainOriginRoot reads chapter 16 once more.
func plainOriginRoot(version int64, until int64) impl.Root {
	if !plainVersion(version) || !plainTime(until) {
		return impl.Root{}
	}
	return impl.Root{Version: version, Expires: until, Roles: []impl.Role{
		{Need: 2, Keys: keysTold([]int64{5001 + version%7, 5000})},
		{Need: 1, Keys: keysTold([]int64{5010})},
		{Need: 1, Keys: keysTold([]int64{5020})},
		{Need: 1, Keys: keysTold([]int64{5030})},
		{Need: 1, Keys: keysTold([]int64{5040})},
	}}
}

func wantOriginRoot(t *testing.T, version int64, until int64) {
	t.Helper()
	got, want := impl.OriginRoot(version, until), plainOriginRoot(version, until)
	if told(got) != told(want) {
		t.Errorf("OriginRoot(%d, %d): got %s, want %s", version, until, told(got), told(want))
	}
	if right := plainVersion(version) && plainTime(until); impl.RootRight(got) != right {
		t.Errorf("OriginRoot(%d, %d) is right: %t", version, until, !right)
	}
}

func TestOriginRoots(t *testing.T) {
	for version := int64(1); version <= 30; version++ {
		wantOriginRoot(t, version, 90)
	}
	for _, version := range append(someVersions(), noVersions()...) {
		for _, until := range append(someTimes(), noTimes()...) {
			wantOriginRoot(t, version, until)
		}
	}
}

// Each root of an origin leads to the next one, and over none.
func TestOriginRootsLeadOn(t *testing.T) {
	trust := impl.TrustNew(impl.OriginRoot(1, 90))
	for version := int64(2); version <= 20; version++ {
		secrets := []int64{5000, 5001 + (version-1)%7, 5001 + version%7}
		text := signedText(secrets, impl.RootBytes(impl.OriginRoot(version, 90)))
		wantCodeOf(t, fmt.Sprint("root ", version), impl.RoleRoot, trust, text, 0, impl.OK)
		for i := range secrets {
			less := signedText(slices.Delete(slices.Clone(secrets), i, i+1), impl.RootBytes(impl.OriginRoot(version, 90)))
			wantCodeOf(t, fmt.Sprint("root ", version, " without ", secrets[i]), impl.RoleRoot, trust, less, 0, impl.ErrSign)
		}
		trust = impl.UpdateRoot(trust, text).Trust
	}
}

func TestOriginRootsAreNewMemory(t *testing.T) {
	wantApart(t, "two answers", impl.Trust{Root: impl.OriginRoot(3, 90)}, impl.Trust{Root: impl.OriginRoot(3, 90)})
	wantOriginRoot(t, 3, 90)
}
