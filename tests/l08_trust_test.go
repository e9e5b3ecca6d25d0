package tests

import (
	"fmt"
	"math"
	"slices"
	"strings"
	"sync"
	"testing"

	"loop.example/g00279/impl"
)

// plainHead, plainTrust, plainSame, plainUpdate and plainFresh read chapter 9 once more.
func plainHead(h impl.Head) bool {
	return h.Size > 0 && h.Size < 1000001 && len(h.Root) == 32 && plainTime(h.Time)
}

func isNone[T any](thing T) bool {
	var none T
	return told(thing) == told(none)
}

func plainTrust(t impl.Trust) bool {
	return roots().right(t.Root) &&
		(isNone(t.Timestamp) || linksOf(impl.RoleTimestamp).right(t.Timestamp)) &&
		(isNone(t.Snapshot) || linksOf(impl.RoleSnapshot).right(t.Snapshot)) &&
		(isNone(t.Targets) || allTargets().right(t.Targets)) &&
		(isNone(t.Head) || plainHead(t.Head))
}

func plainSame(a impl.Trust, b impl.Trust) bool {
	return told(a) == told(b)
}

// plainAhead is what refuses an update ahead of a look at what it says.
func plainAhead(role int64, t impl.Trust, now int64) int64 {
	late := func(expires ...int64) bool { return slices.Min(expires) <= now }
	switch role {
	case impl.RoleTimestamp:
		if late(t.Root.Expires) {
			return impl.ErrExpired
		}
	case impl.RoleSnapshot:
		if isNone(t.Timestamp) {
			return impl.ErrNone
		}
		if late(t.Root.Expires, t.Timestamp.Expires) {
			return impl.ErrExpired
		}
	case impl.RoleTargets:
		if isNone(t.Timestamp) || isNone(t.Snapshot) {
			return impl.ErrNone
		}
		if t.Snapshot.Version != t.Timestamp.Next {
			return impl.ErrVersion
		}
		if late(t.Root.Expires, t.Timestamp.Expires, t.Snapshot.Expires) {
			return impl.ErrExpired
		}
	}
	return impl.OK
}

// plainStale: a trusted Link is there, and another one falls behind it or speaks against it.
func plainStale(l impl.Link, trusted impl.Link) bool {
	if isNone(trusted) {
		return false
	}
	return l.Version < trusted.Version || l.Next < trusted.Next || l.Version == trusted.Version && told(l) != told(trusted)
}

func plainStaleTargets(x impl.Targets, trusted impl.Targets) bool {
	return x.Version < trusted.Version || x.Version == trusted.Version && told(x) != told(trusted)
}

// plainSaid lays what a Body says into the Trust, and tells whether that may be, by its roles, versions and times.
func plainSaid(role int64, t impl.Trust, s impl.Signed, now int64) (impl.Trust, int64) {
	var code, expires int64
	stale := false
	asked := []impl.Role{t.Root.Roles[role]}
	out := t
	switch role {
	case impl.RoleRoot:
		out.Root, code = roots().plainRead(s.Body)
		if code == impl.OK {
			asked = append(asked, out.Root.Roles[impl.RoleRoot])
		}
		stale, expires = out.Root.Version-t.Root.Version != 1, math.MaxInt64
	case impl.RoleTimestamp:
		out.Timestamp, code = linksOf(role).plainRead(s.Body)
		stale, expires = plainStale(out.Timestamp, t.Timestamp), out.Timestamp.Expires
	case impl.RoleSnapshot:
		out.Snapshot, code = linksOf(role).plainRead(s.Body)
		stale, expires = out.Snapshot.Version != t.Timestamp.Next || plainStale(out.Snapshot, t.Snapshot), out.Snapshot.Expires
	case impl.RoleTargets:
		out.Targets, code = allTargets().plainRead(s.Body)
		stale, expires = out.Targets.Version != t.Snapshot.Next || plainStaleTargets(out.Targets, t.Targets), out.Targets.Expires
	}
	switch {
	case code != impl.OK:
		return impl.Trust{}, impl.ErrSyntax
	case slices.ContainsFunc(asked, func(r impl.Role) bool { return int64(len(plainSigners(r, s))) < r.Need }):
		return impl.Trust{}, impl.ErrSign
	case stale:
		return impl.Trust{}, impl.ErrVersion
	case expires <= now:
		return impl.Trust{}, impl.ErrExpired
	}
	return out, impl.OK
}

func plainUpdate(role int64, t impl.Trust, text string, now int64) impl.TrustOut {
	if role == impl.RoleRoot {
		now = 0
	}
	if len(text) > impl.MaxBytes {
		return impl.TrustOut{Code: impl.ErrSize}
	}
	if !plainTrust(t) || !plainTime(now) {
		return impl.TrustOut{Code: impl.ErrForm}
	}
	if code := plainAhead(role, t, now); code != impl.OK {
		return impl.TrustOut{Code: code}
	}
	s, code := allSigned().plainRead(text)
	if code != impl.OK {
		return impl.TrustOut{Code: impl.ErrSyntax}
	}
	out, code := plainSaid(role, t, s, now)
	return impl.TrustOut{Trust: out, Code: code}
}

func plainFresh(t impl.Trust, now int64) int64 {
	switch {
	case !plainTrust(t) || !plainTime(now):
		return impl.ErrForm
	case isNone(t.Timestamp) || isNone(t.Snapshot) || isNone(t.Targets):
		return impl.ErrNone
	case t.Timestamp.Next != t.Snapshot.Version || t.Snapshot.Next != t.Targets.Version:
		return impl.ErrVersion
	case leastExpires(t) <= now:
		return impl.ErrExpired
	}
	return impl.OK
}

func leastExpires(t impl.Trust) int64 {
	return min(t.Root.Expires, t.Timestamp.Expires, t.Snapshot.Expires, t.Targets.Expires)
}

// update is the program's own of a role.
func update(role int64, t impl.Trust, text string, now int64) impl.TrustOut {
	switch role {
	case impl.RoleTimestamp:
		return impl.UpdateTimestamp(t, text, now)
	case impl.RoleSnapshot:
		return impl.UpdateSnapshot(t, text, now)
	case impl.RoleTargets:
		return impl.UpdateTargets(t, text, now)
	}
	return impl.UpdateRoot(t, text)
}

func updatingRoles() []int64 {
	return []int64{impl.RoleRoot, impl.RoleTimestamp, impl.RoleSnapshot, impl.RoleTargets}
}

func wantCodeOf(t *testing.T, what string, role int64, trust impl.Trust, text string, now int64, code int64) {
	t.Helper()
	got := update(role, trust, text, now)
	if got.Code != code {
		t.Errorf("%s: the update of role %d at %d tells Code %d, want %d", what, role, now, got.Code, code)
	}
	if code != impl.OK && !isNone(got.Trust) {
		t.Errorf("%s: the update of role %d is refused, and tells %s", what, role, show(told(got.Trust)))
	}
}

// wantUpdate holds an update against the chapter, read once more, and what is taken against promises 9 and 10.
func wantUpdate(t *testing.T, what string, role int64, trust impl.Trust, text string, now int64) int64 {
	t.Helper()
	want := plainUpdate(role, trust, text, now)
	wantCodeOf(t, what, role, trust, text, now, want.Code)
	got := update(role, trust, text, now)
	if told(got) != told(want) {
		t.Errorf("%s: the update of role %d at %d: got %s, want %s", what, role, now, show(told(got)), show(told(want)))
	}
	if got.Code == impl.OK {
		wantKeptPromises(t, what, role, trust, got.Trust, text)
	}
	return got.Code
}

func wantKeptPromises(t *testing.T, what string, role int64, ahead impl.Trust, behind impl.Trust, text string) {
	t.Helper()
	if !impl.TrustRight(behind) {
		t.Errorf("%s: what is taken leads to a Trust that is not right: %s", what, told(behind))
	}
	if behind.Root.Version < ahead.Root.Version || behind.Timestamp.Version < ahead.Timestamp.Version || behind.Timestamp.Next < ahead.Timestamp.Next ||
		behind.Snapshot.Version < ahead.Snapshot.Version || behind.Snapshot.Next < ahead.Snapshot.Next || behind.Targets.Version < ahead.Targets.Version {
		t.Errorf("%s: a version falls: from %s to %s", what, told(ahead), told(behind))
	}
	signed, _ := allSigned().plainRead(text)
	if !impl.Enough(ahead.Root.Roles[role], signed) {
		t.Errorf("%s: taken, but not signed by enough of role %d", what, role)
	}
	if role == impl.RoleRoot && (behind.Root.Version != ahead.Root.Version+1 || !impl.Enough(behind.Root.Roles[role], signed)) {
		t.Errorf("%s: a root is taken that is not the next one, or not signed by enough of its own", what)
	}
	// Its part alone: with the part as it was ahead all is as it was ahead.
	back := behind
	switch role {
	case impl.RoleRoot:
		back.Root = ahead.Root
	case impl.RoleTimestamp:
		back.Timestamp = ahead.Timestamp
	case impl.RoleSnapshot:
		back.Snapshot = ahead.Snapshot
	case impl.RoleTargets:
		back.Targets = ahead.Targets
	}
	if !impl.TrustSame(back, ahead) || !plainSame(back, ahead) {
		t.Errorf("%s: another part than that of role %d is changed: from %s to %s", what, role, told(ahead), told(behind))
	}
}

func wantFresh(t *testing.T, what string, trust impl.Trust, now int64, want int64) {
	t.Helper()
	if got := impl.Fresh(trust, now); got != want {
		t.Errorf("%s: Fresh at %d: got %d, want %d", what, now, got, want)
	}
	if told := plainFresh(trust, now); told != want {
		t.Errorf("%s: Fresh at %d: the document asks for %d, the test for %d", what, now, told, want)
	}
}

// secretsFor are three of a role; those of RoleRoot are others in each version.
func secretsFor(role int64, version int64) []int64 {
	first := 100 * (role + 1)
	if role == impl.RoleRoot {
		first += 1000 * version
	}
	return []int64{first + 1, first + 2, first + 3}
}

// trustedRoot needs two of three in each role.
func trustedRoot(version int64, expires int64) impl.Root {
	r := impl.Root{Version: version, Expires: expires}
	for role := range int64(5) {
		r.Roles = append(r.Roles, plainRoleOf(2, secretsFor(role, version)))
	}
	return r
}

func fullTrust() impl.Trust {
	return impl.Trust{
		Root:      trustedRoot(3, 100),
		Timestamp: impl.Link{Version: 5, Expires: 80, Next: 4},
		Snapshot:  impl.Link{Version: 4, Expires: 85, Next: 6},
		Targets:   impl.Targets{Version: 6, Expires: 90, List: manyTargets(3)},
		Head:      impl.Head{Size: 9, Root: image(9), Time: 7},
	}
}

func trustWith(change func(*impl.Trust)) impl.Trust {
	t := fullTrust()
	change(&t)
	return t
}

// attempt is a call of an update that is taken, as long as nothing of it is made wrong.
type attempt struct {
	role    int64
	trust   impl.Trust
	said    impl.Link // its numbers; a root and Targets have no Next
	list    []impl.Target
	body    string // in the place of what is said, if there is one
	secrets []int64
	behind  string
	now     int64
}

func attemptOf(role int64) attempt {
	a := attempt{role: role, trust: fullTrust(), said: impl.Link{Expires: 95}, now: 60, secrets: secretsFor(role, 3)[:2]}
	switch role {
	case impl.RoleRoot:
		a.said.Version = 4
		a.secrets = append(a.secrets, secretsFor(role, 4)[1:]...)
	case impl.RoleTimestamp:
		a.said.Version, a.said.Next = 6, 5
	case impl.RoleSnapshot:
		a.trust.Timestamp.Next = 7
		a.said.Version, a.said.Next = 7, 8
	case impl.RoleTargets:
		a.trust.Snapshot.Next = 8
		a.said.Version, a.list = 8, manyTargets(5)
	}
	return a
}

func attemptWith(role int64, change func(*attempt)) attempt {
	a := attemptOf(role)
	change(&a)
	return a
}

func bodyOf(role int64, said impl.Link, list []impl.Target) string {
	switch role {
	case impl.RoleRoot:
		return roots().plainBytes(trustedRoot(said.Version, said.Expires))
	case impl.RoleTargets:
		return allTargets().plainBytes(impl.Targets{Version: said.Version, Expires: said.Expires, List: list})
	}
	return linksOf(role).plainBytes(said)
}

func signedText(secrets []int64, body string) string {
	return allSigned().plainBytes(plainSignAll(secrets, body))
}

func (a attempt) text() string {
	body := a.body
	if body == "" {
		body = bodyOf(a.role, a.said, a.list)
	}
	return signedText(a.secrets, body) + a.behind
}

func wantAttempt(t *testing.T, what string, a attempt, code int64) {
	t.Helper()
	wantCodeOf(t, what, a.role, a.trust, a.text(), a.now, code)
	wantUpdate(t, what, a.role, a.trust, a.text(), a.now)
}

// fault makes something wrong of an attempt that is then refused with the code.
type fault struct {
	name string
	code int64
	make func(*attempt)
}

func without(secrets []int64, taken []int64) []int64 {
	return slices.DeleteFunc(slices.Clone(secrets), func(x int64) bool { return slices.Contains(taken, x) })
}

// faultsAhead and faultsOf are in the order in which the chapter names them.
func faultsAhead(role int64) []fault {
	out := []fault{
		{"a text that is too long", impl.ErrSize, func(a *attempt) { a.behind += strings.Repeat("\x00", impl.MaxBytes) }},
		{"a Trust that is not right", impl.ErrForm, func(a *attempt) { a.trust.Head.Size = 1000001 }},
	}
	if role != impl.RoleRoot {
		out = append(out,
			fault{"a now that is below 0", impl.ErrForm, func(a *attempt) { a.now = -1 }},
			fault{"a now that is too great", impl.ErrForm, func(a *attempt) { a.now = impl.MaxTime + 1 }})
	}
	noTimestamp := fault{"no Timestamp", impl.ErrNone, func(a *attempt) { a.trust.Timestamp = impl.Link{} }}
	noSnapshot := fault{"no Snapshot", impl.ErrNone, func(a *attempt) { a.trust.Snapshot = impl.Link{} }}
	broken := fault{"a Snapshot that is not the Timestamp's", impl.ErrVersion, func(a *attempt) { a.trust.Timestamp.Next++ }}
	oldRoot := fault{"a root that has expired", impl.ErrExpired, func(a *attempt) { a.trust.Root.Expires = a.now }}
	oldTimestamp := fault{"a Timestamp that has expired", impl.ErrExpired, func(a *attempt) { a.trust.Timestamp.Expires = a.now }}
	oldSnapshot := fault{"a Snapshot that has expired", impl.ErrExpired, func(a *attempt) { a.trust.Snapshot.Expires = a.now }}
	switch role {
	case impl.RoleTimestamp:
		out = append(out, oldRoot)
	case impl.RoleSnapshot:
		out = append(out, noTimestamp, oldRoot, oldTimestamp)
	case impl.RoleTargets:
		out = append(out, noTimestamp, noSnapshot, broken, oldRoot, oldTimestamp, oldSnapshot)
	}
	return out
}

func faultsOf(role int64) []fault {
	other := map[int64]int64{impl.RoleRoot: impl.RoleTargets, impl.RoleTargets: impl.RoleRoot, impl.RoleSnapshot: impl.RoleTimestamp, impl.RoleTimestamp: impl.RoleSnapshot}[role]
	out := append(faultsAhead(role),
		fault{"no right Signed", impl.ErrSyntax, func(a *attempt) { a.behind += "\x00" }},
		fault{"the bytes of something else", impl.ErrSyntax, func(a *attempt) { a.body = bodyOf(other, impl.Link{Version: 1, Expires: 1, Next: 1}, nil) }},
		fault{"one signature less", impl.ErrSign, func(a *attempt) { a.secrets = without(a.secrets, secretsFor(role, 3)[1:]) }})
	unlike := "that Version says something else"
	switch role {
	case impl.RoleRoot:
		return append(out,
			fault{"one signature of its own less", impl.ErrSign, func(a *attempt) { a.secrets = without(a.secrets, secretsFor(role, 4)[2:]) }},
			fault{"the same Version", impl.ErrVersion, func(a *attempt) { a.trust.Root.Version = a.said.Version }},
			fault{"one Version left out", impl.ErrVersion, func(a *attempt) { a.trust.Root.Version = a.said.Version - 2 }})
	case impl.RoleTimestamp:
		out = append(out,
			fault{"a Version that falls", impl.ErrVersion, func(a *attempt) { a.trust.Timestamp.Version = a.said.Version + 1 }},
			fault{"a Next that falls", impl.ErrVersion, func(a *attempt) { a.trust.Timestamp.Next = a.said.Next + 1 }},
			fault{unlike, impl.ErrVersion, func(a *attempt) { a.trust.Timestamp.Version = a.said.Version }})
	case impl.RoleSnapshot:
		out = append(out,
			fault{"another Version than the Timestamp's Next", impl.ErrVersion, func(a *attempt) { a.said.Version++ }},
			fault{"a Version that falls", impl.ErrVersion, func(a *attempt) { a.trust.Snapshot.Version = a.said.Version + 1 }},
			fault{"a Next that falls", impl.ErrVersion, func(a *attempt) { a.trust.Snapshot.Next = a.said.Next + 1 }},
			fault{unlike, impl.ErrVersion, func(a *attempt) { a.trust.Snapshot.Version = a.said.Version }})
	case impl.RoleTargets:
		out = append(out,
			fault{"another Version than the Snapshot's Next", impl.ErrVersion, func(a *attempt) { a.said.Version++ }},
			fault{"a Version that falls", impl.ErrVersion, func(a *attempt) { a.trust.Targets.Version = a.said.Version + 1 }},
			fault{unlike, impl.ErrVersion, func(a *attempt) { a.trust.Targets.Version = a.said.Version }})
	}
	return append(out, fault{"it has expired itself", impl.ErrExpired, func(a *attempt) { a.said.Expires = a.now }})
}

func TestUpdatesAreTaken(t *testing.T) {
	for _, role := range updatingRoles() {
		wantAttempt(t, "nothing is wrong", attemptOf(role), impl.OK)
	}
}

func TestEachFaultAlone(t *testing.T) {
	for _, role := range updatingRoles() {
		for _, f := range faultsOf(role) {
			wantAttempt(t, f.name, attemptWith(role, f.make), f.code)
		}
	}
}

// Of two faults the one is told that is named first; the one that is named last is made first, so that both are there.
func TestEachTwoFaults(t *testing.T) {
	for _, role := range updatingRoles() {
		faults := faultsOf(role)
		for i, first := range faults {
			for _, second := range faults[i+1:] {
				a := attemptOf(role)
				second.make(&a)
				first.make(&a)
				wantAttempt(t, first.name+", and "+second.name, a, first.code)
			}
		}
	}
}

func TestAllFaultsFromOneOn(t *testing.T) {
	for _, role := range updatingRoles() {
		faults := faultsOf(role)
		a := attemptOf(role)
		for i := len(faults) - 1; i >= 0; i-- {
			faults[i].make(&a)
			wantAttempt(t, faults[i].name+", and all behind it", a, faults[i].code)
		}
	}
}

func TestKnownTrust(t *testing.T) {
	key := []int64{554688020} // of the secret 1001
	r := impl.Root{Version: 1, Expires: 900, Roles: slices.Repeat([]impl.Role{{Need: 1, Keys: key}}, 5)}
	trust := impl.TrustNew(r)
	if told(trust) != told(impl.Trust{Root: r}) || !impl.TrustRight(trust) {
		t.Errorf("TrustNew: got %v", trust)
	}
	wantFresh(t, "nothing but a root", trust, 0, impl.ErrNone)
	steps := []struct {
		role int64
		body string
	}{{impl.RoleTimestamp, "M\x04d\x06"}, {impl.RoleSnapshot, "P\x06d\x08"}, {impl.RoleTargets, "T\x08b\x00"}}
	for _, s := range steps {
		text := impl.SignedBytes(impl.SignAll([]int64{1001}, s.body))
		wantCodeOf(t, "too late", s.role, trust, text, 50, impl.ErrExpired)
		out := update(s.role, trust, text, 48)
		if out.Code != impl.OK {
			t.Fatalf("the update of role %d: Code %d", s.role, out.Code)
		}
		trust = out.Trust
	}
	want := impl.Trust{Root: r, Timestamp: impl.Link{Version: 2, Expires: 50, Next: 3}, Snapshot: impl.Link{Version: 3, Expires: 50, Next: 4}, Targets: impl.Targets{Version: 4, Expires: 49}}
	if told(trust) != told(want) || !impl.TrustSame(trust, want) {
		t.Errorf("in the end: got %v, want %v", trust, want)
	}
	wantFresh(t, "in the end", trust, 48, impl.OK)
	wantFresh(t, "in the end", trust, 49, impl.ErrExpired)
}

func TestHeadsThatAreRight(t *testing.T) {
	for _, size := range []int64{math.MinInt64, -1, 0, 1, 2, 999999, 1000000, 1000001, 1 << 32, 1<<32 + 1, math.MaxInt64} {
		for _, root := range []int{0, 1, 31, 32, 33, 64, impl.MaxBytes + 1} {
			for _, time := range append(someTimes(), noTimes()...) {
				h := impl.Head{Size: size, Root: mixed(root), Time: time}
				want := 1 <= size && size <= 1000000 && root == 32 && 0 <= time && time <= 1000000000
				if got := impl.HeadRight(h); got != want || plainHead(h) != want {
					t.Errorf("HeadRight of Size %d, a Root of %d bytes, Time %d: got %t", size, root, time, got)
				}
			}
		}
	}
}

func wrongHeads() map[string]impl.Head {
	out := map[string]impl.Head{"a Time and nothing else": {Time: 1}, "a Root and nothing else": {Root: image(1)}, "a Size and nothing else": {Size: 1}}
	for _, size := range []int64{math.MinInt64, -1, 0, 1000001, 1<<32 + 1, math.MaxInt64} {
		out[fmt.Sprint("Size ", size)] = impl.Head{Size: size, Root: image(1), Time: 1}
	}
	for _, size := range []int{0, 1, 31, 33, 64} {
		out[fmt.Sprint("a Root of ", size)] = impl.Head{Size: 1, Root: mixed(size), Time: 1}
	}
	for _, time := range noTimes() {
		out[fmt.Sprint("Time ", time)] = impl.Head{Size: 1, Root: image(1), Time: time}
	}
	return out
}

// wrongTrusts are right but for one part, which is neither right nor the zero one.
func wrongTrusts() map[string]impl.Trust {
	out := map[string]impl.Trust{
		"the zero Trust":       {},
		"all but a root":       trustWith(func(t *impl.Trust) { t.Root = impl.Root{} }),
		"a Timestamp's Next":   trustWith(func(t *impl.Trust) { t.Timestamp = impl.Link{Next: 1} }),
		"a Snapshot's Expires": trustWith(func(t *impl.Trust) { t.Snapshot = impl.Link{Expires: 1} }),
		"the Targets' Expires": trustWith(func(t *impl.Trust) { t.Targets = impl.Targets{Expires: 1} }),
		"the Targets' List":    trustWith(func(t *impl.Trust) { t.Targets = impl.Targets{List: manyTargets(1)} }),
	}
	for what, r := range wrongRoots() {
		out["Root: "+what] = trustWith(func(t *impl.Trust) { t.Root = r })
	}
	for what, l := range wrongLinks() {
		if !isNone(l) {
			out["Timestamp: "+what] = trustWith(func(t *impl.Trust) { t.Timestamp = l })
			out["Snapshot: "+what] = trustWith(func(t *impl.Trust) { t.Snapshot = l })
		}
	}
	for what, x := range wrongTargets() {
		if !isNone(x) {
			out["Targets: "+what] = trustWith(func(t *impl.Trust) { t.Targets = x })
		}
	}
	for what, h := range wrongHeads() {
		out["Head: "+what] = trustWith(func(t *impl.Trust) { t.Head = h })
	}
	return out
}

// partsLeftOut is a right Trust without the parts whose bits are not set.
func partsLeftOut(trust impl.Trust, bits int) impl.Trust {
	if bits&1 == 0 {
		trust.Timestamp = impl.Link{}
	}
	if bits&2 == 0 {
		trust.Snapshot = impl.Link{}
	}
	if bits&4 == 0 {
		trust.Targets = impl.Targets{}
	}
	if bits&8 == 0 {
		trust.Head = impl.Head{}
	}
	return trust
}

func rightTrusts() []impl.Trust {
	var out []impl.Trust
	greatest := impl.Link{Version: 1000000, Expires: impl.MaxTime, Next: 1000000}
	for bits := range 16 {
		out = append(out, partsLeftOut(fullTrust(), bits))
		out = append(out, partsLeftOut(impl.Trust{Root: leastRoot(), Timestamp: impl.Link{Version: 1, Next: 1}, Snapshot: impl.Link{Version: 1, Next: 1}, Targets: leastTargets(), Head: impl.Head{Size: 1, Root: mixed(32)}}, bits))
		out = append(out, partsLeftOut(impl.Trust{Root: greatestRoot(), Timestamp: greatest, Snapshot: greatest, Targets: greatestTargets(), Head: impl.Head{Size: 1000000, Root: mixed(32), Time: impl.MaxTime}}, bits))
	}
	for _, r := range rightRoots() {
		out = append(out, trustWith(func(t *impl.Trust) { t.Root = r }))
	}
	for _, x := range rightTargets() {
		out = append(out, trustWith(func(t *impl.Trust) { t.Targets = x }))
	}
	for i, l := range rightLinks() {
		if i%7 == 0 {
			out = append(out, trustWith(func(t *impl.Trust) { t.Timestamp = l }), trustWith(func(t *impl.Trust) { t.Snapshot = l }))
		}
	}
	return append(out, trustWith(func(t *impl.Trust) { t.Targets = impl.Targets{List: []impl.Target{}} }))
}

func TestTrustsThatAreRight(t *testing.T) {
	for i, trust := range rightTrusts() {
		if !impl.TrustRight(trust) || !plainTrust(trust) {
			t.Errorf("right Trust %d: TrustRight is false: %s", i, told(trust))
		}
	}
	for what, trust := range wrongTrusts() {
		if impl.TrustRight(trust) || plainTrust(trust) {
			t.Errorf("%s: TrustRight is true", what)
		}
	}
}

func TestNothingIsToldOfATrustThatIsNotRight(t *testing.T) {
	texts := map[int64]string{}
	for _, role := range updatingRoles() {
		texts[role] = attemptOf(role).text()
	}
	for what, trust := range wrongTrusts() {
		for _, role := range updatingRoles() {
			wantCodeOf(t, what, role, trust, texts[role], 60, impl.ErrForm)
			wantCodeOf(t, what, role, trust, "", 60, impl.ErrForm)
			wantCodeOf(t, what, role, trust, mixed(impl.MaxBytes+1), 60, impl.ErrSize)
		}
		if got := impl.Fresh(trust, 1); got != impl.ErrForm {
			t.Errorf("%s: Fresh: got %d", what, got)
		}
	}
}

func TestTrustNew(t *testing.T) {
	for i, r := range append(rightRoots(), trustedRoot(1, 50)) {
		if got := impl.TrustNew(r); told(got) != told(impl.Trust{Root: r}) || !impl.TrustRight(got) {
			t.Errorf("TrustNew of right root %d: got %s", i, told(got))
		}
	}
	for what, r := range wrongRoots() {
		if got := impl.TrustNew(r); !isNone(got) {
			t.Errorf("TrustNew, %s: got %s", what, told(got))
		}
	}
}

// otherTrusts are each like fullTrust but for one field.
func otherTrusts() map[string]impl.Trust {
	out := map[string]impl.Trust{
		"Roles":             trustWith(func(t *impl.Trust) { t.Root.Roles = t.Root.Roles[:4] }),
		"no Roles":          trustWith(func(t *impl.Trust) { t.Root.Roles = nil }),
		"Timestamp":         trustWith(func(t *impl.Trust) { t.Timestamp = impl.Link{} }),
		"Snapshot":          trustWith(func(t *impl.Trust) { t.Snapshot = impl.Link{} }),
		"Timestamp.Version": trustWith(func(t *impl.Trust) { t.Timestamp.Version++ }),
		"Timestamp.Expires": trustWith(func(t *impl.Trust) { t.Timestamp.Expires++ }),
		"Timestamp.Next":    trustWith(func(t *impl.Trust) { t.Timestamp.Next++ }),
		"Snapshot.Version":  trustWith(func(t *impl.Trust) { t.Snapshot.Version++ }),
		"Snapshot.Expires":  trustWith(func(t *impl.Trust) { t.Snapshot.Expires++ }),
		"Snapshot.Next":     trustWith(func(t *impl.Trust) { t.Snapshot.Next++ }),
		"both Links change": trustWith(func(t *impl.Trust) { t.Timestamp, t.Snapshot = t.Snapshot, t.Timestamp }),
		"Root.Version":      trustWith(func(t *impl.Trust) { t.Root.Version++ }),
		"Root.Expires":      trustWith(func(t *impl.Trust) { t.Root.Expires++ }),
		"Targets":           trustWith(func(t *impl.Trust) { t.Targets = impl.Targets{} }),
		"Targets.Version":   trustWith(func(t *impl.Trust) { t.Targets.Version++ }),
		"Targets.Expires":   trustWith(func(t *impl.Trust) { t.Targets.Expires++ }),
		"no List":           trustWith(func(t *impl.Trust) { t.Targets.List = nil }),
		"a shorter List":    trustWith(func(t *impl.Trust) { t.Targets.List = t.Targets.List[:2] }),
		"a longer List":     trustWith(func(t *impl.Trust) { t.Targets.List = manyTargets(4) }),
		"Head":              trustWith(func(t *impl.Trust) { t.Head = impl.Head{} }),
		"Head.Size":         trustWith(func(t *impl.Trust) { t.Head.Size++ }),
		"Head.Root":         trustWith(func(t *impl.Trust) { t.Head.Root = image(8) }),
		"a longer Root":     trustWith(func(t *impl.Trust) { t.Head.Root += "x" }),
		"Head.Time":         trustWith(func(t *impl.Trust) { t.Head.Time++ }),
	}
	for at := range 5 {
		out[fmt.Sprint("Need ", at)] = trustWith(func(t *impl.Trust) { t.Root.Roles[at].Need++ })
		out[fmt.Sprint("Keys ", at)] = trustWith(func(t *impl.Trust) { t.Root.Roles[at].Keys = t.Root.Roles[at].Keys[:2] })
		out[fmt.Sprint("no Keys ", at)] = trustWith(func(t *impl.Trust) { t.Root.Roles[at].Keys = nil })
		for i := range 3 {
			out[fmt.Sprint("Key ", i, " of ", at)] = trustWith(func(t *impl.Trust) { t.Root.Roles[at].Keys[i]++ })
		}
	}
	for at := range 3 {
		out[fmt.Sprint("Name ", at)] = trustWith(func(t *impl.Trust) { t.Targets.List[at].Name += "x" })
		out[fmt.Sprint("Image ", at)] = trustWith(func(t *impl.Trust) { t.Targets.List[at].Image = image(40) })
		out[fmt.Sprint("Size ", at)] = trustWith(func(t *impl.Trust) { t.Targets.List[at].Size++ })
	}
	return out
}

func wantSame(t *testing.T, what string, a impl.Trust, b impl.Trust, want bool) {
	t.Helper()
	if impl.TrustSame(a, b) != want || impl.TrustSame(b, a) != want {
		t.Errorf("%s: TrustSame is not %t, of %s and %s", what, want, show(told(a)), show(told(b)))
	}
}

func TestTrustSame(t *testing.T) {
	wantSame(t, "two alike", fullTrust(), fullTrust(), true)
	others := otherTrusts()
	for what, trust := range others {
		wantSame(t, what, fullTrust(), trust, false)
		wantSame(t, what+" and itself", trust, otherTrusts()[what], true)
		for another, two := range others {
			wantSame(t, what+" and "+another, trust, two, what == another)
		}
	}
	rights := rightTrusts()
	for i, a := range rights {
		for j, b := range rights {
			if (i+j)%5 == 0 || i == j {
				wantSame(t, fmt.Sprint("right Trusts ", i, " and ", j), a, b, plainSame(a, b))
			}
		}
	}
}

func TestAnEmptyListAndNoneAreTheSame(t *testing.T) {
	for what, pair := range map[string][2]impl.Trust{
		"List":               {trustWith(func(t *impl.Trust) { t.Targets.List = nil }), trustWith(func(t *impl.Trust) { t.Targets.List = []impl.Target{} })},
		"List of none":       {trustWith(func(t *impl.Trust) { t.Targets = impl.Targets{} }), trustWith(func(t *impl.Trust) { t.Targets = impl.Targets{List: []impl.Target{}} })},
		"List with a place":  {trustWith(func(t *impl.Trust) { t.Targets.List = nil }), trustWith(func(t *impl.Trust) { t.Targets.List = t.Targets.List[:0] })},
		"Roles":              {trustWith(func(t *impl.Trust) { t.Root.Roles = nil }), trustWith(func(t *impl.Trust) { t.Root.Roles = []impl.Role{} })},
		"Keys":               {trustWith(func(t *impl.Trust) { t.Root.Roles[2].Keys = nil }), trustWith(func(t *impl.Trust) { t.Root.Roles[2].Keys = []int64{} })},
		"nothing at all":     {{}, {Root: impl.Root{Roles: []impl.Role{}}, Targets: impl.Targets{List: []impl.Target{}}}},
		"nothing, and again": {{}, {}},
	} {
		wantSame(t, what, pair[0], pair[1], true)
	}
	// Targets that are the same by an empty list come again under their Version.
	for _, list := range [][]impl.Target{nil, {}, manyTargets(3)[:0]} {
		a := attemptWith(impl.RoleTargets, func(a *attempt) {
			a.list = nil
			a.trust.Targets = impl.Targets{Version: a.said.Version, Expires: a.said.Expires, List: list}
		})
		wantAttempt(t, "no Targets once more", a, impl.OK)
	}
	// Targets that are none by an empty list are none.
	none := attemptWith(impl.RoleTargets, func(a *attempt) { a.trust.Targets = impl.Targets{List: []impl.Target{}} })
	wantAttempt(t, "an empty list behind none", none, impl.OK)
	if got := impl.Fresh(trustWith(func(t *impl.Trust) { t.Targets = impl.Targets{List: []impl.Target{}} }), 1); got != impl.ErrNone {
		t.Errorf("Fresh of none by an empty list: %d", got)
	}
}

func TestUpdatesOfATrustThatLacksParts(t *testing.T) {
	for bits := range 16 {
		for _, role := range updatingRoles() {
			a := attemptWith(role, func(a *attempt) { a.trust = partsLeftOut(a.trust, bits) })
			want := int64(impl.OK)
			if role == impl.RoleSnapshot && bits&1 == 0 || role == impl.RoleTargets && bits&3 != 3 {
				want = impl.ErrNone
			}
			wantAttempt(t, fmt.Sprint("with the parts ", bits), a, want)
		}
	}
}

// Each number of what is said, against each of what is trusted.
func TestTimestampsFollowTheTrustedOne(t *testing.T) {
	for bits := range 2 {
		for version := int64(3); version <= 7; version++ {
			for next := int64(2); next <= 6; next++ {
				for _, expires := range []int64{79, 80, 81} {
					a := attemptWith(impl.RoleTimestamp, func(a *attempt) {
						a.said = impl.Link{Version: version, Expires: expires, Next: next}
						a.trust = partsLeftOut(a.trust, 14+bits)
					})
					want := int64(impl.ErrVersion)
					if bits == 0 || version > 5 && next >= 4 || version == 5 && next == 4 && expires == 80 {
						want = impl.OK
					}
					wantAttempt(t, fmt.Sprint(a.said, " behind ", a.trust.Timestamp), a, want)
				}
			}
		}
	}
}

func TestSnapshotsFollowTheTrustedOnes(t *testing.T) {
	for bits := range 2 {
		for named := int64(2); named <= 6; named++ {
			for version := int64(2); version <= 6; version++ {
				for next := int64(4); next <= 8; next++ {
					for _, expires := range []int64{84, 85, 86} {
						a := attemptWith(impl.RoleSnapshot, func(a *attempt) {
							a.said = impl.Link{Version: version, Expires: expires, Next: next}
							a.trust = partsLeftOut(a.trust, 13+2*bits)
							a.trust.Timestamp.Next = named
						})
						want := int64(impl.ErrVersion)
						if version == named && (bits == 0 || version > 4 && next >= 6 || version == 4 && next == 6 && expires == 85) {
							want = impl.OK
						}
						wantAttempt(t, fmt.Sprint(a.said, " behind ", a.trust.Snapshot, ", named ", named), a, want)
					}
				}
			}
		}
	}
}

func TestTargetsFollowTheTrustedOnes(t *testing.T) {
	for bits := range 2 {
		for named := int64(4); named <= 8; named++ {
			for version := int64(4); version <= 8; version++ {
				for _, expires := range []int64{89, 90, 91} {
					for count := 2; count <= 4; count++ {
						a := attemptWith(impl.RoleTargets, func(a *attempt) {
							a.said, a.list = impl.Link{Version: version, Expires: expires}, manyTargets(count)
							a.trust = partsLeftOut(a.trust, 11+4*bits)
							a.trust.Snapshot.Next = named
						})
						want := int64(impl.ErrVersion)
						if version == named && (bits == 0 || version > 6 || version == 6 && expires == 90 && count == 3) {
							want = impl.OK
						}
						wantAttempt(t, fmt.Sprint("Version ", version, ", named ", named, ", of ", count), a, want)
					}
				}
			}
		}
	}
	// The same Version with one field of one Target changed.
	for at := range 3 {
		for what, change := range map[string]func(*impl.Target){
			"Name":  func(x *impl.Target) { x.Name += "x" },
			"Image": func(x *impl.Target) { x.Image = image(50) },
			"Size":  func(x *impl.Target) { x.Size++ },
		} {
			a := attemptWith(impl.RoleTargets, func(a *attempt) {
				a.said, a.list, a.trust.Snapshot.Next = impl.Link{Version: 6, Expires: 90}, manyTargets(3), 6
			})
			wantAttempt(t, "the same Targets", a, impl.OK)
			change(&a.list[at])
			wantAttempt(t, fmt.Sprint("the same Version, another ", what, " at ", at), a, impl.ErrVersion)
		}
	}
}

func TestTheTimestampAndTheSnapshotMustFitForTargets(t *testing.T) {
	for named := int64(1); named <= 6; named++ {
		for version := int64(1); version <= 6; version++ {
			a := attemptWith(impl.RoleTargets, func(a *attempt) { a.trust.Timestamp.Next, a.trust.Snapshot.Version = named, version })
			want := int64(impl.OK)
			if named != version {
				want = impl.ErrVersion
			}
			wantAttempt(t, fmt.Sprint("named ", named, ", trusted ", version), a, want)
			trust := trustWith(func(t *impl.Trust) { t.Timestamp.Next, t.Snapshot.Version = named, version })
			wantFresh(t, fmt.Sprint("named ", named, ", trusted ", version), trust, 1, want)
		}
	}
}

// The numbers at the ends of what a version may be.
func TestVersionsAtTheEnds(t *testing.T) {
	for _, trusted := range []int64{1, 2, 999998, 999999, 1000000} {
		for _, said := range []int64{-1, 0, 1, 2, 3, 999997, 999998, 999999, 1000000, 1000001, 1000002, 1 << 32, math.MaxInt64, math.MinInt64} {
			code := func(taken bool) int64 {
				if said < 1 || said > 1000000 {
					return impl.ErrSyntax
				}
				if !taken {
					return impl.ErrVersion
				}
				return impl.OK
			}
			root := attemptWith(impl.RoleRoot, func(a *attempt) { a.trust.Root, a.said.Version = trustedRoot(trusted, 100), said })
			root.secrets = slices.Concat(secretsFor(impl.RoleRoot, trusted)[:2], secretsFor(impl.RoleRoot, 2))
			root.body = roots().plainBytes(rootSaid(said))
			wantAttempt(t, fmt.Sprint("root ", said, " behind ", trusted), root, code(said == trusted+1))
			timestamp := attemptWith(impl.RoleTimestamp, func(a *attempt) { a.trust.Timestamp.Version, a.said.Version = trusted, said })
			wantAttempt(t, fmt.Sprint("Timestamp ", said, " behind ", trusted), timestamp, code(said > trusted))
			next := attemptWith(impl.RoleTimestamp, func(a *attempt) { a.trust.Timestamp.Next, a.said.Next = trusted, said })
			wantAttempt(t, fmt.Sprint("Next ", said, " behind ", trusted), next, code(said >= trusted))
			snapshot := attemptWith(impl.RoleSnapshot, func(a *attempt) {
				a.trust.Snapshot, a.trust.Timestamp.Next, a.said.Version = impl.Link{}, trusted, said
			})
			wantAttempt(t, fmt.Sprint("Snapshot ", said, " named ", trusted), snapshot, code(said == trusted))
			targets := attemptWith(impl.RoleTargets, func(a *attempt) {
				a.trust.Targets, a.trust.Snapshot.Next, a.said.Version = impl.Targets{}, trusted, said
			})
			wantAttempt(t, fmt.Sprint("Targets ", said, " named ", trusted), targets, code(said == trusted))
		}
	}
}

// rootSaid has the keys of version 2, whatever its own is.
func rootSaid(version int64) impl.Root {
	r := trustedRoot(2, 95)
	r.Version = version
	return r
}

// The same thing by another text: what counts is what is read of it.
func TestTheSameThingSignedByOthers(t *testing.T) {
	for _, role := range updatingRoles()[1:] {
		a := attemptOf(role)
		trust := update(role, a.trust, a.text(), a.now).Trust
		three := secretsFor(role, 3)
		for _, secrets := range [][]int64{three[:2], three[1:], reversed(three[:2]), three, append(reversed(three), three...), append([]int64{7, 8}, three...)} {
			again := a
			again.trust, again.secrets = trust, secrets
			wantAttempt(t, fmt.Sprint("once more, signed by ", secrets), again, impl.OK)
			if got := update(role, trust, again.text(), a.now).Trust; !impl.TrustSame(got, trust) {
				t.Errorf("role %d once more: got %s, want %s", role, told(got), told(trust))
			}
			again.said.Expires++
			wantAttempt(t, fmt.Sprint("another one of that Version, signed by ", secrets), again, impl.ErrVersion)
		}
	}
	// A root does not come again.
	a := attemptOf(impl.RoleRoot)
	again := a
	again.trust = impl.UpdateRoot(a.trust, a.text()).Trust
	wantAttempt(t, "the root once more, signed by its own", attemptWith(impl.RoleRoot, func(x *attempt) { x.trust = again.trust }), impl.ErrVersion)
}

func TestOneSignatureLessJustAndMore(t *testing.T) {
	for _, role := range updatingRoles()[1:] {
		for count := 1; count <= 8; count++ {
			secrets := eightSecrets()[:count]
			for need := 1; need <= count; need++ {
				for _, signed := range []int{0, need - 1, need, need + 1, count} {
					if signed > count {
						continue
					}
					a := attemptWith(role, func(a *attempt) {
						a.trust.Root.Roles[role] = plainRoleOf(int64(need), secrets)
						a.secrets = append([]int64{3001, 3002}, secrets[count-signed:]...)
					})
					want := int64(impl.OK)
					if signed < need {
						want = impl.ErrSign
					}
					wantAttempt(t, fmt.Sprint(signed, " of ", count, ", Need ", need), a, want)
				}
			}
		}
		twice := attemptWith(role, func(a *attempt) { a.secrets = slices.Repeat(secretsFor(role, 3)[:1], 16) })
		wantAttempt(t, "one key 16 times", twice, impl.ErrSign)
		nobody := attemptWith(role, func(a *attempt) { a.secrets = nil })
		wantAttempt(t, "signed by nobody", nobody, impl.ErrSign)
		for other := range int64(5) {
			a := attemptWith(role, func(a *attempt) { a.secrets = secretsFor(other, 3) })
			want := int64(impl.OK)
			if other != role {
				want = impl.ErrSign
			}
			wantAttempt(t, fmt.Sprint("signed by role ", other), a, want)
		}
	}
}

// Promise 10: by each choice of the keys of both, of which one is of both.
func TestARootIsSignedByTheOneAheadAndItself(t *testing.T) {
	all := []int64{51, 52, 53, 54, 55}
	for _, needs := range [][2]int64{{1, 1}, {1, 2}, {1, 3}, {2, 1}, {2, 2}, {2, 3}, {3, 1}, {3, 2}, {3, 3}} {
		trust := fullTrust()
		trust.Root.Roles[impl.RoleRoot] = plainRoleOf(needs[0], all[:3])
		next := trustedRoot(4, 95)
		next.Roles[impl.RoleRoot] = plainRoleOf(needs[1], all[2:])
		for bits := range 1 << 5 {
			ahead, own := len(chosen(all[:3], bits)), len(chosen(all[2:], bits>>2))
			want := int64(impl.OK)
			if int64(ahead) < needs[0] || int64(own) < needs[1] {
				want = impl.ErrSign
			}
			a := attemptWith(impl.RoleRoot, func(a *attempt) {
				a.trust, a.body, a.secrets = trust, roots().plainBytes(next), chosen(all, bits)
			})
			wantAttempt(t, fmt.Sprint("needs ", needs, ", signed by ", a.secrets), a, want)
		}
	}
}

func TestARootSignedByTheWrongOnes(t *testing.T) {
	ahead, own := secretsFor(impl.RoleRoot, 3), secretsFor(impl.RoleRoot, 4)
	for what, secrets := range map[string][]int64{
		"nobody":                 nil,
		"the trusted keys alone": ahead,
		"its own alone":          own,
		"another role's":         secretsFor(impl.RoleTargets, 3),
		"one of each":            {ahead[0], own[0]},
		"one less of its own":    append(slices.Clone(ahead), own[0], own[0]),
		"one less of the trust":  append(slices.Clone(own), ahead[2], ahead[2]),
		"those of older ones":    append(slices.Clone(own), secretsFor(impl.RoleRoot, 2)...),
		"those of later ones":    append(slices.Clone(ahead), secretsFor(impl.RoleRoot, 5)...),
	} {
		a := attemptWith(impl.RoleRoot, func(a *attempt) { a.secrets = secrets })
		wantAttempt(t, what, a, impl.ErrSign)
	}
	both := attemptWith(impl.RoleRoot, func(a *attempt) { a.secrets = append(slices.Clone(own), ahead...) })
	wantAttempt(t, "all of both", both, impl.OK)
	// The other roles of the new root have no say.
	stolen := trustedRoot(4, 95)
	stolen.Roles[impl.RoleTargets] = plainRoleOf(1, []int64{9})
	wantAttempt(t, "with other roles", attemptWith(impl.RoleRoot, func(a *attempt) { a.body = roots().plainBytes(stolen) }), impl.OK)
}

// Roots one behind the other: none is left out, and the keys of those ahead do not count any more.
func TestRootsOneByOne(t *testing.T) {
	trust := impl.TrustNew(trustedRoot(1, 30))
	for version := int64(2); version <= 12; version++ {
		body := bodyOf(impl.RoleRoot, impl.Link{Version: version, Expires: version}, nil)
		own := secretsFor(impl.RoleRoot, version)
		for older := int64(1); older < version; older++ {
			text := signedText(append(secretsFor(impl.RoleRoot, older), own...), body)
			want := int64(impl.OK)
			if older < version-1 {
				want = impl.ErrSign
			}
			wantCodeOf(t, fmt.Sprint("root ", version, " by the keys of ", older), impl.RoleRoot, trust, text, 0, want)
		}
		text := signedText(append(secretsFor(impl.RoleRoot, version-1), own...), body)
		if code := wantUpdate(t, fmt.Sprint("root ", version), impl.RoleRoot, trust, text, 0); code != impl.OK {
			t.Fatalf("root %d: Code %d", version, code)
		}
		trust = impl.UpdateRoot(trust, text).Trust
		ahead := signedText(append(secretsFor(impl.RoleRoot, version), secretsFor(impl.RoleRoot, version+2)...), bodyOf(impl.RoleRoot, impl.Link{Version: version + 2, Expires: 30}, nil))
		wantCodeOf(t, "one is left out", impl.RoleRoot, trust, ahead, 0, impl.ErrVersion)
	}
}

// A root asks for no time: one that has expired is taken, and leads on.
func TestRootsThatHaveExpiredAreTaken(t *testing.T) {
	for _, trusted := range []int64{0, 1, 100, impl.MaxTime} {
		for _, said := range []int64{0, 1, 100, impl.MaxTime} {
			a := attemptWith(impl.RoleRoot, func(a *attempt) { a.trust.Root.Expires, a.said.Expires = trusted, said })
			wantAttempt(t, fmt.Sprint("Expires ", said, " behind ", trusted), a, impl.OK)
		}
	}
}

func TestTheKeysOfANewRootCount(t *testing.T) {
	next := trustedRoot(4, 95)
	for _, role := range updatingRoles()[1:] {
		next.Roles[role] = plainRoleOf(1, []int64{9000 + role})
	}
	for _, role := range updatingRoles()[1:] {
		a := attemptOf(role)
		text := signedText(attemptOf(impl.RoleRoot).secrets, roots().plainBytes(next))
		out := impl.UpdateRoot(a.trust, text)
		if out.Code != impl.OK {
			t.Fatalf("the root is refused with %d", out.Code)
		}
		a.trust = out.Trust
		wantAttempt(t, "signed by the keys of the root ahead", a, impl.ErrSign)
		a.secrets = []int64{9000 + role}
		wantAttempt(t, "signed by the key of the new root", a, impl.OK)
	}
}

func TestTimesOfUpdates(t *testing.T) {
	times := []int64{-1, 0, 1, 59, 60, 61, impl.MaxTime - 1, impl.MaxTime, impl.MaxTime + 1, math.MaxInt64, math.MinInt64}
	for _, role := range updatingRoles()[1:] {
		for _, now := range times {
			for _, expires := range []int64{0, 1, 59, 60, 61, 62, impl.MaxTime - 1, impl.MaxTime} {
				code := func(asked bool) int64 {
					if now < 0 || now > impl.MaxTime {
						return impl.ErrForm
					}
					if asked && expires <= now || now == impl.MaxTime {
						return impl.ErrExpired
					}
					return impl.OK
				}
				late := func(change func(*attempt)) attempt {
					return attemptWith(role, func(a *attempt) {
						a.now, a.said.Expires, a.trust.Root.Expires = now, impl.MaxTime, impl.MaxTime
						a.trust.Timestamp.Expires, a.trust.Snapshot.Expires, a.trust.Targets.Expires = impl.MaxTime, impl.MaxTime, impl.MaxTime
						change(a)
					})
				}
				what := fmt.Sprint(" expires at ", expires)
				wantAttempt(t, "it"+what, late(func(a *attempt) { a.said.Expires = expires }), code(true))
				wantAttempt(t, "the root"+what, late(func(a *attempt) { a.trust.Root.Expires = expires }), code(true))
				wantAttempt(t, "the Timestamp"+what, late(func(a *attempt) { a.trust.Timestamp.Expires = expires }), code(role != impl.RoleTimestamp))
				wantAttempt(t, "the Snapshot"+what, late(func(a *attempt) { a.trust.Snapshot.Expires = expires }), code(role == impl.RoleTargets))
				wantAttempt(t, "the Targets"+what, late(func(a *attempt) { a.trust.Targets.Expires = expires }), code(false))
			}
		}
	}
}

func TestBodiesOfSomethingElse(t *testing.T) {
	for _, role := range updatingRoles() {
		a := attemptOf(role)
		said := bodyOf(role, a.said, a.list)
		bodies := map[string]string{"nothing": "", "its own twice": said + said, "its own and a byte": said + "\x00", "its own cut short": said[:len(said)-1], "a Signed": a.text(), "a Head": "H\x02" + image(1) + "\x02"}
		for _, other := range updatingRoles() {
			if other != role {
				bodies[fmt.Sprint("that of role ", other)] = bodyOf(other, impl.Link{Version: a.said.Version, Expires: 95, Next: a.said.Version}, manyTargets(2))
			}
		}
		for what, body := range bodies {
			text := signedText(a.secrets, body)
			wantCodeOf(t, what, role, a.trust, text, a.now, impl.ErrSyntax)
			wantUpdate(t, what, role, a.trust, text, a.now)
		}
		// Not signed at all, as it is.
		wantCodeOf(t, "the body as it is", role, a.trust, said, a.now, impl.ErrSyntax)
		wantCodeOf(t, "no text", role, a.trust, "", a.now, impl.ErrSyntax)
	}
}

func TestTextsThatAreTooLong(t *testing.T) {
	for _, role := range updatingRoles() {
		a := attemptOf(role)
		text := a.text()
		for _, fill := range []string{"\x00", "\xff", "S"} {
			long := text + strings.Repeat(fill, impl.MaxBytes)
			wantCodeOf(t, "as long as may be", role, a.trust, long[:impl.MaxBytes], a.now, impl.ErrSyntax)
			wantCodeOf(t, "one byte too long", role, a.trust, long[:impl.MaxBytes+1], a.now, impl.ErrSize)
			wantCodeOf(t, "too long", role, a.trust, long, a.now, impl.ErrSize)
			wantCodeOf(t, "too long, of the zero Trust", role, impl.Trust{}, long, -1, impl.ErrSize)
		}
		// A Body as long as may be is none of these, and one that is longer is no right Signed.
		for _, size := range []int{7999, 8000, 8001} {
			wantCodeOf(t, fmt.Sprint("a Body of ", size), role, a.trust, allSigned().plainBytes(impl.Signed{Body: mixed(size)}), a.now, impl.ErrSyntax)
		}
		seventeen := allSigned().plainBytes(impl.Signed{Body: bodyOf(role, a.said, a.list), Sigs: append(plainSignAll(a.secrets, bodyOf(role, a.said, a.list)).Sigs, manySigs(17-len(a.secrets))...)})
		wantCodeOf(t, "17 Sigs", role, a.trust, seventeen, a.now, impl.ErrSyntax)
		sixteen := attemptWith(role, func(a *attempt) { a.secrets = append(a.secrets, someSecrets()[:16-len(a.secrets)]...) })
		wantAttempt(t, "16 Sigs", sixteen, impl.OK)
	}
}

// Whatever bit is turned, byte left out or cut off: the chapter, read once more, tells the same.
func TestTextsThatAreTurned(t *testing.T) {
	for _, role := range updatingRoles() {
		a := attemptOf(role)
		text := a.text()
		for at := range len(text) {
			for bit := range 8 {
				if len(text) > 200 && (at+bit)%4 != 0 {
					continue
				}
				other := turned(text, 8*at+bit)
				if code := wantUpdate(t, fmt.Sprint("bit ", bit, " of byte ", at), role, a.trust, other, a.now); code == impl.OK {
					t.Errorf("role %d: bit %d of byte %d is turned, and it is taken", role, bit, at)
				}
			}
			wantCodeOf(t, fmt.Sprint("the first ", at), role, a.trust, text[:at], a.now, impl.ErrSyntax)
			wantUpdate(t, fmt.Sprint("without byte ", at), role, a.trust, text[:at]+text[at+1:], a.now)
		}
	}
}

// Promise 11, of each order of the four.
func TestFreshUntilTheLeastExpires(t *testing.T) {
	times := []int64{0, 1, 40, 41, 42, impl.MaxTime - 1, impl.MaxTime}
	for i := range len(times) * len(times) * len(times) * len(times) {
		trust := trustWith(func(t *impl.Trust) {
			t.Root.Expires, t.Timestamp.Expires = times[i%7], times[i/7%7]
			t.Snapshot.Expires, t.Targets.Expires = times[i/49%7], times[i/343]
		})
		least := leastExpires(trust)
		for _, now := range []int64{0, least - 2, least - 1, least, least + 1, impl.MaxTime} {
			if now < 0 || now > impl.MaxTime {
				continue
			}
			want := int64(impl.OK)
			if now >= least {
				want = impl.ErrExpired
			}
			if got := impl.Fresh(trust, now); got != want {
				t.Errorf("Fresh at %d, the least Expires being %d: got %d", now, least, got)
			}
		}
	}
}

func TestFreshAtAllEarlierTimes(t *testing.T) {
	for i, trust := range []impl.Trust{fullTrust(), trustWith(func(t *impl.Trust) { t.Timestamp.Expires = 3 }), trustWith(func(t *impl.Trust) { t.Root.Expires = 0 })} {
		for now := int64(0); now <= 120; now++ {
			want := int64(impl.OK)
			if now >= leastExpires(trust) {
				want = impl.ErrExpired
			}
			wantFresh(t, fmt.Sprint("Trust ", i), trust, now, want)
		}
	}
}

func TestTimesOfFresh(t *testing.T) {
	trust := trustWith(func(t *impl.Trust) {
		t.Root.Expires, t.Timestamp.Expires, t.Snapshot.Expires, t.Targets.Expires = impl.MaxTime, impl.MaxTime, impl.MaxTime, impl.MaxTime
	})
	for _, now := range noTimes() {
		wantFresh(t, "no time", trust, now, impl.ErrForm)
		wantFresh(t, "no time", fullTrust(), now, impl.ErrForm)
	}
	wantFresh(t, "the least time", trust, 0, impl.OK)
	wantFresh(t, "one ahead of the greatest", trust, impl.MaxTime-1, impl.OK)
	wantFresh(t, "the greatest", trust, impl.MaxTime, impl.ErrExpired)
}

func TestFreshTellsTheFirstFault(t *testing.T) {
	faults := []fault{
		{"a Trust that is not right", impl.ErrForm, func(a *attempt) { a.trust.Head.Time = -1 }},
		{"a now that is below 0", impl.ErrForm, func(a *attempt) { a.now = -1 }},
		{"a now that is too great", impl.ErrForm, func(a *attempt) { a.now = impl.MaxTime + 1 }},
		{"no Timestamp", impl.ErrNone, func(a *attempt) { a.trust.Timestamp = impl.Link{} }},
		{"no Snapshot", impl.ErrNone, func(a *attempt) { a.trust.Snapshot = impl.Link{} }},
		{"no Targets", impl.ErrNone, func(a *attempt) { a.trust.Targets = impl.Targets{} }},
		{"another Snapshot", impl.ErrVersion, func(a *attempt) { a.trust.Timestamp.Next++ }},
		{"other Targets", impl.ErrVersion, func(a *attempt) { a.trust.Targets.Version-- }},
		{"a root that has expired", impl.ErrExpired, func(a *attempt) { a.trust.Root.Expires = a.now }},
		{"a Timestamp that has expired", impl.ErrExpired, func(a *attempt) { a.trust.Timestamp.Expires = a.now }},
		{"a Snapshot that has expired", impl.ErrExpired, func(a *attempt) { a.trust.Snapshot.Expires = a.now - 1 }},
		{"Targets that have expired", impl.ErrExpired, func(a *attempt) { a.trust.Targets.Expires = 0 }},
	}
	wantFresh(t, "nothing is wrong", fullTrust(), 60, impl.OK)
	wantFresh(t, "no Head", trustWith(func(t *impl.Trust) { t.Head = impl.Head{} }), 60, impl.OK)
	for i, first := range faults {
		alone := attempt{trust: fullTrust(), now: 60}
		first.make(&alone)
		wantFresh(t, first.name, alone.trust, alone.now, first.code)
		for _, second := range faults[i+1:] {
			both := attempt{trust: fullTrust(), now: 60}
			second.make(&both)
			first.make(&both)
			wantFresh(t, first.name+", and "+second.name, both.trust, both.now, first.code)
		}
	}
}

func TestFreshOfRightTrusts(t *testing.T) {
	for i, trust := range rightTrusts() {
		for _, now := range []int64{0, 1, 60, leastExpires(trust), impl.MaxTime} {
			wantFresh(t, fmt.Sprint("right Trust ", i), trust, now, plainFresh(trust, now))
		}
	}
}

// Promise 9 along a way of many updates, of which most are refused.
func TestNoVersionFallsAlongTheWay(t *testing.T) {
	x := int64(31415)
	next := func(most int64) int64 {
		x = (x*48271 + 7) % 2147483647
		return x % most
	}
	taken := map[int64]int{}
	for range 30 {
		trust := impl.TrustNew(trustedRoot(1, 1000))
		for step := range 120 {
			now := int64(step)
			role := updatingRoles()[next(4)]
			said := impl.Link{Version: 1 + next(4) + now/30, Expires: now + next(300), Next: 1 + next(3) + now/30}
			switch role {
			case impl.RoleRoot:
				said.Version, said.Expires = trust.Root.Version+next(3), 1000+next(2)
			case impl.RoleSnapshot:
				said.Version = max(1, trust.Timestamp.Next+next(4)/3)
			case impl.RoleTargets:
				said.Version = max(1, trust.Snapshot.Next+next(4)/3)
			}
			secrets := secretsFor(role, trust.Root.Version)[next(4)/2:]
			if role == impl.RoleRoot {
				secrets = append(secrets, secretsFor(role, said.Version)[next(4)/2:]...)
			}
			text := signedText(secrets, bodyOf(role, said, manyTargets(int(next(3)))))
			if wantUpdate(t, fmt.Sprint("step ", step), role, trust, text, now) == impl.OK {
				trust = update(role, trust, text, now).Trust
				taken[role]++
			}
			wantFresh(t, fmt.Sprint("step ", step), trust, now, plainFresh(trust, now))
		}
	}
	for _, role := range updatingRoles() {
		if taken[role] < 50 {
			t.Errorf("%d updates of role %d are taken", taken[role], role)
		}
	}
}

// roomyTrust has place behind each of its lists.
func roomyTrust(t impl.Trust) impl.Trust {
	for i := range t.Root.Roles {
		t.Root.Roles[i].Keys = roomyKeys(t.Root.Roles[i].Keys)
	}
	t.Root.Roles = append(t.Root.Roles, impl.Role{Need: 77})[:5]
	t.Targets.List = append(t.Targets.List, impl.Target{Name: "kept"})[:len(t.Targets.List)]
	return t
}

func wantRoomyUnchanged(t *testing.T, what string, trust impl.Trust, want impl.Trust) {
	t.Helper()
	if told(trust) != told(want) || trust.Root.Roles[:6][5].Need != 77 {
		t.Errorf("%s: the Trust is changed: %s", what, told(trust))
	}
	for _, role := range trust.Root.Roles {
		if behind := role.Keys[len(role.Keys) : len(role.Keys)+3]; !slices.Equal(behind, []int64{77, 77, 77}) {
			t.Errorf("%s: behind the keys stands %v", what, behind)
		}
	}
	if list := trust.Targets.List; list[:len(list)+1][len(list)].Name != "kept" {
		t.Errorf("%s: behind the Targets stands %v", what, list[:len(list)+1][len(list)])
	}
}

func TestTrustsAreNotChanged(t *testing.T) {
	for _, role := range updatingRoles() {
		a := attemptOf(role)
		trust, text := roomyTrust(attemptOf(role).trust), a.text()
		for _, now := range []int64{a.now, 500, -1} {
			update(role, trust, text, now)
			update(role, trust, text[1:], now)
			impl.Fresh(trust, now)
		}
		impl.TrustRight(trust)
		impl.TrustNew(trust.Root)
		impl.TrustSame(trust, trust)
		wantRoomyUnchanged(t, fmt.Sprint("role ", role), trust, a.trust)
		if text != a.text() {
			t.Errorf("role %d: the text is changed", role)
		}
	}
}

// scribble writes over all lists of a Trust, as far as their memory goes.
func scribble(t impl.Trust) {
	for i, role := range t.Root.Roles {
		for j := range role.Keys[:cap(role.Keys)] {
			role.Keys[:cap(role.Keys)][j] = -7
		}
		t.Root.Roles[i].Need = -7
	}
	for i := range t.Targets.List[:cap(t.Targets.List)] {
		t.Targets.List[:cap(t.Targets.List)][i] = impl.Target{Name: "written"}
	}
}

func textsOf(t impl.Trust) []string {
	out := []string{t.Head.Root}
	for _, one := range t.Targets.List {
		out = append(out, one.Name, one.Image)
	}
	return out
}

func wantApart(t *testing.T, what string, a impl.Trust, b impl.Trust) {
	t.Helper()
	for _, mine := range textsOf(a) {
		for _, other := range textsOf(b) {
			if share(mine, other) {
				t.Errorf("%s: a text lies in another one's", what)
			}
		}
	}
	for i, mine := range a.Root.Roles {
		for j, other := range a.Root.Roles {
			if i != j && shareList(mine.Keys, other.Keys) {
				t.Errorf("%s: the keys of roles %d and %d share memory", what, i, j)
			}
		}
	}
	was := told(b)
	scribble(a)
	if told(b) != was {
		t.Errorf("%s: lists share memory", what)
	}
}

func TestTrustsAreNewMemory(t *testing.T) {
	r := trustedRoot(3, 100)
	wantApart(t, "TrustNew and its root", impl.TrustNew(r), impl.Trust{Root: r})
	wantApart(t, "TrustNew twice", impl.TrustNew(r), impl.TrustNew(r))
	for _, role := range updatingRoles() {
		a := attemptOf(role)
		text := a.text()
		call := func() impl.Trust { return update(role, a.trust, text, a.now).Trust }
		for _, part := range textsOf(call()) {
			if len(part) < 2 || share(part, text) {
				t.Errorf("role %d: a text of the answer lies in the one that was handed in", role)
			}
		}
		wantApart(t, fmt.Sprint("role ", role, ": the answer and the Trust"), call(), a.trust)
		wantApart(t, fmt.Sprint("role ", role, ": two answers"), call(), call())
	}
	// One key list that stands in all roles of the Trust stands in none twice in the answer.
	keys := keysTold([]int64{1001})
	one := impl.Root{Version: 1, Expires: 9, Roles: slices.Repeat([]impl.Role{{Need: 1, Keys: keys}}, 5)}
	wantApart(t, "one list five times", impl.TrustNew(one), impl.Trust{Root: one})
	text := signedText([]int64{1001}, bodyOf(impl.RoleTimestamp, impl.Link{Version: 1, Expires: 9, Next: 1}, nil))
	wantApart(t, "one list five times, updated", impl.UpdateTimestamp(impl.Trust{Root: one}, text, 1).Trust, impl.Trust{Root: one})
}

func TestTrustIsTheSameEachTime(t *testing.T) {
	for range 20 {
		for _, role := range updatingRoles() {
			a := attemptOf(role)
			wantAttempt(t, "again", a, impl.OK)
			wantCodeOf(t, "a wrong one between", role, impl.Trust{}, a.text(), a.now, impl.ErrForm)
			wantCodeOf(t, "another one between", role, a.trust, a.text()[1:], a.now, impl.ErrSyntax)
		}
		wantFresh(t, "again", fullTrust(), 79, impl.OK)
		wantFresh(t, "again", fullTrust(), 80, impl.ErrExpired)
	}
}

func TestTrustAskedForAtTheSameTime(t *testing.T) {
	const callers = 40
	shared := map[int64]attempt{}
	texts := map[int64]string{}
	for _, role := range updatingRoles() {
		shared[role] = attemptOf(role)
		texts[role] = shared[role].text()
	}
	var got [callers]impl.TrustOut
	var fresh [callers]int64
	var same [callers]bool
	var all sync.WaitGroup
	for i := range callers {
		all.Go(func() {
			role := updatingRoles()[i%4]
			got[i] = update(role, shared[role].trust, texts[role], int64(40+i))
			fresh[i] = impl.Fresh(shared[role].trust, int64(40+i))
			same[i] = impl.TrustSame(shared[role].trust, got[i].Trust)
		})
	}
	all.Wait()
	for i := range callers {
		role := updatingRoles()[i%4]
		trust := shared[role].trust
		want := plainUpdate(role, trust, texts[role], int64(40+i))
		if told(got[i]) != told(want) || fresh[i] != plainFresh(trust, int64(40+i)) || same[i] != plainSame(trust, want.Trust) {
			t.Errorf("caller %d: got Code %d, Fresh %d, same %t", i, got[i].Code, fresh[i], same[i])
		}
	}
}
