package tests

import (
	"fmt"
	"math"
	"slices"
	"strings"
	"sync"
	"testing"

	"loop.example/g00279/impl"
)

// heads, plainEntry, plainLogHead, plainConsistent, plainUpdateHead and plainLogged read chapter 10 once more.
func heads() meta[impl.Head] {
	return meta[impl.Head]{
		name:  "Head",
		bytes: impl.HeadBytes,
		read: func(text string) (impl.Head, int64) {
			out := impl.HeadRead(text)
			return out.Head, out.Code
		},
		right: plainHead,
		parts: func(h impl.Head) []part {
			return []part{raw("mark", "\x48"), num("Size", h.Size), raw("Root", h.Root), num("Time", h.Time)}
		},
		parse: func(p *plainReader) impl.Head {
			return impl.Head{Size: p.num(), Root: p.take(32), Time: p.num()}
		},
	}
}

func plainEntry(name string, version int64, image string) string {
	if !plainName(name) || !plainVersion(version) || len(image) != 32 {
		return ""
	}
	return "\x45" + plainPut(int64(len(name))) + name + plainPut(version) + image
}

func plainLogHead(leaves []string, time int64) impl.Head {
	tooLong := func(leaf string) bool { return len(leaf) > 19999 }
	if len(leaves) < 1 || len(leaves) > 64 || slices.ContainsFunc(leaves, tooLong) || !plainTime(time) {
		return impl.Head{}
	}
	return impl.Head{Size: int64(len(leaves)), Root: plainRoot(leaves), Time: time}
}

func noHash(hash string) bool {
	return len(hash) != 32
}

func plainConsistent(c consistency) bool {
	return !slices.ContainsFunc(append([]string{c.old, c.root}, c.proof...), noHash) && 0 < c.first && c.first <= c.size && plainBegins(c)
}

func between(trusted impl.Head, said impl.Head, proof []string) consistency {
	return consistency{first: trusted.Size, size: said.Size, proof: proof, old: trusted.Root, root: said.Root}
}

func plainUpdateHead(t impl.Trust, text string, proof []string, now int64) impl.TrustOut {
	var said impl.Head
	s, code := allSigned().plainRead(text)
	if code == impl.OK {
		said, code = heads().plainRead(s.Body)
	}
	switch {
	case len(text) > impl.MaxBytes || len(proof) > impl.MaxList:
		code = impl.ErrSize
	case !plainTrust(t) || !plainTime(now):
		code = impl.ErrForm
	case code != impl.OK:
		code = impl.ErrSyntax
	case int64(len(plainSigners(t.Root.Roles[4], s))) < t.Root.Roles[4].Need:
		code = impl.ErrSign
	case isNone(t.Head) && len(proof) > 0:
		code = impl.ErrProof
	case said.Size < t.Head.Size || said.Time < t.Head.Time:
		code = impl.ErrVersion
	case said.Size == t.Head.Size && said.Root != t.Head.Root:
		code = impl.ErrFork
	case !isNone(t.Head) && !plainConsistent(between(t.Head, said, proof)):
		code = impl.ErrProof
	case now-said.Time > 500:
		code = impl.ErrExpired
	}
	if code != impl.OK {
		return impl.TrustOut{Code: code}
	}
	t.Head = said
	return impl.TrustOut{Trust: t}
}

func plainLogged(t impl.Trust, leaf string, at int64, proof []string) bool {
	if !plainTrust(t) || isNone(t.Head) || at < 0 || at >= t.Head.Size || len(leaf) > 19999 || slices.ContainsFunc(proof, noHash) {
		return false
	}
	return plainIn(inclusion{leaf: plainLeaf(leaf), at: at, size: t.Head.Size, proof: proof, root: t.Head.Root})
}

// headAttempt is a call of UpdateHead that is taken, as long as nothing of it is made wrong.
type headAttempt struct {
	trust   impl.Trust
	said    impl.Head
	body    string // in the place of what is said, if there is one
	secrets []int64
	behind  string
	proof   []string
	now     int64
}

func trustOf(h impl.Head) impl.Trust {
	return trustWith(func(t *impl.Trust) { t.Head = h })
}

// grown goes from the first of a log's leaves on to all of them; from none, if first is 0.
func grown(leaves []string, first int) headAttempt {
	a := headAttempt{trust: trustOf(impl.Head{}), said: plainLogHead(leaves, 600), secrets: secretsFor(impl.RoleLog, 3)[:2], now: 1000}
	if first > 0 {
		a.trust.Head = plainLogHead(leaves[:first], 550)
		a.proof = plainBeginning(leaves, first)
	}
	return a
}

func grownWith(first int, change func(*headAttempt)) headAttempt {
	a := grown(someLeaves(13), first)
	change(&a)
	return a
}

func (a headAttempt) text() string {
	body := a.body
	if body == "" {
		body = heads().plainBytes(a.said)
	}
	return signedText(a.secrets, body) + a.behind
}

func (a headAttempt) update() impl.TrustOut {
	return impl.UpdateHead(a.trust, a.text(), a.proof, a.now)
}

func wantUpdateHead(t *testing.T, what string, trust impl.Trust, text string, proof []string, now int64, code int64) {
	t.Helper()
	got := impl.UpdateHead(trust, text, proof, now)
	if got.Code != code {
		t.Errorf("%s: UpdateHead at %d with %s tells Code %d, want %d", what, now, showProof(proof), got.Code, code)
	}
	if want := plainUpdateHead(trust, text, proof, now); told(got) != told(want) {
		t.Errorf("%s: UpdateHead at %d with %s: got %s, want %s", what, now, showProof(proof), show(told(got)), show(told(want)))
	}
	if got.Code != impl.OK {
		if !isNone(got.Trust) {
			t.Errorf("%s: UpdateHead refuses, and tells %s", what, show(told(got.Trust)))
		}
		return
	}
	wantStandsBehind(t, what, trust, got.Trust, proof)
}

// wantStandsBehind is promise 12, of a head that is taken.
func wantStandsBehind(t *testing.T, what string, ahead impl.Trust, behind impl.Trust, proof []string) {
	t.Helper()
	a, b := ahead.Head, behind.Head
	if b.Size < a.Size || b.Time < a.Time || b.Size == a.Size && b.Root != a.Root {
		t.Errorf("%s: from the Head %s to %s", what, told(a), told(b))
	}
	if !isNone(a) && !impl.ConsistencyCheck(a.Size, b.Size, proof, a.Root, b.Root) {
		t.Errorf("%s: taken, but not shown to stand behind %s", what, told(a))
	}
	if !impl.TrustRight(behind) || !impl.HeadRight(b) {
		t.Errorf("%s: what is taken leads to a Trust that is not right: %s", what, told(behind))
	}
	behind.Head = a
	if !impl.TrustSame(behind, ahead) || !plainSame(behind, ahead) {
		t.Errorf("%s: another part than the Head is changed: from %s to %s", what, told(ahead), told(behind))
	}
}

func wantGrown(t *testing.T, what string, a headAttempt, code int64) {
	t.Helper()
	wantUpdateHead(t, what, a.trust, a.text(), a.proof, a.now, code)
}

// wantHeadCode takes another text than the attempt's own.
func wantHeadCode(t *testing.T, what string, a headAttempt, text string, code int64) {
	t.Helper()
	wantUpdateHead(t, what, a.trust, text, a.proof, a.now, code)
}

type headFault struct {
	name string
	code int64
	make func(*headAttempt)
}

// headFaults are in the order in which the chapters name them.
func headFaults(trusted bool) []headFault {
	out := []headFault{
		{"a text that is too long", impl.ErrSize, func(a *headAttempt) { a.behind += strings.Repeat("\x00", impl.MaxBytes) }},
		{"a proof that is too long", impl.ErrSize, func(a *headAttempt) { a.proof = madeUp(impl.MaxList + 1) }},
		{"a Trust that is not right", impl.ErrForm, func(a *headAttempt) { a.trust.Timestamp = impl.Link{Next: 1} }},
		{"a now that is below 0", impl.ErrForm, func(a *headAttempt) { a.now = -1 }},
		{"a now that is too great", impl.ErrForm, func(a *headAttempt) { a.now = impl.MaxTime + 1 }},
		{"no right Signed", impl.ErrSyntax, func(a *headAttempt) { a.behind += "\x00" }},
		{"the bytes of something else", impl.ErrSyntax, func(a *headAttempt) {
			a.body = bodyOf(impl.RoleTimestamp, impl.Link{Version: 1, Expires: 1, Next: 1}, nil)
		}},
		{"a Head that is not right", impl.ErrSyntax, func(a *headAttempt) { a.said.Size = 1000001 }},
		{"one signature less", impl.ErrSign, func(a *headAttempt) { a.secrets = without(a.secrets, secretsFor(impl.RoleLog, 3)[1:]) }},
		{"signed by another role", impl.ErrSign, func(a *headAttempt) { a.secrets = secretsFor(impl.RoleTimestamp, 3) }},
	}
	if trusted {
		out = append(out,
			headFault{"a Size that falls", impl.ErrVersion, func(a *headAttempt) { a.trust.Head.Size = a.said.Size + 1 }},
			headFault{"a Time that falls", impl.ErrVersion, func(a *headAttempt) { a.trust.Head.Time = a.said.Time + 1 }},
			headFault{"another log of that Size", impl.ErrFork, func(a *headAttempt) {
				a.trust.Head.Size, a.trust.Head.Root, a.proof = a.said.Size, image(1), nil
			}},
			headFault{"no proof", impl.ErrProof, func(a *headAttempt) { a.proof = nil }},
			headFault{"a proof of something else", impl.ErrProof, func(a *headAttempt) { a.proof = madeUp(4) }})
	} else {
		out = append(out, headFault{"a proof of nothing", impl.ErrProof, func(a *headAttempt) { a.proof = madeUp(1) }})
	}
	return append(out, headFault{"it is too old", impl.ErrExpired, func(a *headAttempt) {
		a.trust.Head.Time = min(a.trust.Head.Time, 7)
		a.said.Time = a.now - 501
	}})
}

func firstOf(trusted bool) int {
	if trusted {
		return 6
	}
	return 0
}

func TestHeadsAreTaken(t *testing.T) {
	for first := range 14 {
		wantGrown(t, fmt.Sprint("behind the first ", first), grown(someLeaves(13), first), impl.OK)
	}
}

func TestEachFaultOfAHeadAlone(t *testing.T) {
	for _, trusted := range []bool{true, false} {
		for _, f := range headFaults(trusted) {
			wantGrown(t, f.name, grownWith(firstOf(trusted), f.make), f.code)
		}
	}
}

// Of two faults the one is told that is named first; the one that is named last is made first, so that both are there.
func TestEachTwoFaultsOfAHead(t *testing.T) {
	for _, trusted := range []bool{true, false} {
		faults := headFaults(trusted)
		for i, first := range faults {
			for _, second := range faults[i+1:] {
				a := grownWith(firstOf(trusted), second.make)
				first.make(&a)
				wantGrown(t, first.name+", and "+second.name, a, first.code)
			}
		}
	}
}

func TestAllFaultsOfAHeadFromOneOn(t *testing.T) {
	for _, trusted := range []bool{true, false} {
		faults := headFaults(trusted)
		a := grown(someLeaves(13), firstOf(trusted))
		for i := len(faults) - 1; i >= 0; i-- {
			faults[i].make(&a)
			wantGrown(t, faults[i].name+", and all behind it", a, faults[i].code)
		}
	}
}

// The log itself has two faults at once, of which the first is told, or the later one alone.
func TestFaultsOfTheLogItself(t *testing.T) {
	fork := plainLogHead(with(someLeaves(13), 2, "forked"), 550)
	for _, c := range []struct {
		what string
		make func(*headAttempt)
		code int64
	}{
		{"a fork that is too old", func(a *headAttempt) { a.trust.Head, a.proof, a.now = fork, nil, 1101 }, impl.ErrFork},
		{"a fork, with a proof", func(a *headAttempt) { a.trust.Head = fork }, impl.ErrFork},
		{"a fork of a later Time", func(a *headAttempt) { a.trust.Head, a.trust.Head.Time, a.proof = fork, 601, nil }, impl.ErrVersion},
		{"the same log, with a proof", func(a *headAttempt) { a.trust.Head = plainLogHead(someLeaves(13), 550) }, impl.ErrProof},
		{"the same log, with a proof, too old", func(a *headAttempt) { a.trust.Head, a.now = plainLogHead(someLeaves(13), 550), 1101 }, impl.ErrProof},
		{"the same log, too old", func(a *headAttempt) {
			a.trust.Head, a.proof, a.now = plainLogHead(someLeaves(13), 550), nil, 1101
		}, impl.ErrExpired},
		{"the same log", func(a *headAttempt) { a.trust.Head, a.proof = plainLogHead(someLeaves(13), 550), nil }, impl.OK},
		{"a shorter log, with its proof, too old", func(a *headAttempt) {
			a.trust.Head, a.said, a.now = a.said, a.trust.Head, 1101
		}, impl.ErrVersion},
		{"all in order, too old", func(a *headAttempt) { a.now = 1101 }, impl.ErrExpired},
	} {
		wantGrown(t, c.what, grownWith(6, c.make), c.code)
	}
}

func TestKnownHeads(t *testing.T) {
	zeros := strings.Repeat("\x00", 32)
	for _, c := range []struct {
		head impl.Head
		want string
	}{
		{impl.Head{Size: 2, Root: zeros, Time: 50}, "H\x04" + zeros + "d"},
		{impl.Head{Size: 64, Root: "0123456789abcdef0123456789abcdef", Time: 0}, "H\x80\x010123456789abcdef0123456789abcdef\x00"},
		{impl.Head{Size: 1000000, Root: zeros, Time: 1000000000}, "H\x80\x89\x7a" + zeros + "\x80\xa8\xd6\xb9\x07"},
		{impl.Head{}, ""},
		{impl.Head{Size: 0, Root: zeros, Time: 1}, ""},
	} {
		if got := impl.HeadBytes(c.head); got != c.want {
			t.Errorf("HeadBytes of %s: got %q, want %q", told(c.head), got, c.want)
		}
	}
	entry := "E\x06app\x04" + zeros
	if got := impl.EntryText("app", 2, zeros); got != entry {
		t.Errorf("EntryText: got %q, want %q", got, entry)
	}
	// The log of "a" and "b", its roots worked out by hand from the digests.
	a := sumOf("\x00a")
	both := sumOf("\x01" + a + sumOf("\x00b"))
	if got := impl.LogHead([]string{"a", "b"}, 7); got != (impl.Head{Size: 2, Root: both, Time: 7}) {
		t.Errorf("LogHead: got %s", told(got))
	}
	role := impl.RoleOf(1, []int64{1001})
	trust := impl.TrustNew(impl.Root{Version: 1, Expires: 0, Roles: slices.Repeat([]impl.Role{role}, 5)})
	one := impl.SignedBytes(impl.SignAll([]int64{1001}, "H\x02"+a+"\x0c"))
	two := impl.SignedBytes(impl.SignAll([]int64{1001}, "H\x04"+both+"\x0e"))
	taken := impl.UpdateHead(trust, one, nil, 506)
	if taken.Code != impl.OK || taken.Trust.Head != (impl.Head{Size: 1, Root: a, Time: 6}) {
		t.Fatalf("UpdateHead: got %s", told(taken))
	}
	wantUpdateHead(t, "the log of a, a moment later", trust, one, nil, 507, impl.ErrExpired)
	wantUpdateHead(t, "the log of a and b", taken.Trust, two, []string{sumOf("\x00b")}, 507, impl.OK)
	wantUpdateHead(t, "the log of a and b, by nothing", taken.Trust, two, nil, 507, impl.ErrProof)
	next := impl.UpdateHead(taken.Trust, two, []string{sumOf("\x00b")}, 507).Trust
	wantUpdateHead(t, "back to the log of a", next, one, nil, 506, impl.ErrVersion)
	if !impl.Logged(next, "b", 1, []string{a}) || impl.Logged(next, "b", 0, []string{a}) || impl.Logged(next, "a", 1, []string{a}) {
		t.Error("Logged does not tell b, and b alone, at 1")
	}
}

func rightHeads() []impl.Head {
	var out []impl.Head
	for _, size := range []int64{1, 2, 63, 64, 65, 8191, 8192, 999999, 1000000} {
		for _, time := range someTimes() {
			for _, root := range []string{image(1), mixed(32), strings.Repeat("\x00", 32), strings.Repeat("\xff", 32)} {
				out = append(out, impl.Head{Size: size, Root: root, Time: time})
			}
		}
	}
	return out
}

func TestRightHeadsComeBack(t *testing.T) {
	for i, h := range rightHeads() {
		wantBack(t, heads(), fmt.Sprint("Head ", i), h)
	}
	for count := 1; count <= impl.MaxLeaves; count++ {
		wantBack(t, heads(), "of a log", impl.LogHead(someLeaves(count), int64(count)))
	}
}

func TestWrongHeadsHaveNoBytesAndAreNotRead(t *testing.T) {
	for what, h := range wrongHeads() {
		wantWrong(t, heads(), what, h)
	}
	wantWrong(t, heads(), "the zero Head", impl.Head{})
	wantWrong(t, heads(), "a Root that is too long", impl.Head{Size: 1, Root: mixed(impl.MaxBytes + 1), Time: 1})
	for _, n := range []int64{0, 1000001} {
		wantNoRead(t, heads(), fmt.Sprint("Size ", n), "H"+plainPut(n)+image(1)+plainPut(5), impl.ErrSyntax)
	}
	for _, n := range noTimes() {
		wantNoRead(t, heads(), fmt.Sprint("Time ", n), "H"+plainPut(3)+image(1)+plainPut(n), impl.ErrSyntax)
	}
	for _, size := range []int{0, 1, 31, 33} {
		wantNoRead(t, heads(), fmt.Sprint("a Root of ", size), "H"+plainPut(3)+strings.Repeat("\x00", size)+plainPut(5), impl.ErrSyntax)
	}
	wantNoRead(t, heads(), "a Root with its length", "H"+plainPut(3)+impl.PutText(image(1))+plainPut(5), impl.ErrSyntax)
}

func TestHeadsAreJustTheseBytes(t *testing.T) {
	for _, h := range []impl.Head{{Size: 1, Root: image(2)}, {Size: 70, Root: mixed(32), Time: 8192}, {Size: 1000000, Root: strings.Repeat("\xff", 32), Time: impl.MaxTime}} {
		wantJustTheseBytes(t, heads(), h)
		wantOtherNumbers(t, heads(), h)
		wantNothingWithout(t, heads(), h)
		wantTooLong(t, heads(), h)
		text := impl.HeadBytes(h)
		for at := range len(text) {
			wantNoRead(t, heads(), fmt.Sprint("the first ", at, " bytes"), text[:at], impl.ErrSyntax)
		}
	}
	wantNoRead(t, heads(), "nothing", "", impl.ErrSyntax)
}

func TestHeadsAndMetaAreUnlike(t *testing.T) {
	link := impl.Link{Version: 2, Expires: 50, Next: 3}
	for what, text := range map[string]string{
		"Root": impl.RootBytes(someRoot()), "Targets": impl.TargetsBytes(someTargets()), "Signed": impl.SignedBytes(someSigned()),
		"Snapshot": impl.LinkBytes(impl.RoleSnapshot, link), "Timestamp": impl.LinkBytes(impl.RoleTimestamp, link), "entry": impl.EntryText("app", 2, image(1)),
	} {
		wantNoRead(t, heads(), what, text, impl.ErrSyntax)
	}
	head := impl.HeadBytes(fullTrust().Head)
	wantNoRead(t, roots(), "a Head", head, impl.ErrSyntax)
	wantNoRead(t, allTargets(), "a Head", head, impl.ErrSyntax)
	wantNoRead(t, allSigned(), "a Head", head, impl.ErrSyntax)
	for _, kind := range append(linkKinds(), noLinkKinds()...) {
		wantNoRead(t, linksOf(kind), "a Head", head, impl.ErrSyntax)
	}
}

func wantEntry(t *testing.T, name string, version int64, image string, right bool) {
	t.Helper()
	got, want := impl.EntryText(name, version, image), plainEntry(name, version, image)
	if got != want || (got != "") != right {
		t.Errorf("EntryText(%s, %d, an image of %d): got %s, want %s", show(name), version, len(image), show(got), show(want))
	}
}

func TestEntries(t *testing.T) {
	for _, name := range []string{"a", "app", "z-9", "not", strings.Repeat("q", 39), strings.Repeat("q", 40)} {
		for _, version := range someVersions() {
			wantEntry(t, name, version, image(1), true)
			for _, size := range []int{0, 1, 31, 33, 64, impl.MaxBytes, impl.MaxBytes + 1} {
				wantEntry(t, name, version, mixed(size), false)
			}
		}
		for _, version := range noVersions() {
			wantEntry(t, name, version, image(1), false)
		}
	}
	for _, name := range noNames() {
		wantEntry(t, name, 1, image(1), false)
		wantEntry(t, name, 0, mixed(31), false)
	}
	for _, bytes := range []string{strings.Repeat("\x00", 32), strings.Repeat("\xff", 32), mixed(32)} {
		wantEntry(t, "app", 1000000, bytes, true)
	}
}

// No two entries have one text: what stands in it is told by it.
func TestUnlikeEntriesHaveUnlikeTexts(t *testing.T) {
	seen := map[string]string{}
	for _, name := range []string{"a", "b", "aa", "a0", "a-", strings.Repeat("a", 40)} {
		for _, version := range someVersions() {
			for _, bytes := range []string{image(1), image(2), strings.Repeat("a", 32)} {
				what := fmt.Sprint(name, " ", version, " ", bytes)
				text := impl.EntryText(name, version, bytes)
				if seen[text] != "" {
					t.Errorf("%s and %s have one text", show(what), show(seen[text]))
				}
				seen[text] = what
			}
		}
	}
}

func wantLogHead(t *testing.T, what string, leaves []string, time int64, right bool) {
	t.Helper()
	got, want := impl.LogHead(leaves, time), plainLogHead(leaves, time)
	if got != want || impl.HeadRight(got) != right {
		t.Errorf("LogHead of %s at %d: got %s, want %s", what, time, told(got), told(want))
	}
}

func TestLogHeads(t *testing.T) {
	for count := 1; count <= impl.MaxLeaves; count++ {
		wantLogHead(t, fmt.Sprint(count, " leaves"), someLeaves(count), int64(count), true)
	}
	long := mixed(impl.MaxBytes)
	for _, c := range []struct {
		what   string
		leaves []string
		right  bool
	}{
		{"none", nil, false},
		{"an empty list", []string{}, false},
		{"one", []string{"a"}, true},
		{"one without a byte", []string{""}, true},
		{"two alike", []string{"a", "a"}, true},
		{"64", someLeaves(64), true},
		{"65", someLeaves(65), false},
		{"MaxList", slices.Repeat([]string{"a"}, impl.MaxList), false},
		{"one more than MaxList", slices.Repeat([]string{"a"}, impl.MaxList+1), false},
		{"one of MaxBytes less 1", []string{"a", long[1:]}, true},
		{"one of MaxBytes", []string{"a", long}, false},
		{"one of more than MaxBytes", []string{long + "a"}, false},
		{"the last of 64 of MaxBytes", with(someLeaves(64), 63, long), false},
	} {
		for _, time := range someTimes() {
			wantLogHead(t, c.what, c.leaves, time, c.right)
		}
		for _, time := range noTimes() {
			wantLogHead(t, c.what, c.leaves, time, false)
		}
	}
}

func TestHeadsOfATrustThatIsNotRight(t *testing.T) {
	a := grown(someLeaves(13), 6)
	text := a.text()
	for what, trust := range wrongTrusts() {
		b := a
		b.trust = trust
		wantHeadCode(t, what, b, text, impl.ErrForm)
		wantHeadCode(t, what, b, "", impl.ErrForm)
		wantHeadCode(t, what, b, mixed(impl.MaxBytes+1), impl.ErrSize)
		b.proof = madeUp(impl.MaxList + 1)
		wantHeadCode(t, what, b, text, impl.ErrSize)
	}
	// The parts beside it are the Trust's own affair, the Head behind them too.
	for bits := range 16 {
		b := a
		b.trust = partsLeftOut(a.trust, bits)
		if bits&8 == 0 {
			b.proof = nil
		}
		wantGrown(t, fmt.Sprint("with the parts ", bits), b, impl.OK)
	}
	for i, trust := range rightTrusts() {
		b := a
		b.trust = trust
		b.secrets = nil
		wantGrown(t, fmt.Sprint("right Trust ", i, ", signed by nobody"), b, impl.ErrSign)
	}
}

// The trusted root may have expired, and all else too: a head asks for its own Time.
func TestHeadsAskForNoExpires(t *testing.T) {
	for _, first := range []int{0, 6} {
		for _, expires := range []int64{0, 1, 999, 1000, 1001, impl.MaxTime} {
			a := grownWith(first, func(a *headAttempt) {
				a.trust.Root.Expires, a.trust.Timestamp.Expires, a.trust.Snapshot.Expires, a.trust.Targets.Expires = expires, expires, expires, expires
			})
			wantGrown(t, fmt.Sprint("all expire at ", expires), a, impl.OK)
		}
	}
}

func TestTimesOfHeads(t *testing.T) {
	times := []int64{0, 1, 499, 500, 501, 1000, impl.MaxTime - 501, impl.MaxTime - 500, impl.MaxTime - 499, impl.MaxTime - 1, impl.MaxTime}
	for _, first := range []int{0, 6, 13} {
		for _, time := range times {
			for _, now := range append(noTimes(), append(times, time+498, time+499, time+500, time+501, time+502, time-1, time+1)...) {
				a := grownWith(first, func(a *headAttempt) {
					a.said.Time, a.now = time, now
					a.trust.Head.Time = 0
				})
				want := int64(impl.OK)
				if now < 0 || now > impl.MaxTime {
					want = impl.ErrForm
				} else if time+impl.MaxAge < now {
					want = impl.ErrExpired
				}
				wantGrown(t, fmt.Sprint("of the Time ", time, " behind the first ", first), a, want)
			}
		}
	}
}

func TestTimesOfHeadsDoNotFall(t *testing.T) {
	for _, first := range []int{6, 13} {
		for _, trusted := range []int64{0, 1, 599, 600, 601, 1000, impl.MaxTime} {
			for _, time := range []int64{trusted - 1, trusted, trusted + 1} {
				if time < 0 || time > impl.MaxTime {
					continue
				}
				a := grownWith(first, func(a *headAttempt) { a.trust.Head.Time, a.said.Time, a.now = trusted, time, time })
				want := int64(impl.OK)
				if time < trusted {
					want = impl.ErrVersion
				}
				wantGrown(t, fmt.Sprint("the Time ", time, " behind ", trusted), a, want)
			}
		}
	}
}

// Promise 12: behind any first leaves stands just what has these first, and no less of it.
func TestHeadsStandBehindTheTrustedOne(t *testing.T) {
	leaves := someLeaves(17)
	for first := 1; first <= 17; first++ {
		for size := 1; size <= 17; size++ {
			a := grown(leaves[:size], 0)
			a.trust.Head = plainLogHead(leaves[:first], 600)
			want := int64(impl.ErrVersion)
			if first <= size {
				want, a.proof = impl.OK, impl.ConsistencyProof(leaves[:size], int64(first)).Proof
			}
			wantGrown(t, fmt.Sprint(size, " leaves behind ", first), a, want)
			for _, at := range []int{0, first / 2, first - 1} {
				forked := a
				forked.trust.Head = plainLogHead(with(leaves[:first], at, "forked"), 600)
				switch {
				case first == size:
					want = impl.ErrFork
				case first < size:
					want = impl.ErrProof
				}
				wantGrown(t, fmt.Sprint(size, " leaves behind ", first, ", another one at ", at), forked, want)
			}
			if first < size {
				// The leaves ahead changed under the trusted ones, with the proof of their own beginning.
				other := grown(with(leaves[:size], first-1, "forked"), first)
				other.trust.Head = plainLogHead(leaves[:first], 600)
				wantGrown(t, fmt.Sprint(size, " other leaves behind ", first), other, impl.ErrProof)
			}
		}
	}
}

func TestSizesOfHeads(t *testing.T) {
	for first := 1; first <= 13; first++ {
		for _, size := range []int{first - 1, first, first + 1} {
			for _, same := range []bool{true, false} {
				leaves := someLeaves(14)
				a := grownWith(0, func(a *headAttempt) {
					a.trust.Head = plainLogHead(leaves[:first], 600)
					a.said = impl.Head{Size: int64(size), Root: image(1), Time: 600}
					if same && size > 0 {
						a.said.Root, a.proof = plainRoot(leaves[:size]), plainBeginning(leaves[:max(size, first)], first)
					}
				})
				want := int64(impl.OK)
				switch {
				case size == 0:
					want = impl.ErrSyntax
				case size < first:
					want = impl.ErrVersion
				case same:
				case size == first:
					want = impl.ErrFork
				default:
					want = impl.ErrProof
				}
				wantGrown(t, fmt.Sprint("the Size ", size, " behind ", first, ", the same: ", same), a, want)
			}
		}
	}
}

func TestTheSameHeadComesAgain(t *testing.T) {
	for first := 1; first <= 13; first++ {
		leaves := someLeaves(first)
		for _, later := range []int64{0, 1, 300} {
			for _, proof := range [][]string{nil, {}} {
				a := grownWith(0, func(a *headAttempt) {
					a.trust.Head, a.said, a.proof = plainLogHead(leaves, 600), plainLogHead(leaves, 600+later), proof
				})
				wantGrown(t, fmt.Sprint("the same ", first, ", later by ", later), a, impl.OK)
				for _, proof := range [][]string{madeUp(1), {a.said.Root}, {""}, {a.said.Root, a.said.Root}} {
					b := a
					b.proof = proof
					wantGrown(t, fmt.Sprint("the same ", first, ", with a proof"), b, impl.ErrProof)
				}
				b := a
				b.said.Root = turned(b.said.Root, first)
				wantGrown(t, "one bit of the Root is turned", b, impl.ErrFork)
			}
		}
	}
}

func TestProofsOfHeads(t *testing.T) {
	leaves := someLeaves(13)
	for first := 1; first <= 13; first++ {
		a := grown(leaves, first)
		wantGrown(t, "its own", a, impl.OK)
		others := otherProofs(a.proof)
		if first < 13 {
			others = append(others, nil, []string{})
		}
		for other := 1; other <= 13; other++ {
			if proof := plainBeginning(leaves, other); !slices.Equal(proof, a.proof) {
				others = append(others, proof)
			}
		}
		another := plainBeginning(with(leaves, 12, "another log"), first)
		if !slices.Equal(another, a.proof) {
			others = append(others, another)
		}
		for _, count := range []int{41, 64, impl.MaxList - 1, impl.MaxList} {
			others = append(others, madeUp(count), slices.Repeat([]string{a.said.Root}, count))
		}
		for i, hash := range a.proof {
			for _, wrong := range wrongHashesOf(hash) {
				others = append(others, with(a.proof, i, wrong))
			}
		}
		for _, proof := range others {
			b := a
			b.proof = proof
			wantGrown(t, fmt.Sprint("another proof of ", first), b, impl.ErrProof)
		}
		for _, count := range []int{impl.MaxList + 1, impl.MaxList + 2, 2000} {
			b := a
			b.proof = slices.Repeat(madeUp(1), count)
			wantGrown(t, "too long a proof", b, impl.ErrSize)
		}
	}
}

// Behind no Head any comes, by no proof at all.
func TestTheFirstHead(t *testing.T) {
	for count := 1; count <= 20; count++ {
		a := grown(someLeaves(count), 0)
		for _, proof := range [][]string{nil, {}} {
			a.proof = proof
			wantGrown(t, fmt.Sprint(count, " leaves"), a, impl.OK)
		}
		for _, proof := range [][]string{{""}, {a.said.Root}, madeUp(1), {mixed(31)}, {mixed(33)}, {mixed(impl.MaxBytes + 1)}, plainBeginning(someLeaves(13), 6), madeUp(impl.MaxList)} {
			a.proof = proof
			wantGrown(t, fmt.Sprint(count, " leaves, with a proof"), a, impl.ErrProof)
		}
		a.proof = madeUp(impl.MaxList + 1)
		wantGrown(t, "too long a proof", a, impl.ErrSize)
	}
}

func TestWhoSignsHeads(t *testing.T) {
	for _, first := range []int{0, 6} {
		for role := range int64(5) {
			a := grownWith(first, func(a *headAttempt) { a.secrets = secretsFor(role, 3) })
			want := int64(impl.ErrSign)
			if role == impl.RoleLog {
				want = impl.OK
			}
			wantGrown(t, fmt.Sprint("signed by role ", role), a, want)
		}
		three := secretsFor(impl.RoleLog, 3)
		for what, secrets := range map[string][]int64{"nobody": nil, "one": three[2:], "one 16 times": slices.Repeat(three[:1], 16), "one and others": {three[0], 7, 8, 9}} {
			wantGrown(t, "signed by "+what, grownWith(first, func(a *headAttempt) { a.secrets = secrets }), impl.ErrSign)
		}
		for what, secrets := range map[string][]int64{"two": three[1:], "two, the other way round": reversed(three[:2]), "all three": three, "two, behind others": {7, 8, three[0], three[2]}, "16": append(append([]int64{}, three...), someSecrets()[:13]...)} {
			wantGrown(t, "signed by "+what, grownWith(first, func(a *headAttempt) { a.secrets = secrets }), impl.OK)
		}
		for count := 1; count <= 8; count++ {
			for need := 1; need <= count; need++ {
				for signed := range count + 1 {
					a := grownWith(first, func(a *headAttempt) {
						a.trust.Root.Roles[impl.RoleLog] = plainRoleOf(int64(need), eightSecrets()[:count])
						a.secrets = eightSecrets()[count-signed : count]
					})
					want := int64(impl.OK)
					if signed < need {
						want = impl.ErrSign
					}
					wantGrown(t, fmt.Sprint(signed, " of ", count, ", Need ", need), a, want)
				}
			}
		}
	}
}

// A signature of one Head says nothing of another one.
func TestSignaturesOfAnotherHead(t *testing.T) {
	a := grown(someLeaves(13), 6)
	other := a
	other.said.Time++
	s := plainSignAll(other.secrets, heads().plainBytes(other.said))
	s.Body = heads().plainBytes(a.said)
	wantHeadCode(t, "signed for another Time", a, allSigned().plainBytes(s), impl.ErrSign)
}

func TestTextsThatAreNoSignedHead(t *testing.T) {
	for _, first := range []int{0, 6} {
		a := grown(someLeaves(13), first)
		said := heads().plainBytes(a.said)
		for what, body := range map[string]string{
			"no bytes of a Head": "H", "its own twice": said + said, "its own and a byte": said + "\x00", "a byte less": said[:len(said)-1], "without its mark": said[1:],
			"a Signed": a.text(), "an entry": impl.EntryText("app", 1, image(1)), "a leaf": "leaf",
			"Targets": bodyOf(impl.RoleTargets, impl.Link{Version: 1}, nil), "a root": bodyOf(impl.RoleRoot, impl.Link{Version: 4, Expires: 9}, nil),
			"a Timestamp": bodyOf(impl.RoleTimestamp, impl.Link{Version: 1, Expires: 9, Next: 1}, nil), "a Snapshot": bodyOf(impl.RoleSnapshot, impl.Link{Version: 1, Expires: 9, Next: 1}, nil),
			"a Body of 8000": mixed(8000),
		} {
			wantGrown(t, what, grownWith(first, func(a *headAttempt) { a.body = body }), impl.ErrSyntax)
		}
		wantHeadCode(t, "an empty Body", a, signedText(a.secrets, ""), impl.ErrSyntax)
		wantHeadCode(t, "the bytes as they are", a, said, impl.ErrSyntax)
		wantHeadCode(t, "no text", a, "", impl.ErrSyntax)
		wantHeadCode(t, "a Body of 8001", a, allSigned().plainBytes(impl.Signed{Body: mixed(8001)}), impl.ErrSyntax)
		seventeen := impl.Signed{Body: said, Sigs: append(plainSignAll(a.secrets, said).Sigs, manySigs(15)...)}
		wantHeadCode(t, "17 Sigs", a, allSigned().plainBytes(seventeen), impl.ErrSyntax)
		for what, h := range wrongHeads() {
			if body := heads().plainBytes(h); len(body) < 100 && len(h.Root) == 32 {
				wantGrown(t, what, grownWith(first, func(a *headAttempt) { a.body = body }), impl.ErrSyntax)
			}
		}
		long := a.text() + strings.Repeat("\x00", impl.MaxBytes)
		wantHeadCode(t, "as long as may be", a, long[:impl.MaxBytes], impl.ErrSyntax)
		wantHeadCode(t, "one byte too long", a, long[:impl.MaxBytes+1], impl.ErrSize)
		wantHeadCode(t, "too long", a, long, impl.ErrSize)
	}
}

// Whatever bit is turned or byte left out: nothing of it is taken.
func TestSignedHeadsThatAreTurned(t *testing.T) {
	for _, first := range []int{0, 6, 13} {
		a := grown(someLeaves(13), first)
		text := a.text()
		for at := range len(text) {
			others := []string{text[:at], text[:at] + text[at+1:], text[:at+1] + text[at:]}
			for bit := range 8 {
				others = append(others, turned(text, 8*at+bit))
			}
			for _, other := range others {
				code := plainUpdateHead(a.trust, other, a.proof, a.now).Code
				if code == impl.OK && other != text {
					t.Errorf("byte %d is changed, and it is to be taken", at)
				}
				wantHeadCode(t, fmt.Sprint("byte ", at), a, other, code)
			}
		}
	}
}

// Logs far longer than those that LogHead takes, up to the greatest.
func TestGreatLogs(t *testing.T) {
	for _, size := range []int64{1, 2, 3, 64, 65, 1000, 65536, 65537, 999999, 1000000} {
		for _, at := range placesIn(size) {
			c := madeUpBeginning(at+1, size)
			a := grownWith(0, func(a *headAttempt) {
				a.trust.Head = impl.Head{Size: c.first, Root: c.old, Time: 600}
				a.said, a.proof = impl.Head{Size: c.size, Root: c.root, Time: 600}, c.proof
			})
			wantGrown(t, fmt.Sprint(c.size, " behind ", c.first), a, impl.OK)
			more := a
			more.proof = append(slices.Clone(c.proof), image(1))
			wantGrown(t, "one hash too many", more, impl.ErrProof)
			fork := a
			fork.trust.Head.Root = turned(c.old, 9)
			want := int64(impl.ErrProof)
			if c.first == c.size {
				want = impl.ErrFork
			}
			wantGrown(t, "another log", fork, want)
			path := madeUp(lengthOfPath(at, size))
			root, _ := ledTo(plainLeaf("leaf"), at, size, path)
			trust := trustOf(impl.Head{Size: size, Root: root, Time: 1})
			wantLogged(t, "a great log", trust, "leaf", at, path, true)
			wantLogged(t, "another leaf", trust, "leap", at, path, false)
		}
	}
	// One leaf more than may be is no Head's Size, trusted or not.
	c := madeUpBeginning(1000000, 1000001)
	over := grownWith(0, func(a *headAttempt) {
		a.trust.Head = impl.Head{Size: c.first, Root: c.old, Time: 600}
		a.said, a.proof = impl.Head{Size: c.size, Root: c.root, Time: 600}, c.proof
	})
	wantGrown(t, "a log that is too long", over, impl.ErrSyntax)
	over.trust.Head = over.said
	wantGrown(t, "a trusted log that is too long", over, impl.ErrForm)
}

func wantLogged(t *testing.T, what string, trust impl.Trust, leaf string, at int64, proof []string, want bool) {
	t.Helper()
	if got := impl.Logged(trust, leaf, at, proof); got != want {
		t.Errorf("%s: Logged of %s at %d in %d by %s: got %t", what, show(leaf), at, trust.Head.Size, showProof(proof), got)
	}
	if told := plainLogged(trust, leaf, at, proof); told != want {
		t.Errorf("%s: Logged of %s at %d: the document asks for %t, the test for %t", what, show(leaf), at, told, want)
	}
}

func someEntries(count int) []string {
	var out []string
	for i := range count {
		out = append(out, plainEntry("app-"+string(rune('a'+i%5)), int64(1+i/5), image(i)))
	}
	return out
}

// Promise 13: each entry is shown to be logged at its place, and no other one, and nowhere else.
func TestEachEntryIsShownToBeLogged(t *testing.T) {
	for size := 1; size <= impl.MaxLeaves; size++ {
		entries := someEntries(size)
		trust := trustOf(impl.LogHead(entries, 5))
		for at := range entries {
			proof := impl.InclusionProof(entries, int64(at)).Proof
			for place, entry := range entries {
				if size > 20 && place != at && (place+at)%9 != 0 {
					continue
				}
				wantLogged(t, "an entry", trust, entry, int64(at), proof, place == at)
				wantLogged(t, "a place", trust, entries[at], int64(place), proof, place == at)
			}
			wantLogged(t, "an entry that is not there", trust, plainEntry("app-a", 1, image(size)), int64(at), proof, false)
			wantLogged(t, "a later version", trust, plainEntry("app-a", 100, image(0)), int64(at), proof, false)
			wantLogged(t, "a place ahead", trust, entries[at], -1, proof, false)
			wantLogged(t, "a place behind", trust, entries[at], int64(size), proof, false)
		}
	}
}

// Behind an update the entries of old are still logged, by proofs in the new log, and the new ones are.
func TestWhatIsLoggedStaysLogged(t *testing.T) {
	entries := someEntries(40)
	trust := trustOf(impl.Head{})
	for size := 1; size <= 40; size += 3 {
		a := grown(entries[:size], 0)
		a.trust = trust
		if trust.Head.Size > 0 {
			a.proof = impl.ConsistencyProof(entries[:size], trust.Head.Size).Proof
		}
		wantGrown(t, fmt.Sprint(size, " entries"), a, impl.OK)
		trust = a.update().Trust
		for at := range entries[:size] {
			wantLogged(t, "an entry", trust, entries[at], int64(at), impl.InclusionProof(entries[:size], int64(at)).Proof, true)
		}
		if size < 40 {
			wantLogged(t, "an entry to come", trust, entries[size], int64(size), impl.InclusionProof(entries[:size+1], int64(size)).Proof, false)
		}
	}
}

func TestLoggedAtTheEdges(t *testing.T) {
	entries := someEntries(13)
	for _, at := range []int{0, 6, 12} {
		proof := impl.InclusionProof(entries, int64(at)).Proof
		trust := trustOf(impl.LogHead(entries, 5))
		for what, wrong := range wrongTrusts() {
			if isNone(wrong.Head) || plainHead(wrong.Head) {
				wrong.Head = trust.Head
			}
			wantLogged(t, what, wrong, entries[at], int64(at), proof, false)
		}
		for bits := range 16 {
			wantLogged(t, fmt.Sprint("with the parts ", bits), partsLeftOut(trust, bits), entries[at], int64(at), proof, bits&8 != 0)
		}
		wantLogged(t, "the zero Trust", impl.Trust{}, entries[at], int64(at), proof, false)
		for _, place := range []int64{math.MinInt64, -13, -1, 13, 14, 1 << 32, int64(at) + 1<<32, math.MaxInt64} {
			wantLogged(t, "no place", trust, entries[at], place, proof, false)
		}
		for _, other := range otherProofs(proof) {
			wantLogged(t, "another proof", trust, entries[at], int64(at), other, false)
		}
		for i, hash := range proof {
			for _, wrong := range wrongHashesOf(hash) {
				wantLogged(t, "no hash", trust, entries[at], int64(at), with(proof, i, wrong), false)
			}
		}
		for _, count := range []int{41, impl.MaxList, impl.MaxList + 1, 2000} {
			wantLogged(t, "too long a proof", trust, entries[at], int64(at), slices.Repeat([]string{trust.Head.Root}, count), false)
		}
		wantLogged(t, "its hash", trust, plainLeaf(entries[at]), int64(at), proof, false)
		wantLogged(t, "nothing", trust, "", int64(at), proof, false)
		wantLogged(t, "no proof", trust, entries[at], int64(at), nil, false)
	}
}

func TestLongLeavesAreLogged(t *testing.T) {
	long := mixed(impl.MaxBytes + 1)
	leaves := []string{"a", long[:impl.MaxBytes-1], ""}
	trust := trustOf(impl.LogHead(leaves, 5))
	for at, leaf := range leaves {
		wantLogged(t, "a leaf", trust, leaf, int64(at), plainPath(leaves, at), true)
	}
	// A leaf that is too long has no hash; these are the only hashes that it might be taken for.
	for _, leaf := range []string{long[:impl.MaxBytes], long} {
		for _, root := range []string{plainLeaf(leaf), sumOf(""), plainLeaf("")} {
			wantLogged(t, "too long a leaf", trustOf(impl.Head{Size: 1, Root: root, Time: 5}), leaf, 0, nil, false)
		}
	}
	wantLogged(t, "the only leaf", trustOf(impl.LogHead([]string{"x"}, 5)), "x", 0, nil, true)
	wantLogged(t, "the only leaf, an empty proof", trustOf(impl.LogHead([]string{"x"}, 5)), "x", 0, []string{}, true)
	wantLogged(t, "none of an empty log", trustOf(impl.Head{}), "", 0, nil, false)
	wantLogged(t, "the root of a log as its leaf", trustOf(impl.LogHead([]string{"a", "b"}, 5)), plainRoot([]string{"a", "b"}), 0, nil, false)
}

// Promise 12 along a way of many heads, some of them lies.
func TestNoHeadFallsAlongTheWay(t *testing.T) {
	x := int64(27183)
	next := func(most int64) int64 {
		x = (x*48271 + 7) % 2147483647
		return x % most
	}
	codes := map[int64]int{}
	for range 25 {
		trust, log := impl.TrustNew(trustedRoot(3, 100)), someEntries(60)
		for step := range int64(60) {
			now := 20 * step
			leaves := log[:1+min(next(4)+step/2, 59)]
			if next(5) == 0 {
				leaves = with(leaves, int(next(int64(len(leaves)))), "lie")
			}
			a := headAttempt{trust: trust, said: impl.LogHead(leaves, max(0, now-next(40)*next(40))), now: now, secrets: secretsFor(impl.RoleLog, 3)[next(8)/7:]}
			if next(10) == 0 {
				a.secrets = a.secrets[:1]
			}
			if next(7) == 0 {
				a.now += 510
			}
			if trust.Head.Size > 0 {
				a.proof = impl.ConsistencyProof(leaves, min(int64(len(leaves)), trust.Head.Size+next(9)/8)).Proof
			}
			code := plainUpdateHead(trust, a.text(), a.proof, a.now).Code
			wantGrown(t, fmt.Sprint("step ", step), a, code)
			codes[code]++
			if code == impl.OK {
				trust = a.update().Trust
			}
		}
	}
	for _, code := range []int64{impl.OK, impl.ErrSign, impl.ErrVersion, impl.ErrFork, impl.ErrProof, impl.ErrExpired} {
		if codes[code] < 10 {
			t.Errorf("Code %d is told %d times", code, codes[code])
		}
	}
}

// An update of another role leaves the Head as it is, and a head what these have said.
func TestHeadsAndUpdatesGoTogether(t *testing.T) {
	for _, role := range updatingRoles() {
		a := attemptOf(role)
		h := grown(someLeaves(13), 6)
		a.trust.Head = h.trust.Head
		one := update(role, a.trust, a.text(), a.now).Trust
		if role == impl.RoleRoot {
			h.secrets = secretsFor(impl.RoleLog, 4)
		}
		wantUpdateHead(t, fmt.Sprint("behind role ", role), one, h.text(), h.proof, h.now, impl.OK)
		ahead := grown(someLeaves(13), 6)
		ahead.trust = a.trust
		other := update(role, ahead.update().Trust, a.text(), a.now)
		if want := impl.UpdateHead(one, h.text(), h.proof, h.now).Trust; other.Code != impl.OK || !impl.TrustSame(other.Trust, want) {
			t.Errorf("role %d: ahead of a head %s, behind it %s", role, show(told(want)), show(told(other)))
		}
	}
}

func TestLogsAreNotChanged(t *testing.T) {
	leaves := roomy(someLeaves(13))
	impl.LogHead(leaves, 5)
	wantUnchanged(t, "LogHead", leaves, someLeaves(13))
	for first := 1; first <= 13; first++ {
		a := grown(someLeaves(13), first)
		proof, trust, text := roomy(a.proof), roomyTrust(grown(someLeaves(13), first).trust), a.text()
		for _, now := range []int64{a.now, 5000, -1} {
			impl.UpdateHead(trust, text, proof, now)
			impl.UpdateHead(trust, text[1:], proof, now)
		}
		wantUnchanged(t, "UpdateHead", proof, a.proof)
		path := plainPath(someLeaves(13), first-1)
		proof = roomy(path)
		trust.Head = a.said
		impl.Logged(trust, someLeaves(13)[first-1], int64(first-1), proof)
		wantUnchanged(t, "Logged", proof, path)
		trust.Head = a.trust.Head
		wantRoomyUnchanged(t, "UpdateHead", trust, a.trust)
		if text != a.text() {
			t.Error("the text is changed")
		}
	}
}

func TestLogsAreNewMemory(t *testing.T) {
	for _, first := range []int{0, 6, 13} {
		a := grown(someLeaves(13), first)
		text := a.text()
		call := func() impl.Trust { return impl.UpdateHead(a.trust, text, a.proof, a.now).Trust }
		for _, part := range textsOf(call()) {
			if len(part) < 2 || share(part, text) || slices.ContainsFunc(a.proof, func(hash string) bool { return share(part, hash) }) {
				t.Error("a text of UpdateHead's answer lies in one that was handed in")
			}
		}
		wantApart(t, "the answer and the Trust", call(), a.trust)
		wantApart(t, "two answers", call(), call())
	}
	h := impl.Head{Size: 5, Root: image(1), Time: 6}
	text := impl.HeadBytes(h)
	if share(text, h.Root) || len(text) < 34 {
		t.Error("a Head's bytes lie in its Root")
	}
	if read := impl.HeadRead(text).Head; share(read.Root, text) || read.Root != h.Root {
		t.Error("a Root lies in the text that it was read of")
	}
	name, bytes := mixedName(20), image(2)
	if entry := impl.EntryText(name, 3, bytes); share(entry, name) || share(entry, bytes) || len(entry) < 53 {
		t.Error("an entry lies in what it was made of")
	}
	leaf := mixed(32)
	if got := impl.LogHead([]string{leaf}, 5); share(got.Root, leaf) || got.Size != 1 {
		t.Error("a Root lies in the leaf that it was made of")
	}
	// One key list that stands in all roles of the Trust stands in none twice in the answer.
	keys := keysTold([]int64{1001})
	one := impl.Trust{Root: impl.Root{Version: 1, Expires: 9, Roles: slices.Repeat([]impl.Role{{Need: 1, Keys: keys}}, 5)}}
	wantApart(t, "one list five times", impl.UpdateHead(one, signedText([]int64{1001}, heads().plainBytes(h)), nil, 6).Trust, one)
}

func TestLogsAreTheSameEachTime(t *testing.T) {
	entries := someEntries(13)
	for range 20 {
		wantGrown(t, "again", grown(someLeaves(13), 6), impl.OK)
		wantGrown(t, "a fork between", grownWith(13, func(a *headAttempt) { a.said.Root = image(1) }), impl.ErrFork)
		wantGrown(t, "another one between", grownWith(6, func(a *headAttempt) { a.proof = nil }), impl.ErrProof)
		wantGrown(t, "a first one between", grown(someLeaves(5), 0), impl.OK)
		wantBack(t, heads(), "again", fullTrust().Head)
		wantNoRead(t, heads(), "a wrong one between", "H\x02", impl.ErrSyntax)
		wantLogHead(t, "13 entries", entries, 7, true)
		wantEntry(t, "app", 7, image(7), true)
		wantLogged(t, "again", trustOf(impl.LogHead(entries, 7)), entries[3], 3, plainPath(entries, 3), true)
	}
}

func TestLogsAskedForAtTheSameTime(t *testing.T) {
	const callers = 40
	entries := someEntries(13)
	shared := [4]headAttempt{grown(entries, 6), grown(entries, 0), grown(entries, 13), grownWith(6, func(a *headAttempt) { a.proof = nil })}
	var texts [4]string
	for i, a := range shared {
		texts[i] = a.text()
	}
	trust := trustOf(impl.LogHead(entries, 5))
	path := impl.InclusionProof(entries, 6).Proof
	var got [callers]impl.TrustOut
	var logged [callers]bool
	var made [callers]impl.Head
	var read [callers]impl.HeadOut
	var all sync.WaitGroup
	for i := range callers {
		all.Go(func() {
			a := shared[i%4]
			got[i] = impl.UpdateHead(a.trust, texts[i%4], a.proof, a.now+int64(i)*5)
			logged[i] = impl.Logged(trust, entries[6], int64(i%13), path)
			made[i] = impl.LogHead(entries[:1+i%13], int64(i))
			read[i] = impl.HeadRead(impl.HeadBytes(made[i]))
		})
	}
	all.Wait()
	for i := range callers {
		a := shared[i%4]
		if want := plainUpdateHead(a.trust, texts[i%4], a.proof, a.now+int64(i)*5); told(got[i]) != told(want) {
			t.Errorf("caller %d: UpdateHead: got Code %d, want %d", i, got[i].Code, want.Code)
		}
		head := plainLogHead(entries[:1+i%13], int64(i))
		if logged[i] != (i%13 == 6) || made[i] != head || read[i] != (impl.HeadOut{Head: head}) {
			t.Errorf("caller %d: Logged %t, LogHead %s, read %s", i, logged[i], told(made[i]), told(read[i]))
		}
	}
}
