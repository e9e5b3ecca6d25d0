package tests

import (
	"fmt"
	"math"
	"slices"
	"strings"
	"sync"
	"testing"

	"loop.example/g00279/impl"
)

// plainTargetOf, plainAdmit and plainAdmitAll read chapter 13 once more, by the plain calls of the chapters ahead.
func plainTargetOf(t impl.Trust, name string) impl.Target {
	i := slices.IndexFunc(t.Targets.List, func(x impl.Target) bool { return x.Name == name })
	if !plainTrust(t) || i < 0 {
		return impl.Target{}
	}
	return t.Targets.List[i]
}

func plainWeight(m impl.Manifest) int64 {
	var size int64
	for _, l := range m.Layers {
		size += l.Size
	}
	return size
}

func plainAdmit(c call) impl.AdmitOut {
	target := plainTargetOf(c.trust, c.ask.Name)
	code := plainFresh(c.trust, c.now)
	image := impl.ImageOut{Code: impl.ErrNone}
	if target.Name != "" {
		image = plainMaterialize(c.store, target.Image)
	}
	switch {
	case len(c.policy) > 400:
		code = impl.ErrSize
	case !plainStore(c.store) || !plainPolicyRight(c.policy) || len(c.ask.Proof) > 64:
		code = impl.ErrForm
	case code != impl.OK:
	case target.Name == "":
		code = impl.ErrNone
	case !plainLogged(c.trust, plainEntry(c.ask.Name, c.trust.Targets.Version, target.Image), c.ask.At, c.ask.Proof):
		code = impl.ErrProof
	case image.Code != impl.OK:
		code = image.Code
	case plainWeight(image.Manifest) != target.Size:
		code = impl.ErrSum
	case image.Manifest.Name != c.ask.Name:
		code = impl.ErrForm
	case !plainPolicyEval(c.policy, image.Manifest.Labels):
		code = impl.ErrPolicy
	}
	if code != impl.OK {
		return impl.AdmitOut{Code: code}
	}
	return impl.AdmitOut{Image: image}
}

func plainAdmitAll(c call, asks []impl.Ask) []string {
	var out []string
	for i := 0; i < len(asks) && len(asks) <= 400; i++ {
		c.ask = asks[i]
		if plainAdmit(c).Code == impl.OK {
			out = append(out, asks[i].Name)
		}
	}
	return out
}

// call is one of Admit.
type call struct {
	trust  impl.Trust
	store  impl.Store
	policy []impl.Ins
	ask    impl.Ask
	now    int64
}

func (c call) admit() impl.AdmitOut {
	return impl.Admit(c.trust, c.store, c.policy, c.ask, c.now)
}

// visit is what a call is put together of, one that lets in, as long as nothing of it is made wrong.
type visit struct {
	manifest impl.Manifest
	blobs    []string // what the Store has, beside the image
	image    string   // what stands in the place of the Manifest's bytes, if something does
	away     bool     // whether the Store lacks the image
	heavier  int64    // by how much the Target's Size is not that of all Layers
	entry    func(name string, version int64, image string) string
	policy   []impl.Ins
	late     []func(*call) // what is made of the call itself
}

func visitOf() visit {
	return visit{
		manifest: impl.Manifest{Name: "app", Layers: layersOf("data", "more data", "data"), Labels: []impl.Label{{Key: "by", Value: "us"}, {Key: "on", Value: "x86"}}},
		blobs:    []string{"data", "more data", "what else is there", imageOf("other", "data")},
		entry:    plainEntry,
		policy:   []impl.Ins{is("by", "us"), has("bad"), op(impl.OpNot), op(impl.OpAnd)},
	}
}

func (v visit) text() string {
	if v.image != "" {
		return v.image
	}
	return manifests().plainBytes(v.manifest)
}

func (v visit) call() call {
	image := sumOf(v.text())
	c := call{trust: fullTrust(), policy: v.policy, now: 60}
	target := impl.Target{Name: "app", Image: image, Size: plainWeight(v.manifest) + v.heavier}
	c.trust.Targets.List = append([]impl.Target{target}, manyTargets(3)...)
	entries := append(someEntries(7), v.entry("app", c.trust.Targets.Version, image))
	entries = append(entries, someEntries(9)[7:]...)
	c.trust.Head = plainLogHead(entries, 7)
	c.ask = impl.Ask{Name: "app", At: 7, Proof: plainPath(entries, 7)}
	c.store = storeOf(v.blobs...)
	if !v.away {
		c.store = storeOf(append(slices.Clone(v.blobs), v.text())...)
	}
	for _, change := range v.late {
		change(&c)
	}
	return c
}

func visitWith(change func(*visit)) visit {
	v := visitOf()
	change(&v)
	return v
}

func callWith(change func(*call)) call {
	c := visitOf().call()
	change(&c)
	return c
}

// wantAdmit holds a call against the chapter, read once more, and what is let in against promise 18.
func wantAdmit(t *testing.T, what string, c call, code int64) {
	t.Helper()
	got := c.admit()
	if got.Code != code {
		t.Errorf("%s: Admit of %s at %d tells Code %d, want %d", what, show(c.ask.Name), c.now, got.Code, code)
	}
	if want := plainAdmit(c); told(got) != told(want) {
		t.Errorf("%s: Admit of %s at %d: got %s, want %s", what, show(c.ask.Name), c.now, show(told(got)), show(told(want)))
	}
	if got.Code != impl.OK {
		if !isNone(got.Image) {
			t.Errorf("%s: Admit refuses, and tells %s", what, show(told(got.Image)))
		}
		return
	}
	wantLetIn(t, what, c, got.Image)
}

// wantLetIn is promise 18, by the program's own calls.
func wantLetIn(t *testing.T, what string, c call, image impl.ImageOut) {
	t.Helper()
	if impl.Fresh(c.trust, c.now) != impl.OK || !impl.StoreRight(c.store) || !impl.PolicyRight(c.policy) {
		t.Errorf("%s: let in at %d by what is not fresh, or not right", what, c.now)
	}
	target := impl.TargetOf(c.trust, c.ask.Name)
	entry := impl.EntryText(target.Name, c.trust.Targets.Version, target.Image)
	if target.Name != c.ask.Name || !impl.Logged(c.trust, entry, c.ask.At, c.ask.Proof) {
		t.Errorf("%s: let in, but no target, or not logged: %s", what, told(target))
	}
	wantNamed(t, what, image, target.Image)
	if image.Code != impl.OK || image.Manifest.Name != target.Name || int64(len(strings.Join(image.Layers, ""))) != target.Size {
		t.Errorf("%s: let in is %s, named was %s", what, show(told(image)), told(target))
	}
	if !impl.PolicyEval(c.policy, image.Manifest.Labels) {
		t.Errorf("%s: let in, but not taken by the policy: %s", what, told(image.Manifest))
	}
	wantShutFrom(t, what, c, c.trust.Timestamp.Expires)
}

func wantShutFrom(t *testing.T, what string, c call, expires int64) {
	t.Helper()
	for _, now := range []int64{expires, expires + 1, 2*expires + 1, impl.MaxTime - 1, impl.MaxTime, impl.MaxTime + 1} {
		if got := impl.Admit(c.trust, c.store, c.policy, c.ask, now); now >= expires && (got.Code == impl.OK || !isNone(got.Image)) {
			t.Errorf("%s: let in at %d, the Timestamp's Expires being %d", what, now, expires)
		}
	}
}

// wantAdmitAll is promise 19: told are the Names of those that are let in alone.
func wantAdmitAll(t *testing.T, what string, c call, asks []impl.Ask, want ...string) {
	t.Helper()
	got := impl.AdmitAll(c.trust, c.store, c.policy, asks, c.now)
	if !slices.Equal(got, want) {
		t.Errorf("%s: AdmitAll tells %d names, want %d: %s, want %s", what, len(got), len(want), show(fmt.Sprint(got)), show(fmt.Sprint(want)))
	}
	if plain := plainAdmitAll(c, asks); !slices.Equal(plain, want) {
		t.Errorf("%s: AdmitAll: the document asks for %s, the test for %s", what, show(fmt.Sprint(plain)), show(fmt.Sprint(want)))
	}
	var alone []string
	for _, ask := range asks {
		if impl.Admit(c.trust, c.store, c.policy, ask, c.now).Code == impl.OK {
			alone = append(alone, ask.Name)
		}
	}
	if len(asks) <= impl.MaxList && !slices.Equal(got, alone) {
		t.Errorf("%s: AdmitAll tells %s, let in alone are %s", what, show(fmt.Sprint(got)), show(fmt.Sprint(alone)))
	}
}

func TestKnownAdmissions(t *testing.T) {
	data := sumOf("data")
	text := "I\x06app\x02" + data + "\x08\x02\x04by\x04us"
	entry := "E\x06app\x04" + sumOf(text)
	old := sumOf("\x00old")
	root := impl.OriginRoot(1, 90)
	trust := impl.Trust{
		Root:      root,
		Timestamp: impl.Link{Version: 9, Expires: 70, Next: 5},
		Snapshot:  impl.Link{Version: 5, Expires: 80, Next: 2},
		Targets:   impl.Targets{Version: 2, Expires: 90, List: []impl.Target{{Name: "app", Image: sumOf(text), Size: 4}}},
		Head:      impl.Head{Size: 2, Root: sumOf("\x01" + old + sumOf("\x00"+entry)), Time: 3},
	}
	c := call{trust: trust, store: storeOf(text, "data"), policy: []impl.Ins{has("by")}, ask: impl.Ask{Name: "app", At: 1, Proof: []string{old}}, now: 69}
	layer, label := impl.Layer{Blob: data, Size: 4}, impl.Label{Key: "by", Value: "us"}
	want := impl.ImageOut{Manifest: impl.Manifest{Name: "app", Layers: []impl.Layer{layer}, Labels: []impl.Label{label}}, Layers: []string{"data"}}
	if got := c.admit(); told(got) != told(impl.AdmitOut{Image: want}) {
		t.Errorf("Admit: got %s, want %s", told(got), told(want))
	}
	wantAdmit(t, "known", c, impl.OK)
	if got := impl.TargetOf(trust, "app"); got != (impl.Target{Name: "app", Image: sumOf(text), Size: 4}) {
		t.Errorf("TargetOf: got %s", told(got))
	}
	wantAdmitAll(t, "known", c, []impl.Ask{c.ask, {Name: "app"}, c.ask}, "app", "app")
	for what, b := range map[string]struct {
		change func(*call)
		code   int64
	}{
		"the Timestamp has expired":    {func(c *call) { c.now = 70 }, impl.ErrExpired},
		"another policy":               {func(c *call) { c.policy = []impl.Ins{has("by"), op(impl.OpNot)} }, impl.ErrPolicy},
		"the old leaf's place":         {func(c *call) { c.ask.At = 0 }, impl.ErrProof},
		"another name":                 {func(c *call) { c.ask.Name = "ape" }, impl.ErrNone},
		"the layer is lost":            {func(c *call) { c.store = storeOf(text) }, impl.ErrNone},
		"the image is lost":            {func(c *call) { c.store = storeOf("data") }, impl.ErrNone},
		"another Size of the Target":   {func(c *call) { c.trust.Targets.List = []impl.Target{{Name: "app", Image: sumOf(text), Size: 5}} }, impl.ErrSum},
		"a later Version of Targets":   {func(c *call) { c.trust.Targets.Version, c.trust.Snapshot.Next = 3, 3 }, impl.ErrProof},
		"another name of the Target":   {func(c *call) { c.trust.Targets.List = []impl.Target{{Name: "apq", Image: sumOf(text), Size: 4}} }, impl.ErrNone},
		"no policy":                    {func(c *call) { c.policy = nil }, impl.ErrForm},
		"the Store in another order":   {func(c *call) { c.store.Blobs = reversedTexts(c.store.Blobs) }, impl.ErrForm},
		"no Head":                      {func(c *call) { c.trust.Head = impl.Head{} }, impl.ErrProof},
		"nothing but the trusted root": {func(c *call) { c.trust = impl.TrustNew(root) }, impl.ErrNone},
	} {
		mine := c
		b.change(&mine)
		wantAdmit(t, what, mine, b.code)
	}
}

func wantTargetOf(t *testing.T, what string, trust impl.Trust, name string, want impl.Target) {
	t.Helper()
	if got := impl.TargetOf(trust, name); got != want {
		t.Errorf("%s: TargetOf of %s: got %s, want %s", what, show(name), told(got), told(want))
	}
	if plain := plainTargetOf(trust, name); plain != want {
		t.Errorf("%s: TargetOf of %s: the document asks for %s, the test for %s", what, show(name), told(plain), told(want))
	}
}

func otherNames(name string) []string {
	return []string{"", name[1:], name[:len(name)-1], name + "-", name + "a", "a" + name, strings.ToUpper(name), name + "\x00", " " + name, name + " "}
}

func TestTargetOf(t *testing.T) {
	for count := range 21 {
		list := manyTargets(count)
		trust := trustWith(func(t *impl.Trust) { t.Targets.List = list })
		for at, target := range list {
			wantTargetOf(t, fmt.Sprint(at, " of ", count), trust, target.Name, target)
			for _, other := range otherNames(target.Name) {
				wantTargetOf(t, "another name", trust, other, impl.Target{})
			}
		}
		for _, name := range append(noNames(), "a", "image-", "image-z", "z", mixed(impl.MaxBytes), mixed(impl.MaxBytes+1), strings.Repeat("a", impl.MaxBytes+1)) {
			wantTargetOf(t, fmt.Sprint(count, " Targets"), trust, name, impl.Target{})
		}
	}
	wantTargetOf(t, "no Targets", trustWith(func(t *impl.Trust) { t.Targets = impl.Targets{} }), "image-a", impl.Target{})
	wantTargetOf(t, "no Targets", trustWith(func(t *impl.Trust) { t.Targets = impl.Targets{} }), "", impl.Target{})
}

func TestTargetsOfEachTrust(t *testing.T) {
	for i, trust := range rightTrusts() {
		for _, target := range trust.Targets.List {
			wantTargetOf(t, fmt.Sprint("right Trust ", i), trust, target.Name, target)
		}
		wantTargetOf(t, fmt.Sprint("right Trust ", i), trust, "none", impl.Target{})
	}
	for what, trust := range wrongTrusts() {
		for _, target := range trust.Targets.List {
			wantTargetOf(t, what, trust, target.Name, impl.Target{})
		}
		wantTargetOf(t, what, trust, "image-a", impl.Target{})
		wantTargetOf(t, what, trust, "", impl.Target{})
	}
}

type visitFault struct {
	name string
	code int64
	make func(*visit)
}

// of is a fault that is made of the call itself.
func of(name string, code int64, change func(*call)) visitFault {
	return visitFault{name, code, func(v *visit) { v.late = append(v.late, change) }}
}

// faultsAtTheGate are those that are looked for ahead of the Target.
func faultsAtTheGate() []visitFault {
	return []visitFault{
		of("a policy that is too long", impl.ErrSize, func(c *call) { c.policy = turnedOften(impl.MaxList + 1) }),
		of("a Store that falls", impl.ErrForm, func(c *call) { c.store.Blobs = reversedTexts(c.store.Blobs) }),
		of("a Store with a blob that is too long", impl.ErrForm, func(c *call) {
			c.store = storeOf(append(slices.Clone(c.store.Blobs), mixed(3001))...)
		}),
		of("no policy", impl.ErrForm, func(c *call) { c.policy = nil }),
		of("a policy of two truths", impl.ErrForm, func(c *call) { c.policy = []impl.Ins{has("by"), has("on")} }),
		of("a Proof of 65 texts", impl.ErrForm, func(c *call) { c.ask.Proof = madeUp(65) }),
		of("a Trust that is not right", impl.ErrForm, func(c *call) { c.trust.Head.Time = -1 }),
		of("a now that is below 0", impl.ErrForm, func(c *call) { c.now = -1 }),
		of("a now that is too great", impl.ErrForm, func(c *call) { c.now = impl.MaxTime + 1 }),
		of("no Timestamp", impl.ErrNone, func(c *call) { c.trust.Timestamp = impl.Link{} }),
		of("no Snapshot", impl.ErrNone, func(c *call) { c.trust.Snapshot = impl.Link{} }),
		of("no Targets", impl.ErrNone, func(c *call) { c.trust.Targets = impl.Targets{} }),
		of("another Snapshot", impl.ErrVersion, func(c *call) { c.trust.Timestamp.Next++ }),
		of("other Targets", impl.ErrVersion, func(c *call) { c.trust.Snapshot.Next++ }),
		of("a root that has expired", impl.ErrExpired, func(c *call) { c.trust.Root.Expires = 60 }),
		of("a Timestamp that has expired", impl.ErrExpired, func(c *call) { c.trust.Timestamp.Expires = 60 }),
		of("a Snapshot that has expired", impl.ErrExpired, func(c *call) { c.trust.Snapshot.Expires = 59 }),
		of("Targets that have expired", impl.ErrExpired, func(c *call) { c.trust.Targets.Expires = 0 }),
	}
}

// faultsBehindIt are those of the target, of its entry, and of its image.
func faultsBehindIt() []visitFault {
	return []visitFault{
		of("a name that no Target has", impl.ErrNone, func(c *call) { c.ask.Name = "apt" }),
		of("no log", impl.ErrProof, func(c *call) { c.trust.Head = impl.Head{} }),
		of("another log", impl.ErrProof, func(c *call) { c.trust.Head.Root = image(5) }),
		of("a place below 0", impl.ErrProof, func(c *call) { c.ask.At = -1 }),
		of("a place past the log", impl.ErrProof, func(c *call) { c.ask.At = 9 }),
		of("another entry's place", impl.ErrProof, func(c *call) { c.ask.At = 6 }),
		of("another entry's Proof", impl.ErrProof, func(c *call) { c.ask.Proof = plainPath(someEntries(9), 3) }),
		of("a Proof that is too short", impl.ErrProof, func(c *call) { c.ask.Proof = c.ask.Proof[1:] }),
		of("a Proof that is too long", impl.ErrProof, func(c *call) { c.ask.Proof = append(slices.Clone(c.ask.Proof), image(1)) }),
		of("a Proof of other lengths", impl.ErrProof, func(c *call) { c.ask.Proof = with(append(c.ask.Proof, image(1)), 0, "short") }),
		{"an entry of another Version", impl.ErrProof, func(v *visit) {
			v.entry = func(name string, version int64, image string) string { return plainEntry(name, version-1, image) }
		}},
		{"an entry of another Image", impl.ErrProof, func(v *visit) {
			v.entry = func(name string, version int64, _ string) string { return plainEntry(name, version, image(1)) }
		}},
		{"an image that the Store lacks", impl.ErrNone, func(v *visit) { v.away = true }},
		{"an image that is no Manifest", impl.ErrSyntax, func(v *visit) { v.image = v.text() + "\x00" }},
		{"a Layer that the Store lacks", impl.ErrNone, func(v *visit) { v.manifest.Layers = with0(v.manifest.Layers, impl.Layer{Blob: image(2), Size: 4}) }},
		{"a Layer of another Size", impl.ErrSum, func(v *visit) {
			v.manifest.Layers = append(slices.Clone(v.manifest.Layers), impl.Layer{Blob: sumOf("data"), Size: 3})
		}},
		{"Layers that are together less", impl.ErrSum, func(v *visit) { v.heavier = 1 }},
		{"Layers that are together more", impl.ErrSum, func(v *visit) { v.heavier = -1 }},
		{"a Manifest of another Name", impl.ErrForm, func(v *visit) { v.manifest.Name = "apq" }},
		{"a policy that does not take the Labels", impl.ErrPolicy, func(v *visit) { v.policy = []impl.Ins{has("bad")} }},
	}
}

// with0 has another Layer at first.
func with0(layers []impl.Layer, first impl.Layer) []impl.Layer {
	return append([]impl.Layer{first}, layers[1:]...)
}

// visitFaults are in the order in which the chapters name them.
func visitFaults() []visitFault {
	return append(faultsAtTheGate(), faultsBehindIt()...)
}

func TestEachFaultOfAnAskAlone(t *testing.T) {
	wantAdmit(t, "no fault", visitOf().call(), impl.OK)
	for _, f := range visitFaults() {
		wantAdmit(t, f.name, visitWith(f.make).call(), f.code)
	}
}

// Of two faults the one is told that is named first; the one that is named last is made first, so that both are there.
func TestEachTwoFaultsOfAnAsk(t *testing.T) {
	faults := visitFaults()
	for i, first := range faults {
		for _, second := range faults[i+1:] {
			v := visitWith(second.make)
			first.make(&v)
			wantAdmit(t, first.name+", and "+second.name, v.call(), first.code)
		}
	}
}

func TestAllFaultsOfAnAskFromOneOn(t *testing.T) {
	faults := visitFaults()
	v := visitOf()
	for i := len(faults) - 1; i >= 0; i-- {
		faults[i].make(&v)
		wantAdmit(t, faults[i].name+", and all behind it", v.call(), faults[i].code)
	}
}

// An ask that has a fault of its own takes nothing from those beside it.
func TestFaultsOfAnAskAmongOthers(t *testing.T) {
	for _, f := range visitFaults() {
		c := visitWith(f.make).call()
		wantAdmitAll(t, f.name, c, []impl.Ask{c.ask})
		right := visitOf().call().ask
		var want []string
		if c.ask.Name = right.Name; plainAdmitAll(c, []impl.Ask{right}) != nil {
			want = []string{"app", "app"}
		}
		wantAdmitAll(t, f.name+", among others", c, []impl.Ask{right, {Name: "none"}, right}, want...)
	}
}

func TestAsksOfTrustsThatAreNotRight(t *testing.T) {
	right := visitOf().call()
	for what, wrong := range wrongTrusts() {
		c := right
		if c.trust = wrong; allTargets().right(wrong.Targets) {
			c.trust.Targets = right.trust.Targets
		}
		if plainHead(wrong.Head) {
			c.trust.Head = right.trust.Head
		}
		if plainTrust(c.trust) {
			t.Fatalf("%s: the Trust is right", what)
		}
		if got := c.admit(); told(got) != told(impl.AdmitOut{Code: impl.ErrForm}) {
			t.Errorf("%s: Admit tells %s", what, told(got))
		}
		if got := impl.AdmitAll(c.trust, c.store, c.policy, []impl.Ask{c.ask, {}}, c.now); len(got) > 0 {
			t.Errorf("%s: AdmitAll tells %v", what, got)
		}
	}
	wantAdmit(t, "the zero Trust", callWith(func(c *call) { c.trust = impl.Trust{} }), impl.ErrForm)
	wantAdmit(t, "nothing at all", call{}, impl.ErrForm)
}

func TestAsksOfEachRightTrust(t *testing.T) {
	codes := map[int64]int{}
	for i, trust := range rightTrusts() {
		c := callWith(func(c *call) { c.trust, c.now = trust, 0 })
		names := []string{"app", ""}
		for _, target := range trust.Targets.List {
			names = append(names, target.Name)
		}
		for _, name := range names {
			c.ask.Name = name
			code := plainAdmit(c).Code
			wantAdmit(t, fmt.Sprint("right Trust ", i), c, code)
			codes[code]++
		}
	}
	for _, code := range []int64{impl.ErrNone, impl.ErrVersion, impl.ErrProof} {
		if codes[code] < 10 {
			t.Errorf("Admit tells Code %d only %d times", code, codes[code])
		}
	}
}

func TestAsksWithoutPartsOfTheTrust(t *testing.T) {
	for bits := range 16 {
		c := callWith(func(c *call) { c.trust = partsLeftOut(c.trust, bits) })
		want := int64(impl.ErrNone)
		if bits&7 == 7 {
			want = impl.ErrProof
		}
		if bits == 15 {
			want = impl.OK
		}
		wantAdmit(t, fmt.Sprint("with the parts ", bits), c, want)
	}
}

// Promise 18: whichever of the four expires first, from then on nothing is let in; and from the Timestamp's Expires on.
func TestNothingIsLetInWhenItHasExpired(t *testing.T) {
	times := []int64{0, 1, 40, impl.MaxTime - 1, impl.MaxTime}
	for i := range 625 {
		c := callWith(func(c *call) {
			c.trust.Root.Expires, c.trust.Timestamp.Expires = times[i%5], times[i/5%5]
			c.trust.Snapshot.Expires, c.trust.Targets.Expires = times[i/25%5], times[i/125]
		})
		least := leastExpires(c.trust)
		for _, c.now = range []int64{0, least - 1, least, least + 1, c.trust.Timestamp.Expires, impl.MaxTime} {
			want := int64(impl.OK)
			switch {
			case c.now < 0 || c.now > impl.MaxTime:
				want = impl.ErrForm
			case c.now >= least:
				want = impl.ErrExpired
			}
			layers, names := 0, 0
			if want == impl.OK {
				layers, names = 3, 2
			}
			if got := c.admit(); got.Code != want || len(got.Image.Layers) != layers || isNone(got.Image) != (want != impl.OK) {
				t.Errorf("Admit at %d, the least Expires being %d: got %s", c.now, least, show(told(got)))
			}
			if got := impl.AdmitAll(c.trust, c.store, c.policy, []impl.Ask{c.ask, c.ask}, c.now); len(got) != names {
				t.Errorf("AdmitAll at %d, the least Expires being %d: got %v", c.now, least, got)
			}
		}
	}
}

func TestTimesOfAdmit(t *testing.T) {
	for now := int64(0); now < 110; now++ {
		want := int64(impl.OK)
		if now >= 80 {
			want = impl.ErrExpired
		}
		c := callWith(func(c *call) { c.now = now })
		wantAdmit(t, "in turn", c, want)
		names := []string{"app"}
		if now >= 80 {
			names = nil
		}
		wantAdmitAll(t, "in turn", c, []impl.Ask{c.ask}, names...)
	}
	for _, now := range noTimes() {
		c := callWith(func(c *call) { c.now = now })
		wantAdmit(t, "no time", c, impl.ErrForm)
		wantAdmitAll(t, "no time", c, []impl.Ask{c.ask})
	}
}

// A Proof of 64 texts is looked at, and leads nowhere; one of 65 is not.
func TestLengthsOfProofs(t *testing.T) {
	for count := range 70 {
		c := callWith(func(c *call) { c.ask.Proof = madeUp(count) })
		want := int64(impl.ErrProof)
		if count > 64 {
			want = impl.ErrForm
		}
		wantAdmit(t, fmt.Sprint(count, " hashes"), c, want)
		c.ask.Proof = make([]string, count)
		wantAdmit(t, fmt.Sprint(count, " empty texts"), c, want)
		c.trust.Targets.List = nil
		if count <= 64 {
			want = impl.ErrNone
		}
		wantAdmit(t, fmt.Sprint(count, " texts, no Target"), c, want)
		c.now = 500
		if count <= 64 {
			want = impl.ErrExpired
		}
		wantAdmit(t, fmt.Sprint(count, " texts, too late"), c, want)
	}
	// The Proof is no list that is handed in as such: one of more than MaxList has the same Code.
	for _, count := range []int{impl.MaxList, impl.MaxList + 1, 2000} {
		wantAdmit(t, fmt.Sprint(count, " hashes"), callWith(func(c *call) { c.ask.Proof = slices.Repeat([]string{image(1)}, count) }), impl.ErrForm)
	}
	wantAdmit(t, "great texts", callWith(func(c *call) { c.ask.Proof[0] = mixed(impl.MaxBytes + 1) }), impl.ErrProof)
}

// loggedIn is the call with another log, in which the entry stands at that place.
func loggedIn(c call, entries []string, at int) call {
	target := plainTargetOf(c.trust, c.ask.Name)
	entries = with(entries, at, plainEntry(target.Name, c.trust.Targets.Version, target.Image))
	c.trust.Head = plainLogHead(entries, 7)
	c.ask.At, c.ask.Proof = int64(at), plainPath(entries, at)
	return c
}

func TestAsksAtEachPlaceOfEachLog(t *testing.T) {
	for size := 1; size <= impl.MaxLeaves; size++ {
		for at := 0; at < size; at += 1 + size/9 {
			c := loggedIn(visitOf().call(), someEntries(size), at)
			wantAdmit(t, fmt.Sprint(at, " of ", size), c, impl.OK)
			for _, other := range []int64{c.ask.At - 1, c.ask.At + 1, int64(size), c.ask.At + 1<<32, math.MinInt64, math.MaxInt64} {
				wrong := c
				wrong.ask.At = other
				wantAdmit(t, fmt.Sprint(other, ", not ", at, ", of ", size), wrong, impl.ErrProof)
			}
		}
	}
}

func TestAsksByOtherProofs(t *testing.T) {
	for _, at := range []int{0, 6, 12} {
		c := loggedIn(visitOf().call(), someEntries(13), at)
		right := c.ask.Proof
		for _, c.ask.Proof = range otherProofs(right) {
			wantAdmit(t, "another proof", c, impl.ErrProof)
		}
		for i, hash := range right {
			for _, wrong := range wrongHashesOf(hash) {
				c.ask.Proof = with(right, i, wrong)
				wantAdmit(t, "no hash", c, impl.ErrProof)
			}
		}
	}
	alone := loggedIn(visitOf().call(), someEntries(1), 0)
	wantAdmit(t, "the only entry", alone, impl.OK)
	alone.ask.Proof = []string{}
	wantAdmit(t, "the only entry, an empty proof", alone, impl.OK)
	alone.ask.Proof = []string{alone.trust.Head.Root}
	wantAdmit(t, "the only entry, its root as the proof", alone, impl.ErrProof)
}

func TestAsksOfGreatLogs(t *testing.T) {
	for _, size := range []int64{65, 1000, 65537, 999999, 1000000} {
		for _, at := range placesIn(size) {
			c := visitOf().call()
			target := c.trust.Targets.List[0]
			path := madeUp(lengthOfPath(at, size))
			root, _ := ledTo(plainLeaf(plainEntry("app", c.trust.Targets.Version, target.Image)), at, size, path)
			c.trust.Head = impl.Head{Size: size, Root: root, Time: 1}
			c.ask.At, c.ask.Proof = at, path
			wantAdmit(t, "a great log", c, impl.OK)
			c.trust.Targets.Version, c.trust.Snapshot.Next = 7, 7
			wantAdmit(t, "a great log, later Targets", c, impl.ErrProof)
		}
	}
}

// The same entry may stand in the log twice: each place has its proof.
func TestAnEntryThatIsLoggedTwice(t *testing.T) {
	c := visitOf().call()
	entry := plainEntry("app", c.trust.Targets.Version, c.trust.Targets.List[0].Image)
	entries := with(with(someEntries(9), 2, entry), 8, entry)
	c.trust.Head = plainLogHead(entries, 7)
	for at := range entries {
		want := int64(impl.ErrProof)
		if at == 2 || at == 8 {
			want = impl.OK
		}
		c.ask.At, c.ask.Proof = int64(at), plainPath(entries, at)
		wantAdmit(t, fmt.Sprint("the place ", at), c, want)
	}
}

// What is logged must have just the Name, the Version and the Image.
func TestEntriesOfSomethingElse(t *testing.T) {
	for what, entry := range map[string]func(name string, version int64, image string) string{
		"a later Version": func(name string, version int64, image string) string { return plainEntry(name, version+1, image) },
		"the Timestamp's": func(name string, _ int64, image string) string { return plainEntry(name, 5, image) },
		"the root's":      func(name string, _ int64, image string) string { return plainEntry(name, 3, image) },
		"another Name":    func(_ string, version int64, image string) string { return plainEntry("apq", version, image) },
		"a longer Name":   func(name string, version int64, image string) string { return plainEntry(name+"a", version, image) },
		"an Image turned": func(name string, version int64, image string) string {
			return plainEntry(name, version, turned(image, 255))
		},
		"the entry's hash": func(name string, version int64, image string) string {
			return plainLeaf(plainEntry(name, version, image))
		},
		"no entry": func(string, int64, string) string { return "" },
		"a byte behind": func(name string, version int64, image string) string {
			return plainEntry(name, version, image) + "\x00"
		},
		"the image's own text": func(string, int64, string) string { return visitOf().text() },
	} {
		wantAdmit(t, what, visitWith(func(v *visit) { v.entry = entry }).call(), impl.ErrProof)
	}
}

func TestAsksForOtherNames(t *testing.T) {
	c := visitOf().call()
	for _, name := range append(append(noNames(), otherNames("app")...), mixed(impl.MaxBytes+1), strings.Repeat("a", 41), "b", "image") {
		c.ask.Name = name
		wantAdmit(t, "no Target", c, impl.ErrNone)
	}
	for _, target := range manyTargets(3) {
		c.ask.Name = target.Name
		wantAdmit(t, "another Target, by this one's proof", c, impl.ErrProof)
		wantAdmit(t, "another Target, logged, but not in the Store", loggedIn(c, someEntries(9), 4), impl.ErrNone)
	}
	for _, name := range []string{"a", "z", "a-", "b0", strings.Repeat("q", 39), strings.Repeat("z", 40), "not", "has"} {
		v := visitWith(func(v *visit) { v.manifest.Name = name })
		c := v.call()
		c.trust.Targets.List = []impl.Target{{Name: name, Image: sumOf(v.text()), Size: plainWeight(v.manifest)}}
		c.ask.Name = name
		wantAdmit(t, "that name", loggedIn(c, someEntries(9), 4), impl.OK)
		wantAdmitAll(t, "that name", loggedIn(c, someEntries(9), 4), []impl.Ask{loggedIn(c, someEntries(9), 4).ask}, name)
	}
}

// The Manifest's Name must be the Target's, not only near to it.
func TestManifestsOfOtherNames(t *testing.T) {
	for _, name := range []string{"a", "ap", "apq", "app-", "appa", "bpp", "image-a", "other", strings.Repeat("z", 40)} {
		wantAdmit(t, "named "+name, visitWith(func(v *visit) { v.manifest.Name = name }).call(), impl.ErrForm)
	}
}

func TestSizesOfTargets(t *testing.T) {
	for _, blobs := range [][]string{nil, {""}, {"", ""}, {"a"}, {"data"}, {"data", "data"}, someBlobs(10), {mixed(3000)}, slices.Repeat([]string{mixed(3000)}, 10)} {
		for _, heavier := range []int64{0, 1, -1, 2, 64, -4, 30000, -30000, 1 << 32} {
			v := visitWith(func(v *visit) {
				v.manifest.Layers, v.heavier = layersOf(blobs...), heavier
				v.blobs = append(slices.Clone(blobs), "other")
				slices.Sort(v.blobs)
				v.blobs = slices.Compact(v.blobs)
			})
			size := plainWeight(v.manifest) + heavier
			want := int64(impl.ErrSum)
			if heavier == 0 {
				want = impl.OK
			}
			if size < 0 || size > 1000000 {
				want = impl.ErrForm
			}
			wantAdmit(t, fmt.Sprint(len(blobs), " Layers, the Size ", size), v.call(), want)
		}
	}
}

// A Layer counts as often as it comes, and by its own Size alone.
func TestSizesOfEachLayer(t *testing.T) {
	for count := 1; count <= 10; count++ {
		for at := range count {
			v := visitWith(func(v *visit) {
				v.manifest.Layers = layersOf(slices.Repeat([]string{"data"}, count)...)
				v.manifest.Layers[at].Size++
			})
			wantAdmit(t, fmt.Sprint("the Layer ", at, " of ", count), v.call(), impl.ErrSum)
			v.manifest.Layers[at].Size--
			wantAdmit(t, fmt.Sprint(count, " Layers"), v.call(), impl.OK)
			v.heavier = -4
			wantAdmit(t, fmt.Sprint("one of ", count, " Layers less"), v.call(), impl.ErrSum)
		}
	}
}

func TestAdmitOfImagesThatAreNoManifest(t *testing.T) {
	for _, text := range []string{"I", "data", "I\x06app\x00", visitOf().text()[1:], visitOf().text() + "\x00", "i" + visitOf().text()[1:], mixed(3000)} {
		wantAdmit(t, show(text), visitWith(func(v *visit) {
			v.image = text
			v.blobs = leftOut(v.blobs, text)
		}).call(), impl.ErrSyntax)
	}
	for what, m := range wrongManifests() {
		if text := manifests().plainBytes(m); len(text) <= 3000 {
			if _, code := manifests().plainRead(text); code != impl.OK {
				wantAdmit(t, what, visitWith(func(v *visit) { v.image = text }).call(), impl.ErrSyntax)
			}
		}
	}
}

func TestAdmitOfEachStore(t *testing.T) {
	c := visitOf().call()
	for what, s := range wrongStores() {
		c.store = s
		wantAdmit(t, what, c, impl.ErrForm)
		wantAdmitAll(t, what, c, []impl.Ask{c.ask})
	}
	for what, s := range rightStores() {
		c.store = s
		wantAdmit(t, what, c, impl.ErrNone)
		all := append(slices.Clone(s.Blobs), visitOf().text(), "data", "more data")
		slices.Sort(all)
		if all = slices.Compact(all); len(all) <= 60 {
			c.store = storeOf(all...)
			wantAdmit(t, what+", and the image", c, impl.OK)
		}
	}
	v := visitWith(func(v *visit) { v.blobs = append(someBlobs(57), "data", "more data") })
	wantAdmit(t, "a full Store", v.call(), impl.OK)
	v.blobs = append(someBlobs(58), "data", "more data")
	wantAdmit(t, "a Store of one more", v.call(), impl.ErrForm)
}

// Each choice of which Layers are there, and as named.
func TestAdmitOfEachThreeLayers(t *testing.T) {
	eachShortText("012", 3, func(kinds string) {
		want := int64(impl.OK)
		v := visitOf()
		v.manifest.Layers = nil
		for i, kind := range kinds {
			blob := fmt.Sprint("blob ", i)
			v.blobs = append(v.blobs, blob)
			l := layersOf(blob)[0]
			switch kind {
			case '1':
				l.Blob = image(i)
			case '2':
				l.Size--
			}
			if codes := []int64{impl.OK, impl.ErrNone, impl.ErrSum}; want == impl.OK {
				want = codes[kind-'0']
			}
			v.manifest.Layers = append(v.manifest.Layers, l)
		}
		wantAdmit(t, "the kinds "+kinds, v.call(), want)
	})
}

func TestAdmitByEachPolicy(t *testing.T) {
	next := mixedNumbers(24142)
	codes := map[int64]int{}
	for size := 1; size <= 60; size++ {
		p := madePolicy(size, next)
		for _, labels := range someLabelLists() {
			c := visitWith(func(v *visit) { v.policy, v.manifest.Labels = p, risingLabels(labels) }).call()
			want := int64(impl.ErrPolicy)
			if plainPolicyEval(p, risingLabels(labels)) {
				want = impl.OK
			}
			wantAdmit(t, fmt.Sprint(size, " instructions"), c, want)
			codes[want]++
		}
	}
	if codes[impl.OK] < 50 || codes[impl.ErrPolicy] < 50 {
		t.Errorf("the Codes are %v", codes)
	}
	for _, p := range [][]impl.Ins{nil, {}, {op(impl.OpNot)}, {has("by"), op(impl.OpAnd)}, {has("by"), has("by")}, {has("")}, {is("by", "")}, {is("not", "us")}, {is("has", "us")}, {op(0)}, {op(6)}, turnedOften(61), turnedOften(impl.MaxList)} {
		wantAdmit(t, show(fmt.Sprint(p)), visitWith(func(v *visit) { v.policy = p }).call(), impl.ErrForm)
	}
	wantAdmit(t, "60 instructions", visitWith(func(v *visit) { v.policy = append([]impl.Ins{has("by")}, turnedOften(60)[1:]...) }).call(), impl.ErrPolicy)
	wantAdmit(t, "59 instructions", visitWith(func(v *visit) { v.policy = append([]impl.Ins{has("by")}, turnedOften(59)[1:]...) }).call(), impl.OK)
	for _, count := range []int{impl.MaxList + 1, impl.MaxList + 2, 3000} {
		c := visitWith(func(v *visit) { v.policy = turnedOften(count) }).call()
		wantAdmit(t, "too long a policy", c, impl.ErrSize)
		wantAdmitAll(t, "too long a policy", c, []impl.Ask{c.ask})
		wantAdmit(t, "too long a policy, and nothing else", call{policy: c.policy}, impl.ErrSize)
	}
}

// risingLabels leaves out the second one of a Key.
func risingLabels(labels []impl.Label) []impl.Label {
	return slices.CompactFunc(slices.Clone(labels), func(a impl.Label, b impl.Label) bool { return a.Key == b.Key })
}

func TestAdmitOfLabels(t *testing.T) {
	for count := range 11 {
		v := visitWith(func(v *visit) { v.manifest.Labels = manyLabels(count) })
		for at := range 12 {
			l := manyLabels(12)[at]
			for _, c := range []struct {
				policy []impl.Ins
				taken  bool
			}{
				{[]impl.Ins{has(l.Key)}, at < count},
				{[]impl.Ins{has(l.Key), op(3)}, at >= count},
				{[]impl.Ins{is(l.Key, l.Value)}, at < count},
				{[]impl.Ins{is(l.Key, "v"+l.Value)}, false},
				{[]impl.Ins{has("bad"), op(3)}, true},
			} {
				v.policy = c.policy
				want := int64(impl.ErrPolicy)
				if c.taken {
					want = impl.OK
				}
				wantAdmit(t, fmt.Sprint(count, " Labels, ", c.policy), v.call(), want)
			}
		}
	}
	great := greatestManifest()
	great.Name, great.Layers = "app", nil
	v := visitWith(func(v *visit) { v.manifest, v.policy = great, []impl.Ins{has(great.Labels[9].Key)} })
	wantAdmit(t, "the greatest Labels", v.call(), impl.OK)
}

// severalAsks are for unlike images in one Store and log: of each kind of fault one, and three that are let in.
func severalAsks() (call, []impl.Ask) {
	c := visitOf().call()
	c.policy = []impl.Ins{has("bad"), op(impl.OpNot)}
	texts := []string{
		imageOf("aa", "data"), imageOf("bb", "data", "more data"), imageOf("cc"), imageOf("dd", "lost"), imageOf("xx", "data"),
		manifests().plainBytes(impl.Manifest{Name: "ff", Labels: []impl.Label{{Key: "bad", Value: "so"}}}), imageOf("gg", "data") + "\x00", imageOf("hh", "data"),
	}
	names := []string{"aa", "bb", "cc", "dd", "ee", "ff", "gg", "hh"}
	sizes := []int64{4, 13, 0, 4, 4, 0, 4, 5}
	c.trust.Targets.List = nil
	entries := someEntries(3)
	for i, name := range names {
		c.trust.Targets.List = append(c.trust.Targets.List, impl.Target{Name: name, Image: sumOf(texts[i]), Size: sizes[i]})
		entries = append(entries, plainEntry(name, c.trust.Targets.Version, sumOf(texts[i])))
	}
	c.trust.Head = plainLogHead(entries, 7)
	c.store = storeOf(append(texts, "data", "more data")...)
	var asks []impl.Ask
	for i, name := range names {
		asks = append(asks, impl.Ask{Name: name, At: int64(3 + i), Proof: plainPath(entries, 3+i)})
	}
	unproven := asks[0]
	unproven.At++
	return c, append(asks, unproven, impl.Ask{Name: "none"}, impl.Ask{Name: "aa", At: 3, Proof: madeUp(65)}, impl.Ask{})
}

// Promise 19: each choice of several asks, in their order and the other way round.
func TestAdmitAllOfEachChoice(t *testing.T) {
	c, asks := severalAsks()
	codes := []int64{impl.OK, impl.OK, impl.OK, impl.ErrNone, impl.ErrForm, impl.ErrPolicy, impl.ErrSyntax, impl.ErrSum, impl.ErrProof, impl.ErrNone, impl.ErrForm, impl.ErrNone}
	for i, ask := range asks {
		c.ask = ask
		wantAdmit(t, fmt.Sprint("ask ", i), c, codes[i])
	}
	for bits := range 1 << len(asks) {
		var chosen []impl.Ask
		var want []string
		for i, ask := range asks {
			if bits>>i&1 == 0 {
				continue
			}
			chosen = append(chosen, ask)
			if codes[i] == impl.OK {
				want = append(want, ask.Name)
			}
		}
		if got := impl.AdmitAll(c.trust, c.store, c.policy, chosen, c.now); !slices.Equal(got, want) {
			t.Errorf("the choice %d: got %v, want %v", bits, got, want)
		}
		slices.Reverse(chosen)
		slices.Reverse(want)
		if got := impl.AdmitAll(c.trust, c.store, c.policy, chosen, c.now); !slices.Equal(got, want) {
			t.Errorf("the choice %d, the other way round: got %v, want %v", bits, got, want)
		}
	}
}

func TestAdmitAll(t *testing.T) {
	c, asks := severalAsks()
	a, b, wrong := asks[0], asks[1], asks[3]
	many := slices.Repeat([]impl.Ask{wrong, b, a, asks[9]}, 100)
	for what, l := range map[string]struct {
		asks []impl.Ask
		want []string
	}{
		"no asks":                {nil, nil},
		"an empty list":          {[]impl.Ask{}, nil},
		"one":                    {[]impl.Ask{a}, []string{"aa"}},
		"one that is not let in": {[]impl.Ask{wrong}, nil},
		"none is let in":         {asks[3:], nil},
		"all":                    {asks, []string{"aa", "bb", "cc"}},
		"one twice":              {[]impl.Ask{a, a}, []string{"aa", "aa"}},
		"one again":              {[]impl.Ask{a, b, a}, []string{"aa", "bb", "aa"}},
		"others between":         {[]impl.Ask{wrong, a, wrong, wrong, b, wrong, a, wrong}, []string{"aa", "bb", "aa"}},
		"another order":          {[]impl.Ask{asks[2], b, a}, []string{"cc", "bb", "aa"}},
		"MaxList asks":           {many, slices.Repeat([]string{"bb", "aa"}, 100)},
		"MaxList times one":      {slices.Repeat([]impl.Ask{b}, impl.MaxList), slices.Repeat([]string{"bb"}, impl.MaxList)},
		"the last of MaxList":    {append(slices.Repeat([]impl.Ask{wrong}, impl.MaxList-1), a), []string{"aa"}},
		"one ask more":           {append(many[:400:400], a), nil},
		"twice MaxList":          {slices.Repeat([]impl.Ask{a}, 2*impl.MaxList), nil},
		"MaxList zero asks":      {make([]impl.Ask, impl.MaxList), nil},
	} {
		wantAdmitAll(t, what, c, l.asks, l.want...)
	}
	if got := impl.AdmitAll(impl.Trust{}, impl.Store{}, nil, []impl.Ask{{}, a}, 0); len(got) > 0 {
		t.Errorf("AdmitAll of nothing: got %v", got)
	}
}

// Promise 19, of asks and calls in which much is changed.
func TestAdmitAllOfChangedCalls(t *testing.T) {
	next := mixedNumbers(17724)
	codes := map[int64]int{}
	for range 60 {
		c, asks := severalAsks()
		list := c.trust.Targets.List
		for range next(3) {
			switch next(7) {
			case 0:
				c.now = int64(next(100))
			case 1:
				c.policy = madePolicy(1+next(9), next)
			case 2:
				c.store.Blobs = slices.Delete(slices.Clone(c.store.Blobs), 0, next(3))
			case 3:
				list[next(8)].Size += int64(next(2))
			case 4:
				list[next(8)].Image = image(1)
			case 5:
				c.trust.Head.Size += int64(next(2))
			case 6:
				c.trust = partsLeftOut(c.trust, 31^1<<next(5))
			}
		}
		for i := range asks {
			switch next(6) {
			case 0:
				asks[i].Proof = otherProofs(madeUp(3))[next(9)]
			case 1:
				asks[i].Name = asks[next(8)].Name
			case 2:
				asks[i] = asks[next(3)]
			}
		}
		var want []string
		for _, c.ask = range asks {
			code := plainAdmit(c).Code
			wantAdmit(t, "changed", c, code)
			codes[code]++
			if code == impl.OK {
				want = append(want, c.ask.Name)
			}
		}
		wantAdmitAll(t, "changed", c, asks, want...)
	}
	for _, code := range []int64{impl.OK, impl.ErrForm, impl.ErrNone, impl.ErrProof, impl.ErrPolicy, impl.ErrSum, impl.ErrSyntax} {
		if codes[code] < 5 {
			t.Errorf("Admit tells Code %d only %d times: %v", code, codes[code], codes)
		}
	}
}

// One bit of what is trusted, stored or asked for is turned: nothing else is let in than what was named.
func TestAsksThatAreTurned(t *testing.T) {
	right := visitOf().call()
	image := right.trust.Targets.List[0].Image
	turns := 0
	for bit := 0; bit < 256; bit += 5 {
		for what, change := range map[string]func(*call){
			"the Head's Root": func(c *call) { c.trust.Head.Root = turned(c.trust.Head.Root, bit) },
			"the Target's Image": func(c *call) {
				c.trust.Targets.List = []impl.Target{{Name: "app", Image: turned(image, bit), Size: 17}}
			},
			"a hash": func(c *call) {
				c.ask.Proof = with(c.ask.Proof, bit%len(c.ask.Proof), turned(c.ask.Proof[bit%len(c.ask.Proof)], bit))
			},
		} {
			c := right
			change(&c)
			wantAdmit(t, what, c, impl.ErrProof)
			turns++
		}
	}
	for i, blob := range right.store.Blobs {
		for bit := 0; bit < 8*len(blob); bit += 3 {
			c := right
			c.store = storeOf(with(right.store.Blobs, i, turned(blob, bit))...)
			want := int64(impl.OK)
			if blob == "data" || blob == "more data" || sumOf(blob) == image {
				want = impl.ErrNone
			}
			wantAdmit(t, "a blob", c, want)
			c.store.Blobs = with(right.store.Blobs, i, turned(blob, bit))
			if !plainStore(c.store) {
				want = impl.ErrForm
			}
			wantAdmit(t, "a blob, at its place", c, want)
			turns++
		}
	}
	if turns < 300 {
		t.Errorf("only %d bits are turned", turns)
	}
}

// From a trusted root on by updates: what is let in is what the last ones say, and not what was said ahead.
func TestAdmitBehindUpdates(t *testing.T) {
	next := func(version int64) (impl.Targets, string) {
		text := manifests().plainBytes(impl.Manifest{Name: "app", Layers: layersOf("data"), Labels: []impl.Label{{Key: "v", Value: fmt.Sprint("v", version)}}})
		return impl.Targets{Version: version, Expires: 90, List: []impl.Target{{Name: "app", Image: sumOf(text), Size: 4}}}, text
	}
	trust := impl.TrustNew(trustedRoot(3, 100))
	c := call{policy: []impl.Ins{has("v")}}
	c.store = storeOf("data")
	var entries []string
	var old impl.Ask
	for version := int64(1); version <= 6; version++ {
		targets, text := next(version)
		now := 10 * version
		c.store = wantStorePut(t, "an image", c.store, text, impl.OK)
		link := impl.Link{Version: version, Expires: now + 15, Next: version}
		entries = append(entries, plainEntry("app", version, sumOf(text)))
		c.ask = impl.Ask{Name: "app", At: version - 1, Proof: plainPath(entries, int(version-1))}
		c.now = now
		for _, role := range []int64{impl.RoleTimestamp, impl.RoleSnapshot, impl.RoleTargets} {
			if c.trust = trust; version > 1 {
				if got := c.admit().Code; got == impl.OK {
					t.Errorf("version %d: let in ahead of the update of role %d", version, role)
				}
			}
			trust = update(role, trust, signedText(secretsFor(role, 3), bodyOf(role, link, targets.List)), now).Trust
		}
		c.trust = trust
		wantAdmit(t, "not yet logged", c, impl.ErrProof)
		var proof []string
		if version > 1 {
			proof = plainBeginning(entries, int(version-1))
		}
		head := heads().plainBytes(plainLogHead(entries, now))
		trust = impl.UpdateHead(trust, signedText(secretsFor(impl.RoleLog, 3), head), proof, now).Trust
		c.trust = trust
		wantAdmit(t, fmt.Sprint("version ", version), c, impl.OK)
		if got := c.admit().Image.Manifest.Labels[0].Value; got != fmt.Sprint("v", version) {
			t.Errorf("version %d: let in is %s", version, got)
		}
		asks := []impl.Ask{old, c.ask, old}
		wantAdmitAll(t, "by the old proof, and by the new one", c, asks, "app")
		for at := range entries[:version-1] {
			c.ask = impl.Ask{Name: "app", At: int64(at), Proof: plainPath(entries, at)}
			wantAdmit(t, "what was said ahead", c, impl.ErrProof)
		}
		c.ask = asks[1]
		old = c.ask
		c.now = now + 14
		wantAdmit(t, "the last moment", c, impl.OK)
		c.now = now + 15
		wantAdmit(t, "the Timestamp has expired", c, impl.ErrExpired)
		c.store = wantStoreSweep(t, "what is asked for", c.store, []string{sumOf(text)}, impl.OK)
		c.now = now
		wantAdmit(t, "behind a sweep", c, impl.OK)
	}
}

// roomyCall has place behind each of its lists.
func roomyCall(c call) call {
	c.trust = roomyTrust(c.trust)
	c.store.Blobs = roomy(c.store.Blobs)
	c.policy = roomyPolicy(c.policy)
	c.ask.Proof = roomy(c.ask.Proof)
	return c
}

func TestAdmitChangesNothingThatIsHandedIn(t *testing.T) {
	for _, f := range append(visitFaults(), visitFault{"no fault", impl.OK, func(*visit) {}}) {
		v := visitWith(f.make)
		c, want := roomyCall(v.call()), v.call()
		asks := append([]impl.Ask{c.ask, {}, c.ask, {Name: "app", Proof: c.ask.Proof[:1]}}, impl.Ask{Name: "kept"})
		for _, now := range []int64{c.now, 500, -1} {
			impl.Admit(c.trust, c.store, c.policy, c.ask, now)
			impl.AdmitAll(c.trust, c.store, c.policy, asks[:4], now)
			impl.TargetOf(c.trust, c.ask.Name)
		}
		wantRoomyUnchanged(t, f.name, c.trust, want.trust)
		wantUnchanged(t, f.name+", Blobs", c.store.Blobs, want.store.Blobs)
		wantUnchanged(t, f.name+", Proof", c.ask.Proof, want.ask.Proof)
		size := len(c.policy)
		if told(c.policy) != told(want.policy) || told(c.policy[size:size+2]) != told([]impl.Ins{op(77), op(78)}) {
			t.Errorf("%s: the policy is changed", f.name)
		}
		wanted := []impl.Ask{want.ask, {}, want.ask, {Name: "app", Proof: want.ask.Proof[:1]}, {Name: "kept"}}
		if told(asks) != told(wanted) {
			t.Errorf("%s: the asks are changed", f.name)
		}
	}
}

func textsOfCall(c call) []string {
	out := append(textsOf(c.trust), c.store.Blobs...)
	out = append(append(out, textsOfPolicy(c.policy)...), c.ask.Proof...)
	return append(out, c.ask.Name)
}

func TestAdmitIsNewMemory(t *testing.T) {
	c := visitWith(func(v *visit) { v.manifest.Labels, v.policy = manyLabels(10), []impl.Ins{has("key-a")} }).call()
	given := textsOfCall(c)
	image := func() impl.ImageOut { return c.admit().Image }
	wantTextsApart(t, "the Manifest", textsOfManifest(image().Manifest), given)
	wantTextsApart(t, "the Layers", image().Layers, given)
	wantListsApart(t, "the Layers and the Blobs", image().Layers, c.store.Blobs)
	wantListsApart(t, "the Layers, twice", image().Layers, image().Layers)
	a, b := image(), image()
	if len(textsOfManifest(a.Manifest)) != 24 || len(a.Layers) != 3 {
		t.Fatalf("let in is %s", told(a))
	}
	was := told(b)
	a.Manifest.Layers[0].Size, a.Manifest.Labels[0].Key = 77, "written"
	if told(b) != was {
		t.Error("two answers share their lists")
	}
	target := impl.TargetOf(c.trust, "app")
	wantTextsApart(t, "TargetOf", []string{target.Name, target.Image}, append(given, c.ask.Name))
	if len(target.Image) != 32 {
		t.Errorf("TargetOf tells %s", told(target))
	}
	mine, asks := severalAsks()
	names := func() []string { return impl.AdmitAll(mine.trust, mine.store, mine.policy, asks, mine.now) }
	given = textsOfCall(mine)
	for _, ask := range asks {
		given = append(append(given, ask.Name), ask.Proof...)
	}
	wantTextsApart(t, "AdmitAll", names(), given)
	wantListsApart(t, "AdmitAll, twice", names(), names())
}

func TestAdmitIsTheSameEachTime(t *testing.T) {
	c, asks := severalAsks()
	for range 20 {
		wantAdmit(t, "again", visitOf().call(), impl.OK)
		wantAdmit(t, "a wrong one between", call{}, impl.ErrForm)
		wantAdmit(t, "too late, between", callWith(func(c *call) { c.now = 80 }), impl.ErrExpired)
		wantAdmit(t, "another policy between", callWith(func(c *call) { c.policy = []impl.Ins{has("bad")} }), impl.ErrPolicy)
		wantAdmitAll(t, "again", c, asks, "aa", "bb", "cc")
		wantTargetOf(t, "again", c.trust, "bb", c.trust.Targets.List[1])
		wantTargetOf(t, "none between", impl.Trust{}, "bb", impl.Target{})
	}
}

func TestAdmitAskedForAtTheSameTime(t *testing.T) {
	const callers = 40
	c, asks := severalAsks()
	var got [callers]impl.AdmitOut
	var names [callers][]string
	var targets [callers]impl.Target
	var all sync.WaitGroup
	for i := range callers {
		all.Go(func() {
			got[i] = impl.Admit(c.trust, c.store, c.policy, asks[i%len(asks)], int64(50+i))
			names[i] = impl.AdmitAll(c.trust, c.store, c.policy, asks[i%5:], int64(50+i))
			targets[i] = impl.TargetOf(c.trust, asks[i%len(asks)].Name)
		})
	}
	all.Wait()
	for i := range callers {
		mine := c
		mine.ask, mine.now = asks[i%len(asks)], int64(50+i)
		if told(got[i]) != told(plainAdmit(mine)) || !slices.Equal(names[i], plainAdmitAll(mine, asks[i%5:])) || targets[i] != plainTargetOf(c.trust, mine.ask.Name) {
			t.Errorf("caller %d: got Code %d, the names %v, the Target %s", i, got[i].Code, names[i], told(targets[i]))
		}
	}
}
