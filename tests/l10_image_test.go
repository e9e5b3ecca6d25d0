package tests

import (
	"fmt"
	"math"
	"slices"
	"strconv"
	"strings"
	"sync"
	"testing"

	"loop.example/g00279/impl"
)

// manifests, plainStore and the plain calls of a Store read chapter 11 once more.
func manifests() meta[impl.Manifest] {
	return meta[impl.Manifest]{
		name:  "Manifest",
		bytes: impl.ManifestBytes,
		read: func(text string) (impl.Manifest, int64) {
			out := impl.ManifestRead(text)
			return out.Manifest, out.Code
		},
		right: func(m impl.Manifest) bool {
			for _, l := range m.Layers {
				if len(l.Blob) != 32 || l.Size < 0 || l.Size > 3000 {
					return false
				}
			}
			for _, l := range m.Labels {
				if !plainName(l.Key) || !plainName(l.Value) {
					return false
				}
			}
			rising := plainRising(m.Labels, func(a impl.Label, b impl.Label) bool { return a.Key < b.Key })
			return rising && plainName(m.Name) && len(m.Layers) < 11 && len(m.Labels) < 11
		},
		parts: func(m impl.Manifest) []part {
			out := []part{raw("mark", "\x49"), num("length of Name", int64(len(m.Name))), raw("Name", m.Name), num("how many Layers", int64(len(m.Layers)))}
			for _, l := range m.Layers {
				out = append(out, raw("Blob", l.Blob), num("Size", l.Size))
			}
			out = append(out, num("how many Labels", int64(len(m.Labels))))
			for _, l := range m.Labels {
				out = append(out, num("length of Key", int64(len(l.Key))), raw("Key", l.Key), num("length of Value", int64(len(l.Value))), raw("Value", l.Value))
			}
			return out
		},
		parse: func(p *plainReader) impl.Manifest {
			m := impl.Manifest{Name: p.text()}
			p.times(func() { m.Layers = append(m.Layers, impl.Layer{Blob: p.take(32), Size: p.num()}) })
			p.times(func() { m.Labels = append(m.Labels, impl.Label{Key: p.text(), Value: p.text()}) })
			return m
		},
	}
}

func plainStore(s impl.Store) bool {
	tooLong := func(blob string) bool { return len(blob) > 3000 }
	return len(s.Blobs) < 61 && !slices.ContainsFunc(s.Blobs, tooLong) && plainRising(s.Blobs, risesByDigest)
}

func risesByDigest(a string, b string) bool {
	return sumOf(a) < sumOf(b)
}

// plainBlob goes through all of them.
func plainBlob(s impl.Store, digest string) (string, bool) {
	i := slices.IndexFunc(s.Blobs, func(blob string) bool { return sumOf(blob) == digest })
	if i < 0 {
		return "", false
	}
	return s.Blobs[i], true
}

func plainStorePut(s impl.Store, blob string) impl.StoreOut {
	_, there := plainBlob(s, sumOf(blob))
	switch {
	case len(blob) > impl.MaxBytes:
		return impl.StoreOut{Code: impl.ErrSize}
	case !plainStore(s) || len(blob) > 3000:
		return impl.StoreOut{Code: impl.ErrForm}
	case there:
		return impl.StoreOut{Store: s}
	case len(s.Blobs) == 60:
		return impl.StoreOut{Code: impl.ErrFull}
	}
	return impl.StoreOut{Store: storeOf(append(slices.Clone(s.Blobs), blob)...)}
}

func plainStoreGet(s impl.Store, image string) impl.StoreOut {
	blob, there := plainBlob(s, image)
	switch {
	case len(image) > impl.MaxBytes:
		return impl.StoreOut{Code: impl.ErrSize}
	case !plainStore(s):
		return impl.StoreOut{Code: impl.ErrForm}
	case !there:
		return impl.StoreOut{Code: impl.ErrNone}
	}
	return impl.StoreOut{Blob: blob}
}

// plainAsked: is that digest an image, or a Layer of one?
func plainAsked(s impl.Store, images []string, digest string) bool {
	return slices.ContainsFunc(images, func(image string) bool {
		blob, there := plainBlob(s, image)
		m, code := manifests().plainRead(blob)
		isLayer := func(l impl.Layer) bool { return l.Blob == digest }
		return image == digest || there && code == impl.OK && slices.ContainsFunc(m.Layers, isLayer)
	})
}

func plainStoreSweep(s impl.Store, images []string) impl.StoreOut {
	if len(images) > impl.MaxList {
		return impl.StoreOut{Code: impl.ErrSize}
	}
	if !plainStore(s) {
		return impl.StoreOut{Code: impl.ErrForm}
	}
	var out impl.StoreOut
	for _, blob := range s.Blobs {
		if plainAsked(s, images, sumOf(blob)) {
			out.Store.Blobs = append(out.Store.Blobs, blob)
		}
	}
	return out
}

func plainMaterialize(s impl.Store, image string) impl.ImageOut {
	got := plainStoreGet(s, image)
	if got.Code != impl.OK {
		return impl.ImageOut{Code: got.Code}
	}
	m, code := manifests().plainRead(got.Blob)
	if code != impl.OK {
		return impl.ImageOut{Code: impl.ErrSyntax}
	}
	out := impl.ImageOut{Manifest: m}
	for _, l := range m.Layers {
		blob, there := plainBlob(s, l.Blob)
		if !there {
			return impl.ImageOut{Code: impl.ErrNone}
		}
		if int64(len(blob)) != l.Size {
			return impl.ImageOut{Code: impl.ErrSum}
		}
		out.Layers = append(out.Layers, blob)
	}
	return out
}

// storeOf has them in the order of their digests.
func storeOf(blobs ...string) impl.Store {
	out := slices.Clone(blobs)
	slices.SortStableFunc(out, func(a string, b string) int { return strings.Compare(sumOf(a), sumOf(b)) })
	return impl.Store{Blobs: out}
}

func someBlobs(count int) []string {
	var out []string
	for i := range count {
		out = append(out, strings.Repeat("blob ", i%4)+strconv.Itoa(i))
	}
	return out
}

// layersOf name the blobs as they are.
func layersOf(blobs ...string) []impl.Layer {
	var out []impl.Layer
	for _, blob := range blobs {
		out = append(out, impl.Layer{Blob: sumOf(blob), Size: int64(len(blob))})
	}
	return out
}

func manyLabels(count int) []impl.Label {
	var out []impl.Label
	for i := range count {
		out = append(out, impl.Label{Key: "key-" + string(rune('a'+i)), Value: "v" + strconv.Itoa(i)})
	}
	return out
}

// imageOf is the text of a Manifest of these blobs.
func imageOf(name string, blobs ...string) string {
	return manifests().plainBytes(impl.Manifest{Name: name, Layers: layersOf(blobs...)})
}

func someManifest() impl.Manifest {
	return impl.Manifest{Name: "app", Layers: []impl.Layer{
		{Blob: image(1), Size: 0}, {Blob: strings.Repeat("\x00", 32), Size: 63}, {Blob: image(1), Size: 0}, {Blob: strings.Repeat("\xff", 32), Size: 3000},
	}, Labels: []impl.Label{
		{Key: "a", Value: "z"}, {Key: "a-", Value: "a"}, {Key: "a0", Value: "not"}, {Key: "aa", Value: "a"}, {Key: "b", Value: "has"},
	}}
}

// greatestManifest has as many of all, and as long ones, as may be.
func greatestManifest() impl.Manifest {
	m := impl.Manifest{Name: strings.Repeat("z", 40)}
	for i := range 10 {
		m.Layers = append(m.Layers, impl.Layer{Blob: strings.Repeat("\xff", 32), Size: 3000})
		m.Labels = append(m.Labels, impl.Label{Key: strings.Repeat("y", 39) + string(rune('a'+i)), Value: strings.Repeat("z", 40)})
	}
	return m
}

func manifestWith(change func(*impl.Manifest)) impl.Manifest {
	m := someManifest()
	change(&m)
	return m
}

func rightManifests() []impl.Manifest {
	out := []impl.Manifest{someManifest(), greatestManifest(), {Name: "a"}, {Name: "a", Layers: []impl.Layer{}, Labels: []impl.Label{}}}
	for layers := range 11 {
		for labels := range 11 {
			out = append(out, impl.Manifest{Name: "app", Layers: layersOf(someBlobs(layers)...), Labels: manyLabels(labels)})
		}
	}
	for at := range 4 {
		for _, size := range []int64{0, 1, 63, 64, 2999, 3000} {
			out = append(out, manifestWith(func(m *impl.Manifest) { m.Layers[at].Size = size }))
		}
		out = append(out, manifestWith(func(m *impl.Manifest) { m.Layers[at].Blob = mixed(32) }))
	}
	for _, name := range []string{"a", "z", "b0", "z-9", "a-", "z" + strings.Repeat("-", 39), strings.Repeat("q", 39), strings.Repeat("q", 40), "not", "has"} {
		out = append(out, manifestWith(func(m *impl.Manifest) { m.Name = name }))
		for at := range 5 {
			out = append(out, manifestWith(func(m *impl.Manifest) { m.Labels[at].Value = name }))
		}
		out = append(out, manifestWith(func(m *impl.Manifest) { m.Labels = []impl.Label{{Key: name, Value: name}} }))
	}
	// The same Layer may come again, and under another Size.
	for count := 2; count <= 10; count++ {
		out = append(out, manifestWith(func(m *impl.Manifest) { m.Layers = slices.Repeat(layersOf("data"), count) }))
		out = append(out, manifestWith(func(m *impl.Manifest) {
			m.Layers = slices.Repeat(layersOf("data"), count)
			m.Layers[count-1].Size = 5
		}))
	}
	return out
}

func wrongLayers() map[string]impl.Layer {
	out := map[string]impl.Layer{"the zero Layer": {}}
	for _, size := range []int{0, 1, 20, 31, 33, 64, impl.MaxBytes + 1} {
		out[fmt.Sprint("a Blob of ", size)] = impl.Layer{Blob: mixed(size), Size: 5}
	}
	for _, size := range []int64{-1, -2, -3000, 3001, 3002, 1 << 32, 1<<32 + 1, -1 << 32, math.MaxInt64, math.MinInt64} {
		out[fmt.Sprint("the Size ", size)] = impl.Layer{Blob: image(1), Size: size}
	}
	return out
}

func wrongManifests() map[string]impl.Manifest {
	out := map[string]impl.Manifest{
		"the zero Manifest":       {},
		"no Name":                 manifestWith(func(m *impl.Manifest) { m.Name = "" }),
		"11 Layers":               manifestWith(func(m *impl.Manifest) { m.Layers = layersOf(someBlobs(11)...) }),
		"12 Layers":               manifestWith(func(m *impl.Manifest) { m.Layers = layersOf(someBlobs(12)...) }),
		"11 Layers, no Labels":    {Name: "app", Layers: slices.Repeat(layersOf("data"), 11)},
		"MaxList Layers and one":  manifestWith(func(m *impl.Manifest) { m.Layers = slices.Repeat(layersOf("data"), impl.MaxList+1) }),
		"11 Labels":               manifestWith(func(m *impl.Manifest) { m.Labels = manyLabels(11) }),
		"12 Labels":               manifestWith(func(m *impl.Manifest) { m.Labels = manyLabels(12) }),
		"11 Labels, no Layers":    {Name: "app", Labels: manyLabels(11)},
		"MaxList Labels and one":  manifestWith(func(m *impl.Manifest) { m.Labels = slices.Repeat(manyLabels(1), impl.MaxList+1) }),
		"a Label twice":           manifestWith(func(m *impl.Manifest) { m.Labels[1] = m.Labels[0] }),
		"a Label twice, at last":  manifestWith(func(m *impl.Manifest) { m.Labels[4] = m.Labels[3] }),
		"a Key twice":             manifestWith(func(m *impl.Manifest) { m.Labels[4].Key = "aa" }),
		"two Labels, one Key":     {Name: "app", Labels: []impl.Label{{Key: "a", Value: "a"}, {Key: "a", Value: "b"}}},
		"Keys that fall":          manifestWith(func(m *impl.Manifest) { m.Labels[4].Key = "a9" }),
		"the first Key falls":     manifestWith(func(m *impl.Manifest) { m.Labels[0].Key = "c" }),
		"two Labels change place": manifestWith(func(m *impl.Manifest) { m.Labels[2], m.Labels[3] = m.Labels[3], m.Labels[2] }),
		"one Key begins the one ahead": manifestWith(func(m *impl.Manifest) {
			m.Labels[3].Key, m.Labels[4].Key = "ab", "a"
		}),
	}
	for what, layer := range wrongLayers() {
		for at := range 4 {
			out[fmt.Sprint(what, " at ", at)] = manifestWith(func(m *impl.Manifest) { m.Layers[at] = layer })
		}
		out[what+" behind nine"] = manifestWith(func(m *impl.Manifest) { m.Layers = append(layersOf(someBlobs(9)...), layer) })
	}
	for _, name := range noNames() {
		out["the Name "+show(name)] = manifestWith(func(m *impl.Manifest) { m.Name = name })
		out["the only Key "+show(name)] = manifestWith(func(m *impl.Manifest) { m.Labels = []impl.Label{{Key: name, Value: "v"}} })
		for at := range 5 {
			out[fmt.Sprint("the Key ", show(name), " at ", at)] = manifestWith(func(m *impl.Manifest) { m.Labels[at].Key = name })
			out[fmt.Sprint("the Value ", show(name), " at ", at)] = manifestWith(func(m *impl.Manifest) { m.Labels[at].Value = name })
		}
	}
	return out
}

func TestKnownManifests(t *testing.T) {
	zeros := strings.Repeat("\x00", 32)
	two := impl.Manifest{Name: "app", Layers: []impl.Layer{{Blob: zeros, Size: 4}, {Blob: "0123456789abcdef0123456789abcdef", Size: 3000}}, Labels: []impl.Label{{Key: "by", Value: "us"}, {Key: "on", Value: "x86"}}}
	text := "I\x06app" + "\x04" + zeros + "\x08" + "0123456789abcdef0123456789abcdef\xf0\x2e" + "\x04" + "\x04by\x04us" + "\x04on\x06x86"
	wantRead(t, manifests(), "two of each", text, two, impl.OK)
	wantRead(t, manifests(), "a Name alone", "I\x02a\x00\x00", impl.Manifest{Name: "a"}, impl.OK)
	if got := impl.ManifestBytes(two); got != text {
		t.Errorf("ManifestBytes: got %q, want %q", got, text)
	}
	if got := impl.ManifestBytes(impl.Manifest{Name: "a"}); got != "I\x02a\x00\x00" {
		t.Errorf("ManifestBytes of a Name alone: got %q", got)
	}
	for _, text := range []string{"I", "I\x02", "I\x02a", "I\x02a\x00", "I\x02a\x00\x00\x00", "i\x02a\x00\x00", "I\x02A\x00\x00", "I\x00\x00\x00", "I\x01\x00\x00", "I\x82\x00a\x00\x00", "I\x02a\x01\x00", "I\x02a\x00\x01",
		"I\x02a\x02\x00", "I\x02a\x02" + zeros + "\x00", "I\x02a\x02" + zeros[1:] + "\x00\x00", "I\x02a\x02\x40" + zeros + "\x00\x00", "I\x02a\x02" + zeros + "\x01\x00", "I\x02a\x02" + zeros + "\xf2\x2e\x00",
		"I\x02a\x00\x02\x02a", "I\x02a\x00\x02\x00\x02a", "I\x02a\x00\x02\x02a\x00", "I\x02a\x00\x04\x02a\x02b\x02a\x02c", "I\x02a\x00\x04\x02b\x02b\x02a\x02c", "I\x02a\x00\x02\x02a\x02B"} {
		wantNoRead(t, manifests(), "no Manifest", text, impl.ErrSyntax)
	}
}

// Promise 14.
func TestRightManifestsComeBack(t *testing.T) {
	for i, m := range rightManifests() {
		wantBack(t, manifests(), fmt.Sprint("Manifest ", i), m)
		if !impl.ManifestRight(m) {
			t.Errorf("ManifestRight(%s) is false", told(m))
		}
	}
}

func TestWrongManifestsHaveNoBytesAndAreNotRead(t *testing.T) {
	for what, m := range wrongManifests() {
		wantWrong(t, manifests(), what, m)
		if impl.ManifestRight(m) {
			t.Errorf("%s: ManifestRight is true", what)
		}
	}
}

func TestNamesOfManifests(t *testing.T) {
	for size := range 45 {
		name := strings.Repeat("n", size)
		right := 1 <= size && size <= 40
		for what, m := range map[string]impl.Manifest{
			"Name": {Name: name}, "Key": {Name: "a", Labels: []impl.Label{{Key: name, Value: "v"}}}, "Value": {Name: "a", Labels: []impl.Label{{Key: "k", Value: name}}},
		} {
			if got := impl.ManifestRight(m); got != right {
				t.Errorf("a %s of %d bytes: ManifestRight is %t", what, size, got)
			}
			if text := manifests().plainBytes(m); right {
				wantRead(t, manifests(), what, text, m, impl.OK)
			} else {
				wantNoRead(t, manifests(), what, text, impl.ErrSyntax)
			}
		}
	}
}

func TestManifestsAreJustTheseBytes(t *testing.T) {
	for _, m := range []impl.Manifest{{Name: "a"}, someManifest(), greatestManifest()} {
		wantJustTheseBytes(t, manifests(), m)
		wantNothingWithout(t, manifests(), m)
		wantTooLong(t, manifests(), m)
		text := impl.ManifestBytes(m)
		for at := range len(text) {
			wantNoRead(t, manifests(), fmt.Sprint("the first ", at, " bytes"), text[:at], impl.ErrSyntax)
		}
	}
	wantOtherNumbers(t, manifests(), impl.Manifest{Name: "a"})
	wantOtherNumbers(t, manifests(), someManifest())
	wantNoRead(t, manifests(), "nothing", "", impl.ErrSyntax)
	if size := len(impl.ManifestBytes(greatestManifest())); size != 1+41+1+10*34+1+10*82 {
		t.Errorf("the greatest Manifest has %d bytes", size)
	}
}

func TestShortTextsAreManifestsAsTold(t *testing.T) {
	read := 0
	eachShortText("\x00\x01\x02\x04\x80ab", 5, func(text string) {
		if wantReadAsTold(t, manifests(), "short", "I\x02a\x00"+text) {
			read++
		}
		wantReadAsTold(t, manifests(), "no mark", text)
	})
	if read != 5 {
		t.Errorf("%d short texts are read", read)
	}
}

func TestManifestsAndMetaAreUnlike(t *testing.T) {
	for what, text := range map[string]string{
		"Root": impl.RootBytes(someRoot()), "Targets": impl.TargetsBytes(someTargets()), "Signed": impl.SignedBytes(someSigned()), "Head": impl.HeadBytes(fullTrust().Head),
		"Timestamp": impl.LinkBytes(impl.RoleTimestamp, impl.Link{Version: 2, Expires: 50, Next: 3}), "entry": impl.EntryText("app", 2, image(1)),
	} {
		wantNoRead(t, manifests(), what, text, impl.ErrSyntax)
	}
	text := impl.ManifestBytes(someManifest())
	wantNoRead(t, roots(), "a Manifest", text, impl.ErrSyntax)
	wantNoRead(t, allTargets(), "a Manifest", text, impl.ErrSyntax)
	wantNoRead(t, allSigned(), "a Manifest", text, impl.ErrSyntax)
	wantNoRead(t, heads(), "a Manifest", text, impl.ErrSyntax)
	for _, kind := range linkKinds() {
		wantNoRead(t, linksOf(kind), "a Manifest", text, impl.ErrSyntax)
	}
}

func TestMadeUpManifestsComeBack(t *testing.T) {
	x := int64(1618)
	next := func(most int64) int64 {
		x = (x*48271 + 13) % 2147483647
		return x % most
	}
	name := func() string { return "n" + mixedName(40)[next(20):20+next(20)] }
	for i := range 300 {
		m := impl.Manifest{Name: name()}
		for range next(11) {
			m.Layers = append(m.Layers, impl.Layer{Blob: image(int(next(9))), Size: next(3001)})
		}
		for range next(11) {
			m.Labels = append(m.Labels, impl.Label{Key: name(), Value: name()})
		}
		slices.SortFunc(m.Labels, func(a impl.Label, b impl.Label) int { return strings.Compare(a.Key, b.Key) })
		m.Labels = slices.CompactFunc(m.Labels, func(a impl.Label, b impl.Label) bool { return a.Key == b.Key })
		wantBack(t, manifests(), fmt.Sprint("made up ", i), m)
	}
}

func rightStores() map[string]impl.Store {
	long := mixed(3000)
	out := map[string]impl.Store{
		"none":                     {},
		"an empty list":            {Blobs: []string{}},
		"the empty blob":           {Blobs: []string{""}},
		"one of MaxBlob":           {Blobs: []string{long}},
		"all lengths":              storeOf("", "a", long[:63], long[:64], long[:2999], long),
		"one that begins another":  storeOf("a", "ab", "abc"),
		"an image with its layers": storeOf(imageOf("app", "data", "more"), "data", "more"),
	}
	for _, count := range []int{1, 2, 3, 30, 59, 60} {
		out[fmt.Sprint(count, " blobs")] = storeOf(someBlobs(count)...)
	}
	return out
}

func wrongStores() map[string]impl.Store {
	long := mixed(impl.MaxBytes + 1)
	three, sixty := storeOf(someBlobs(3)...).Blobs, storeOf(someBlobs(60)...).Blobs
	out := map[string]impl.Store{
		"61 blobs":                  storeOf(someBlobs(61)...),
		"62 blobs":                  storeOf(someBlobs(62)...),
		"MaxList blobs and one":     storeOf(someBlobs(impl.MaxList + 1)...),
		"61 times one":              {Blobs: slices.Repeat([]string{"a"}, 61)},
		"two alike":                 {Blobs: []string{"a", "a"}},
		"two alike at last":         {Blobs: append(slices.Clone(three), three[2])},
		"two alike at first":        {Blobs: append(three[:1:1], three...)},
		"two empty ones":            {Blobs: []string{"", ""}},
		"all fall":                  {Blobs: []string{three[2], three[1], three[0]}},
		"the first two fall":        {Blobs: []string{three[1], three[0], three[2]}},
		"the last two fall":         {Blobs: []string{three[0], three[2], three[1]}},
		"the last of 60 falls":      {Blobs: append(slices.Clone(sixty[1:]), sixty[0])},
		"one that comes again":      {Blobs: []string{three[0], three[1], three[0]}},
		"one of MaxBlob and one":    {Blobs: []string{long[:3001]}},
		"among others one too long": storeOf("a", "b", long[:3001]),
		"one of MaxBytes":           {Blobs: []string{long[:impl.MaxBytes]}},
		"one of MaxBytes and one":   {Blobs: []string{long}},
		"among others a great one":  {Blobs: append([]string{long}, three...)},
		"a great one behind others": {Blobs: append(slices.Clone(three), long)},
	}
	for count := 2; count <= 8; count++ {
		// Texts that rise, but whose digests do not.
		blobs := slices.Sorted(slices.Values(someBlobs(count)))
		if !plainRising(blobs, risesByDigest) {
			out[fmt.Sprint(count, " in the order of their texts")] = impl.Store{Blobs: blobs}
		}
	}
	return out
}

func TestStoresThatAreRight(t *testing.T) {
	for what, s := range rightStores() {
		if !impl.StoreRight(s) || !plainStore(s) {
			t.Errorf("%s: StoreRight is %t", what, impl.StoreRight(s))
		}
	}
	for what, s := range wrongStores() {
		if impl.StoreRight(s) || plainStore(s) {
			t.Errorf("%s: StoreRight is %t", what, impl.StoreRight(s))
		}
	}
}

// Any order of four blobs but one, and any that has one of them twice, is refused.
func TestEachOrderOfFourBlobs(t *testing.T) {
	right := 0
	eachShortText("0123", 4, func(order string) {
		var s impl.Store
		for _, at := range order {
			s.Blobs = append(s.Blobs, "blob "+string(at))
		}
		got := impl.StoreRight(s)
		if got != plainStore(s) {
			t.Errorf("the order %s: StoreRight is %t", order, got)
		}
		if got {
			right++
		}
	})
	if right < 15 {
		t.Errorf("%d orders are right", right)
	}
}

func wantStorePut(t *testing.T, what string, s impl.Store, blob string, code int64) impl.Store {
	t.Helper()
	got := impl.StorePut(s, blob)
	if want := plainStorePut(s, blob); told(got) != told(want) || got.Code != code {
		t.Errorf("%s: StorePut of %s: got Code %d, want %d: %s, want %s", what, show(blob), got.Code, code, show(told(got)), show(told(want)))
	}
	if got.Code != impl.OK {
		if len(got.Store.Blobs) > 0 || got.Blob != "" {
			t.Errorf("%s: StorePut refuses, and tells %s", what, show(told(got)))
		}
		return got.Store
	}
	wantAllGot(t, what, got.Store, append(slices.Clone(s.Blobs), blob))
	if got.Blob != "" || !impl.StoreRight(got.Store) {
		t.Errorf("%s: StorePut tells a Blob, or a Store that is not right: %s", what, show(told(got)))
	}
	return got.Store
}

// wantAllGot is promise 15, of what was put.
func wantAllGot(t *testing.T, what string, s impl.Store, blobs []string) {
	t.Helper()
	for _, blob := range blobs {
		if got := impl.StoreGet(s, impl.Digest(blob)); got.Code != impl.OK || got.Blob != blob {
			t.Errorf("%s: put %s, got %s", what, show(blob), show(told(got)))
		}
	}
}

func wantStoreGet(t *testing.T, what string, s impl.Store, image string, code int64) {
	t.Helper()
	got := impl.StoreGet(s, image)
	if want := plainStoreGet(s, image); told(got) != told(want) || got.Code != code {
		t.Errorf("%s: StoreGet of %s: got %s, want Code %d, %s", what, show(image), show(told(got)), code, show(told(want)))
	}
}

func wantStoreSweep(t *testing.T, what string, s impl.Store, images []string, code int64) impl.Store {
	t.Helper()
	got := impl.StoreSweep(s, images)
	if want := plainStoreSweep(s, images); told(got) != told(want) || got.Code != code {
		t.Errorf("%s: StoreSweep: got %s, want Code %d, %s", what, show(told(got)), code, show(told(want)))
	}
	if got.Code == impl.OK {
		wantSwept(t, what, s, got.Store, images)
	}
	return got.Store
}

// wantSwept is promise 15, of what is swept out, and of what stays.
func wantSwept(t *testing.T, what string, ahead impl.Store, behind impl.Store, images []string) {
	t.Helper()
	if !impl.StoreRight(behind) {
		t.Errorf("%s: what is left is not right", what)
	}
	for _, blob := range ahead.Blobs {
		want := int64(impl.ErrNone)
		if plainAsked(ahead, images, sumOf(blob)) {
			want = impl.OK
		}
		if got := impl.StoreGet(behind, sumOf(blob)).Code; got != want {
			t.Errorf("%s: behind it StoreGet of %s tells Code %d, want %d", what, show(blob), got, want)
		}
	}
	for _, blob := range behind.Blobs {
		if !slices.Contains(ahead.Blobs, blob) {
			t.Errorf("%s: %s was not there", what, show(blob))
		}
	}
}

// wantLeft sweeps, and asks for just these blobs.
func wantLeft(t *testing.T, what string, s impl.Store, images []string, left ...string) {
	t.Helper()
	got := wantStoreSweep(t, what, s, images, impl.OK)
	if !slices.Equal(got.Blobs, storeOf(left...).Blobs) {
		t.Errorf("%s: %d blobs are left, want %d: %s", what, len(got.Blobs), len(left), show(told(got)))
	}
}

func wantMaterialize(t *testing.T, what string, s impl.Store, image string, code int64) {
	t.Helper()
	got := impl.Materialize(s, image)
	if want := plainMaterialize(s, image); told(got) != told(want) || got.Code != code {
		t.Errorf("%s: Materialize of %s: got %s, want Code %d, %s", what, show(image), show(told(got)), code, show(told(want)))
	}
	if got.Code != impl.OK {
		if !isNone(got.Manifest) || len(got.Layers) > 0 {
			t.Errorf("%s: Materialize refuses, and tells %s", what, show(told(got)))
		}
		return
	}
	wantNamed(t, what, got, image)
}

// wantNamed is promise 15, of what is materialized.
func wantNamed(t *testing.T, what string, got impl.ImageOut, image string) {
	t.Helper()
	if impl.Digest(impl.ManifestBytes(got.Manifest)) != image || len(got.Layers) != len(got.Manifest.Layers) {
		t.Errorf("%s: %d Layers, or another image: %s", what, len(got.Layers), show(told(got)))
		return
	}
	for i, blob := range got.Layers {
		if named := got.Manifest.Layers[i]; impl.Digest(blob) != named.Blob || int64(len(blob)) != named.Size {
			t.Errorf("%s: Layer %d is %s, named is %s", what, i, show(blob), told(named))
		}
	}
}

func TestKnownStores(t *testing.T) {
	// The digest of abc begins with ba, that of the empty text with e3.
	s := impl.StorePut(impl.StorePut(impl.Store{}, "").Store, "abc").Store
	if !slices.Equal(s.Blobs, []string{"abc", ""}) {
		t.Errorf("abc, and the empty blob: got %q", s.Blobs)
	}
	abc := "\xba\x78\x16\xbf\x8f\x01\xcf\xea\x41\x41\x40\xde\x5d\xae\x22\x23\xb0\x03\x61\xa3\x96\x17\x7a\x9c\xb4\x10\xff\x61\xf2\x00\x15\xad"
	if got := impl.StoreGet(s, abc); got.Blob != "abc" || got.Code != impl.OK || len(got.Store.Blobs) != 0 {
		t.Errorf("StoreGet of the digest of abc: got %s", told(got))
	}
	text := "I\x06app\x04" + abc + "\x06" + abc + "\x06\x00"
	s = impl.StorePut(s, text).Store
	got := impl.Materialize(s, sumOf(text))
	layer := impl.Layer{Blob: abc, Size: 3}
	want := impl.ImageOut{Manifest: impl.Manifest{Name: "app", Layers: []impl.Layer{layer, layer}}, Layers: []string{"abc", "abc"}}
	if told(got) != told(want) {
		t.Errorf("Materialize: got %s, want %s", told(got), told(want))
	}
	wantLeft(t, "the image", s, []string{sumOf(text)}, "abc", text)
	wantLeft(t, "its layer", s, []string{abc}, "abc")
	wantMaterialize(t, "an image without its layer", impl.StoreSweep(s, []string{sumOf("")}).Store, sumOf(text), impl.ErrNone)
	wantMaterialize(t, "what is no Manifest", s, abc, impl.ErrSyntax)
}

// storeAttempt is a call that asks a Store; each call takes of it what it needs.
type storeAttempt struct {
	store  impl.Store
	text   string
	images []string
}

type storeFault struct {
	name string
	code int64
	make func(*storeAttempt)
}

// wantStoreFaults takes each fault alone, and each two, of which the one is told that is named first.
func wantStoreFaults(t *testing.T, first func() storeAttempt, faults []storeFault, want func(what string, a storeAttempt, code int64)) {
	t.Helper()
	want("no fault", first(), impl.OK)
	for i, f := range faults {
		a := first()
		f.make(&a)
		want(f.name, a, f.code)
		for _, second := range faults[i+1:] {
			a := first()
			// What is named last is made first, so that both are there.
			second.make(&a)
			f.make(&a)
			want(f.name+", and "+second.name, a, f.code)
		}
	}
}

func tooLongText(a *storeAttempt) {
	a.text = mixed(impl.MaxBytes + 1)
}

// fallingStore turns the order of the blobs round.
func fallingStore(a *storeAttempt) {
	blobs := slices.Clone(a.store.Blobs)
	slices.Reverse(blobs)
	a.store.Blobs = blobs
}

func longBlobInStore(a *storeAttempt) {
	a.store = storeOf(append(slices.Clone(a.store.Blobs), mixed(3001))...)
}

func TestFaultsOfStorePut(t *testing.T) {
	wantStoreFaults(t, func() storeAttempt { return storeAttempt{store: storeOf("a", "b", "c"), text: "d"} }, []storeFault{
		{"a text that is too long", impl.ErrSize, tooLongText},
		{"a Store that falls", impl.ErrForm, fallingStore},
		{"a Store with a blob that is too long", impl.ErrForm, longBlobInStore},
		{"a blob that is too long", impl.ErrForm, func(a *storeAttempt) { a.text = mixed(3001) }},
		{"a full Store", impl.ErrFull, func(a *storeAttempt) { a.store = storeOf(someBlobs(60)...) }},
	}, func(what string, a storeAttempt, code int64) {
		t.Helper()
		wantStorePut(t, what, a.store, a.text, code)
	})
}

func TestFaultsOfStoreGet(t *testing.T) {
	wantStoreFaults(t, func() storeAttempt { return storeAttempt{store: storeOf("a", "b", "c"), text: sumOf("b")} }, []storeFault{
		{"a text that is too long", impl.ErrSize, tooLongText},
		{"a Store that falls", impl.ErrForm, fallingStore},
		{"a Store with a blob that is too long", impl.ErrForm, longBlobInStore},
		{"no such Blob", impl.ErrNone, func(a *storeAttempt) { a.text = sumOf("d") }},
	}, func(what string, a storeAttempt, code int64) {
		t.Helper()
		wantStoreGet(t, what, a.store, a.text, code)
	})
}

func TestFaultsOfStoreSweep(t *testing.T) {
	wantStoreFaults(t, func() storeAttempt { return storeAttempt{store: storeOf("a", "b", "c"), images: []string{sumOf("b")}} }, []storeFault{
		{"too many images", impl.ErrSize, func(a *storeAttempt) { a.images = slices.Repeat([]string{sumOf("b")}, impl.MaxList+1) }},
		{"a Store that falls", impl.ErrForm, fallingStore},
		{"a Store with a blob that is too long", impl.ErrForm, longBlobInStore},
	}, func(what string, a storeAttempt, code int64) {
		t.Helper()
		wantStoreSweep(t, what, a.store, a.images, code)
	})
}

// Materialize is asked for an image of three Layers, each of which may have a fault.
func TestFaultsOfMaterialize(t *testing.T) {
	ask := func(change func(*impl.Manifest)) func(*storeAttempt) {
		return func(a *storeAttempt) {
			blob, _ := plainBlob(a.store, a.text)
			m, _ := manifests().plainRead(blob)
			change(&m)
			others := slices.DeleteFunc(slices.Clone(a.store.Blobs), func(b string) bool { return b == blob })
			text := manifests().plainBytes(m)
			a.store, a.text = storeOf(append(others, text)...), sumOf(text)
		}
	}
	first := func() storeAttempt {
		text := imageOf("app", "one", "two", "three")
		return storeAttempt{store: storeOf(text, "one", "two", "three"), text: sumOf(text)}
	}
	want := func(what string, a storeAttempt, code int64) {
		t.Helper()
		wantMaterialize(t, what, a.store, a.text, code)
	}
	lost := func(at int) func(*storeAttempt) {
		return ask(func(m *impl.Manifest) { m.Layers[at].Blob = image(at) })
	}
	wrongSize := func(at int) func(*storeAttempt) {
		return ask(func(m *impl.Manifest) { m.Layers[at].Size++ })
	}
	ahead := []storeFault{
		{"a text that is too long", impl.ErrSize, tooLongText},
		{"a Store that falls", impl.ErrForm, fallingStore},
		{"a Store with a blob that is too long", impl.ErrForm, longBlobInStore},
	}
	behind := []storeFault{
		{"its first Layer is none", impl.ErrNone, lost(0)},
		{"its first Layer has not its Size", impl.ErrSum, wrongSize(0)},
		{"its second Layer is none", impl.ErrNone, lost(1)},
		{"its second Layer has not its Size", impl.ErrSum, wrongSize(1)},
		{"its third Layer is none", impl.ErrNone, lost(2)},
		{"its third Layer has not its Size", impl.ErrSum, wrongSize(2)},
	}
	wantStoreFaults(t, first, append(slices.Clone(ahead), behind...), want)
	wantStoreFaults(t, first, append(slices.Clone(ahead), storeFault{"no such image", impl.ErrNone, func(a *storeAttempt) { a.text = image(1) }}), want)
	// A Layer that has a fault is no Layer, when what names it is no Manifest's bytes: a byte stands behind these.
	spoil := func(a *storeAttempt) {
		blob, _ := plainBlob(a.store, a.text)
		a.store, a.text = storeOf(append(slices.Clone(a.store.Blobs), blob+"\x00")...), sumOf(blob+"\x00")
	}
	wantStoreFaults(t, first, append(slices.Clone(ahead), storeFault{"no Manifest's bytes", impl.ErrSyntax, spoil}), want)
	for _, f := range behind {
		a := first()
		f.make(&a)
		spoil(&a)
		want("no Manifest's bytes, and "+f.name, a, impl.ErrSyntax)
	}
}

func TestFaultsOfAStoreThatIsNotRight(t *testing.T) {
	many := slices.Repeat([]string{sumOf("a")}, impl.MaxList+1)
	long := mixed(impl.MaxBytes + 1)
	for what, s := range wrongStores() {
		for _, blob := range append([]string{"", "new", mixed(3000), mixed(3001), mixed(impl.MaxBytes)}, s.Blobs[0][:min(3000, len(s.Blobs[0]))]) {
			wantStorePut(t, what, s, blob, impl.ErrForm)
		}
		for _, image := range []string{"", sumOf("a"), sumOf("none"), sumOf(s.Blobs[0]), mixed(impl.MaxBytes)} {
			wantStoreGet(t, what, s, image, impl.ErrForm)
			wantMaterialize(t, what, s, image, impl.ErrForm)
			wantStoreSweep(t, what, s, []string{image}, impl.ErrForm)
		}
		wantStoreSweep(t, what, s, nil, impl.ErrForm)
		wantStoreSweep(t, what, s, many[1:], impl.ErrForm)
		wantStoreSweep(t, what, s, many, impl.ErrSize)
		wantStorePut(t, what, s, long, impl.ErrSize)
		wantStoreGet(t, what, s, long, impl.ErrSize)
		wantMaterialize(t, what, s, long, impl.ErrSize)
	}
}

// Promise 15: one by one, and each order, leads to one Store.
func TestWhatWasPutIsGot(t *testing.T) {
	var s impl.Store
	for i, blob := range someBlobs(60) {
		s = wantStorePut(t, fmt.Sprint("blob ", i), s, blob, impl.OK)
	}
	if !slices.Equal(s.Blobs, storeOf(someBlobs(60)...).Blobs) {
		t.Error("60 blobs that were put do not rise")
	}
	for i, blob := range someBlobs(60) {
		if again := wantStorePut(t, fmt.Sprint("blob ", i, " again, into a full Store"), s, blob, impl.OK); !slices.Equal(again.Blobs, s.Blobs) {
			t.Errorf("blob %d changes the Store that has it", i)
		}
	}
	for _, blob := range []string{"", "one more", mixed(3000), sumOf(s.Blobs[0])} {
		wantStorePut(t, "one more, into a full Store", s, blob, impl.ErrFull)
	}
	wantStorePut(t, "too long, into a full Store", s, mixed(3001), impl.ErrForm)
	wantStorePut(t, "far too long, into a full Store", s, mixed(impl.MaxBytes+1), impl.ErrSize)
	for from := range 8 {
		var turnedRound impl.Store
		for i := range 8 {
			turnedRound = impl.StorePut(turnedRound, someBlobs(8)[(5*i+from)%8]).Store
		}
		if !slices.Equal(turnedRound.Blobs, storeOf(someBlobs(8)...).Blobs) {
			t.Errorf("from blob %d on, in another order, another Store", from)
		}
	}
}

func TestStorePutIntoEachStore(t *testing.T) {
	long := mixed(impl.MaxBytes + 1)
	for what, s := range rightStores() {
		for _, blob := range []string{"", "a", "new", "\x00", "I", long[:2999], long[:3000]} {
			_, there := plainBlob(s, sumOf(blob))
			want := int64(impl.OK)
			if !there && len(s.Blobs) == 60 {
				want = impl.ErrFull
			}
			wantStorePut(t, what, s, blob, want)
		}
		for _, blob := range s.Blobs {
			if again := wantStorePut(t, what+", again", s, blob, impl.OK); !slices.Equal(again.Blobs, s.Blobs) {
				t.Errorf("%s: what is there already changes it", what)
			}
		}
		for _, size := range []int{3001, 3002, 4000, impl.MaxBytes - 1, impl.MaxBytes} {
			wantStorePut(t, what+", too long", s, long[:size], impl.ErrForm)
		}
		wantStorePut(t, what+", far too long", s, long, impl.ErrSize)
		wantStorePut(t, what+", far too long", s, long+long, impl.ErrSize)
	}
}

// blobEnding has a digest that ends with that byte.
func blobEnding(end byte) string {
	for i := 0; ; i++ {
		blob := "ending " + strconv.Itoa(i)
		if sumOf(blob)[31] == end {
			return blob
		}
	}
}

func TestStoreGetOfEachDigest(t *testing.T) {
	ends := storeOf(blobEnding(0), blobEnding(1), blobEnding(255), "")
	for what, s := range map[string]impl.Store{"some ends": ends, "full": storeOf(someBlobs(60)...), "empty": {}} {
		for _, blob := range s.Blobs {
			digest := sumOf(blob)
			wantStoreGet(t, what, s, digest, impl.OK)
			for _, other := range []string{digest[:31], digest[1:], digest + "\x00", "\x00" + digest, digest[:31] + "\x00\x00", digest + digest, blob, impl.Hex(digest), turned(digest, 0), turned(digest, 255)} {
				wantStoreGet(t, what+", another digest", s, other, impl.ErrNone)
				wantMaterialize(t, what+", another digest", s, other, impl.ErrNone)
			}
		}
		for _, size := range []int{0, 1, 31, 32, 33, 64, 3001, impl.MaxBytes} {
			wantStoreGet(t, what, s, mixed(size), impl.ErrNone)
			wantStoreGet(t, what, s, strings.Repeat("\x00", size), impl.ErrNone)
			wantMaterialize(t, what, s, mixed(size), impl.ErrNone)
		}
		for _, size := range []int{impl.MaxBytes + 1, impl.MaxBytes + 2, 2 * impl.MaxBytes} {
			wantStoreGet(t, what, s, mixed(size), impl.ErrSize)
			wantMaterialize(t, what, s, mixed(size), impl.ErrSize)
		}
	}
}

func TestMaterialize(t *testing.T) {
	blobs := append(someBlobs(9), mixed(3000))
	for count := range 11 {
		text := imageOf("app", blobs[:count]...)
		s := storeOf(append(slices.Clone(blobs[:count]), text)...)
		wantMaterialize(t, fmt.Sprint(count, " Layers"), s, sumOf(text), impl.OK)
		for at := range count {
			less := impl.Store{Blobs: leftOut(s.Blobs, blobs[at])}
			wantMaterialize(t, fmt.Sprint(count, " Layers, without ", at), less, sumOf(text), impl.ErrNone)
			back := impl.StorePut(less, blobs[at]).Store
			wantMaterialize(t, fmt.Sprint(count, " Layers, ", at, " put back"), back, sumOf(text), impl.OK)
		}
		wantMaterialize(t, "without the image", impl.Store{Blobs: leftOut(s.Blobs, text)}, sumOf(text), impl.ErrNone)
	}
	labelled := manifests().plainBytes(impl.Manifest{Name: "app", Layers: layersOf("", "data", ""), Labels: manyLabels(10)})
	wantMaterialize(t, "an empty layer, twice", storeOf(labelled, "", "data"), sumOf(labelled), impl.OK)
	ten := imageOf("app", slices.Repeat([]string{"data"}, 10)...)
	wantMaterialize(t, "one layer ten times", storeOf(ten, "data"), sumOf(ten), impl.OK)
	outer := imageOf("outer", ten, "data")
	wantMaterialize(t, "an image as a layer", storeOf(outer, ten, "data"), sumOf(outer), impl.OK)
	wantMaterialize(t, "an image whose layer lacks a layer", storeOf(imageOf("outer", ten), ten), sumOf(imageOf("outer", ten)), impl.OK)
}

func TestSizesOfLayers(t *testing.T) {
	for _, size := range []int{0, 1, 2, 63, 64, 2999, 3000} {
		blob := mixed(size)
		for _, named := range []int64{0, 1, 2, 3, 62, 63, 64, 65, 2998, 2999, 3000} {
			text := manifests().plainBytes(impl.Manifest{Name: "app", Layers: []impl.Layer{{Blob: sumOf(blob), Size: named}}})
			want := int64(impl.ErrSum)
			if named == int64(size) {
				want = impl.OK
			}
			wantMaterialize(t, fmt.Sprint(size, " bytes, named as ", named), storeOf(text, blob), sumOf(text), want)
		}
	}
	// One blob under two Sizes: the one that is wrong is told, wherever it stands.
	for at := range 3 {
		m := impl.Manifest{Name: "app", Layers: layersOf("data", "data", "data")}
		m.Layers[at].Size = 5
		text := manifests().plainBytes(m)
		wantMaterialize(t, fmt.Sprint("the wrong Size at ", at), storeOf(text, "data"), sumOf(text), impl.ErrSum)
	}
}

// Each choice of what three Layers may be: the first one that is not as named is told.
func TestEachThreeLayers(t *testing.T) {
	eachShortText("012", 3, func(kinds string) {
		m := impl.Manifest{Name: "app", Labels: manyLabels(2)}
		want := int64(impl.OK)
		for i, kind := range kinds {
			l := layersOf("blob " + strconv.Itoa(i))[0]
			switch kind {
			case '1':
				l.Blob = image(i)
			case '2':
				l.Size--
			}
			if codes := []int64{impl.OK, impl.ErrNone, impl.ErrSum}; want == impl.OK {
				want = codes[kind-'0']
			}
			m.Layers = append(m.Layers, l)
		}
		text := manifests().plainBytes(m)
		wantMaterialize(t, "the kinds "+kinds, storeOf(text, "blob 0", "blob 1", "blob 2"), sumOf(text), want)
	})
}

func TestImagesThatAreNoManifest(t *testing.T) {
	right := imageOf("app", "data")
	texts := []string{"", "I", "data", right + "\x00", right[:len(right)-1], "i" + right[1:], right + right, right[1:], impl.HeadBytes(fullTrust().Head), mixed(3000)}
	for what, m := range wrongManifests() {
		if text := manifests().plainBytes(m); len(text) <= 3000 {
			if _, code := manifests().plainRead(text); code != impl.OK {
				wantMaterialize(t, what, storeOf(text, "data"), sumOf(text), impl.ErrSyntax)
			}
		}
	}
	for _, text := range texts {
		s := storeOf(text, right, "other")
		wantMaterialize(t, "no Manifest", s, sumOf(text), impl.ErrSyntax)
		wantLeft(t, "no Manifest", s, []string{sumOf(text)}, text)
	}
}

// Promise 15: each choice of what stands in a Store and is asked for.
func TestStoreSweep(t *testing.T) {
	one, two := imageOf("one", "a", "b"), imageOf("two", "b", "c")
	outer := imageOf("outer", one, "d")
	all := []string{"a", "b", "c", "d", "e", one, two, outer}
	s := storeOf(all...)
	for bits := range 1 << len(all) {
		var asked []string
		for i, blob := range all {
			if bits>>i&1 == 1 {
				asked = append(asked, sumOf(blob))
			}
		}
		wantStoreSweep(t, fmt.Sprint("the choice ", bits), s, asked, impl.OK)
	}
	none := []string{"", "a", one, image(1), sumOf("a")[:31], sumOf("a") + "\x00", mixed(31), mixed(33), mixed(impl.MaxBytes), mixed(impl.MaxBytes + 1)}
	for _, c := range []struct {
		what   string
		images []string
		left   []string
	}{
		{"no image", nil, nil},
		{"an empty list", []string{}, nil},
		{"images that are in no Store", none, nil},
		{"a blob", []string{sumOf("e")}, []string{"e"}},
		{"an image", []string{sumOf(one)}, []string{one, "a", "b"}},
		{"the same image twice", []string{sumOf(one), sumOf(one)}, []string{one, "a", "b"}},
		{"two images of one layer", []string{sumOf(one), sumOf(two)}, []string{one, two, "a", "b", "c"}},
		{"the other way round", []string{sumOf(two), sumOf(one)}, []string{one, two, "a", "b", "c"}},
		{"an image, and its layer", []string{sumOf(two), sumOf("c")}, []string{two, "b", "c"}},
		{"an image that has an image as its layer", []string{sumOf(outer)}, []string{outer, one, "d"}},
		{"both of these", []string{sumOf(one), sumOf(outer)}, []string{outer, one, "a", "b", "d"}},
		{"an image among others that are not there", append(slices.Clone(none), sumOf(two)), []string{two, "b", "c"}},
		{"MaxList images", slices.Repeat([]string{sumOf(two)}, impl.MaxList), []string{two, "b", "c"}},
		{"the last of MaxList", append(slices.Repeat([]string{image(1)}, impl.MaxList-1), sumOf(two)), []string{two, "b", "c"}},
		{"all of them", digestsOf(all), all},
	} {
		wantLeft(t, c.what, s, c.images, c.left...)
	}
	for _, count := range []int{impl.MaxList + 1, impl.MaxList + 2, 2000} {
		wantStoreSweep(t, "too many images", s, slices.Repeat([]string{sumOf(two)}, count), impl.ErrSize)
		wantStoreSweep(t, "too many images of nothing", impl.Store{}, make([]string, count), impl.ErrSize)
	}
}

// A Layer is asked for by its digest: whether it is there, and what Size is named, says nothing.
func TestSweepsOfImagesThatLackLayers(t *testing.T) {
	m := impl.Manifest{Name: "app", Layers: layersOf("a", "lost", "b")}
	m.Layers[0].Size, m.Layers[2].Size = 3000, 0
	text := manifests().plainBytes(m)
	s := storeOf(text, "a", "b", "c")
	wantLeft(t, "a layer is lost, two have not their Sizes", s, []string{sumOf(text)}, text, "a", "b")
	wantLeft(t, "the image is lost", storeOf("a", "b", "c"), []string{sumOf(text)})
	for what, wrong := range wrongManifests() {
		if text := manifests().plainBytes(wrong); len(text) <= 3000 {
			wantStoreSweep(t, what, storeOf(append(someBlobs(12), text, "data")...), []string{sumOf(text)}, impl.OK)
		}
	}
	ends := storeOf(blobEnding(0), blobEnding(1))
	for _, blob := range ends.Blobs {
		wantLeft(t, "a digest cut short", ends, []string{sumOf(blob)[:31]})
		wantLeft(t, "a digest", ends, []string{sumOf(blob)}, blob)
	}
}

func TestSweepsOfEachStore(t *testing.T) {
	for what, s := range rightStores() {
		wantLeft(t, what+", of all", s, nil)
		wantLeft(t, what+", of none", s, digestsOf(s.Blobs), s.Blobs...)
		wantLeft(t, what+", the other way round", s, reversedTexts(digestsOf(s.Blobs)), s.Blobs...)
		for i, blob := range s.Blobs {
			wantStoreSweep(t, fmt.Sprint(what, ", but blob ", i), s, []string{sumOf(blob)}, impl.OK)
		}
	}
}

// A full Store takes one more, when something is swept out.
func TestAFullStoreIsSwept(t *testing.T) {
	s := storeOf(someBlobs(60)...)
	wantStorePut(t, "full", s, "new", impl.ErrFull)
	s = wantStoreSweep(t, "but one", s, digestsOf(s.Blobs[1:]), impl.OK)
	s = wantStorePut(t, "one is swept out", s, "new", impl.OK)
	wantStorePut(t, "full again", s, "newer", impl.ErrFull)
	text := imageOf("app", s.Blobs[:10]...)
	s = wantStoreSweep(t, "but one again", s, digestsOf(s.Blobs[:59]), impl.OK)
	s = wantStorePut(t, "an image", s, text, impl.OK)
	wantMaterialize(t, "of a full Store", s, sumOf(text), impl.OK)
	s = wantStoreSweep(t, "the image", s, []string{sumOf(text)}, impl.OK)
	wantMaterialize(t, "of what is left", s, sumOf(text), impl.OK)
	if len(s.Blobs) != 11 {
		t.Errorf("%d blobs are left of an image of 10 layers", len(s.Blobs))
	}
}

// Promise 15 along a way of many calls.
func TestAStoreAlongTheWay(t *testing.T) {
	x := int64(57721)
	next := func(most int) int {
		x = (x*48271 + 17) % 2147483647
		return int(x % int64(most))
	}
	codes := map[int64]int{}
	for range 6 {
		var s impl.Store
		known := []string{""}
		for step := range 250 {
			what := fmt.Sprint("step ", step)
			pick := func() string { return known[next(len(known))] }
			switch next(12) {
			case 0:
				s = wantStoreSweep(t, what, s, digestsOf([]string{pick(), pick(), pick(), pick()}), impl.OK)
			case 1, 2, 3:
				known = append(known, imageOf("app", pick(), pick()))
			default:
				known = append(known, mixed(next(90))+strconv.Itoa(next(50)))
			}
			blob := pick()
			want := plainStorePut(s, blob).Code
			if after := wantStorePut(t, what, s, blob, want); want == impl.OK {
				s = after
			}
			asked := sumOf(pick())
			code := plainMaterialize(s, asked).Code
			wantMaterialize(t, what, s, asked, code)
			codes[code]++
			wantStoreGet(t, what, s, asked, plainStoreGet(s, asked).Code)
		}
	}
	for _, code := range []int64{impl.OK, impl.ErrNone, impl.ErrSyntax} {
		if codes[code] < 10 {
			t.Errorf("Materialize tells Code %d only %d times", code, codes[code])
		}
	}
}

func digestsOf(blobs []string) []string {
	var out []string
	for _, blob := range blobs {
		out = append(out, sumOf(blob))
	}
	return out
}

func leftOut(list []string, one string) []string {
	return slices.DeleteFunc(slices.Clone(list), func(other string) bool { return other == one })
}

func reversedTexts(list []string) []string {
	out := slices.Clone(list)
	slices.Reverse(out)
	return out
}

// roomyManifest has place behind its lists, and tells whether that was written into.
func roomyManifest(m impl.Manifest) impl.Manifest {
	m.Layers = append(slices.Clone(m.Layers), impl.Layer{Size: 77})[:len(m.Layers)]
	m.Labels = append(slices.Clone(m.Labels), impl.Label{Key: "kept"})[:len(m.Labels)]
	return m
}

func TestImagesChangeNothingThatIsHandedIn(t *testing.T) {
	for _, m := range append([]impl.Manifest{{}, manifestWith(func(m *impl.Manifest) { m.Labels[1] = m.Labels[0] })}, rightManifests()...) {
		r := roomyManifest(m)
		impl.ManifestRight(r)
		impl.ManifestBytes(r)
		layers, labels := len(r.Layers), len(r.Labels)
		if told(r) != told(m) || r.Layers[:layers+1][layers].Size != 77 || r.Labels[:labels+1][labels].Key != "kept" {
			t.Errorf("a Manifest is changed: %s", told(r))
		}
	}
	stores := rightStores()
	for what, s := range wrongStores() {
		stores[what] = s
	}
	for what, s := range stores {
		blobs := roomy(s.Blobs)
		mine := impl.Store{Blobs: blobs}
		images := roomy(append(digestsOf(blobs), image(1), "", sumOf("")))
		wanted := slices.Clone(images)
		impl.StoreRight(mine)
		impl.StorePut(mine, "new")
		impl.StorePut(mine, "")
		impl.StoreSweep(mine, images)
		impl.StoreSweep(mine, images[:1])
		for _, image := range images[:min(3, len(images))] {
			impl.StoreGet(mine, image)
			impl.Materialize(mine, image)
		}
		wantUnchanged(t, what, blobs, s.Blobs)
		wantUnchanged(t, what+", images", images, wanted)
	}
}

// wantTextsApart: no text of the answer lies in one that was handed in.
func wantTextsApart(t *testing.T, what string, answer []string, given []string) {
	t.Helper()
	for _, mine := range answer {
		for _, other := range given {
			if share(mine, other) {
				t.Errorf("%s: %s lies in %s, which was handed in", what, show(mine), show(other))
			}
		}
	}
}

func textsOfManifest(m impl.Manifest) []string {
	out := []string{m.Name}
	for _, l := range m.Layers {
		out = append(out, l.Blob)
	}
	for _, l := range m.Labels {
		out = append(out, l.Key, l.Value)
	}
	return out
}

// wantListsApart writes into one list, and asks whether the other one is as it was.
func wantListsApart(t *testing.T, what string, a []string, b []string) {
	t.Helper()
	was := told(b[:cap(b)])
	a = a[:cap(a)]
	for i := range a {
		a[i] = "written"
	}
	if len(a) == 0 || told(b[:cap(b)]) != was {
		t.Errorf("%s: two lists share memory", what)
	}
}

func TestManifestsAreNewMemory(t *testing.T) {
	m := impl.Manifest{Name: mixedName(30), Layers: layersOf("data", "more"), Labels: []impl.Label{{Key: mixedName(20), Value: mixedName(25)}}}
	text := impl.ManifestBytes(m)
	wantTextsApart(t, "ManifestBytes", []string{text}, textsOfManifest(m))
	a, b := impl.ManifestRead(text).Manifest, impl.ManifestRead(text).Manifest
	wantTextsApart(t, "ManifestRead", textsOfManifest(a), []string{text})
	if len(textsOfManifest(a)) != 5 {
		t.Fatalf("read is %s", told(a))
	}
	a.Layers[0].Size, a.Labels[0].Key = 77, "written"
	if told(b) != told(m) {
		t.Error("two answers share their lists")
	}
}

func TestStoresAreNewMemory(t *testing.T) {
	blob := mixed(500)
	text := imageOf("app", blob, "data")
	s := storeOf(text, blob, "data")
	full := storeOf(append(someBlobs(59), blob)...)
	given := append(slices.Clone(s.Blobs), blob)
	newBlob := mixed(501)
	for what, call := range map[string]func() []string{
		"StorePut":                     func() []string { return impl.StorePut(s, newBlob).Store.Blobs },
		"StorePut of what is there":    func() []string { return impl.StorePut(s, blob).Store.Blobs },
		"StorePut into a full Store":   func() []string { return impl.StorePut(full, blob).Store.Blobs },
		"StoreSweep of what is asked":  func() []string { return impl.StoreSweep(s, digestsOf(s.Blobs)).Store.Blobs },
		"StoreSweep of an image":       func() []string { return impl.StoreSweep(s, []string{sumOf(text)}).Store.Blobs },
		"the Layers that are told":     func() []string { return impl.Materialize(s, sumOf(text)).Layers },
		"StoreSweep of all but a blob": func() []string { return impl.StoreSweep(s, []string{sumOf(blob)}).Store.Blobs },
	} {
		wantTextsApart(t, what, call(), append(append(given, full.Blobs...), newBlob))
		wantListsApart(t, what, call(), s.Blobs)
		wantListsApart(t, what, call(), full.Blobs)
		wantListsApart(t, what+", twice", call(), call())
	}
	if got := impl.StoreGet(s, sumOf(blob)).Blob; got != blob || share(got, blob) || share(got, s.Blobs[0]) || share(got, s.Blobs[1]) || share(got, s.Blobs[2]) {
		t.Error("StoreGet hands out what was handed in")
	}
	wantTextsApart(t, "the Manifest that is told", textsOfManifest(impl.Materialize(s, sumOf(text)).Manifest), s.Blobs)
	image := sumOf(text)
	wantTextsApart(t, "Materialize and its image", textsOfManifest(impl.Materialize(s, image).Manifest), []string{image})
}

func TestImagesAreTheSameEachTime(t *testing.T) {
	s := storeOf(append(someBlobs(40), imageOf("app", someBlobs(10)...))...)
	image := sumOf(imageOf("app", someBlobs(10)...))
	for range 20 {
		wantBack(t, manifests(), "again", someManifest())
		wantNoRead(t, manifests(), "a wrong one between", "I\x02", impl.ErrSyntax)
		wantStorePut(t, "again", s, "new", impl.OK)
		wantStorePut(t, "too long, between", s, mixed(3001), impl.ErrForm)
		wantStoreGet(t, "again", s, image, impl.OK)
		wantStoreGet(t, "none between", s, sumOf("new"), impl.ErrNone)
		wantStoreSweep(t, "again", s, []string{image, sumOf("5")}, impl.OK)
		wantMaterialize(t, "again", s, image, impl.OK)
		wantMaterialize(t, "none between", impl.Store{}, image, impl.ErrNone)
	}
}

func TestImagesAskedForAtTheSameTime(t *testing.T) {
	const callers = 40
	text := imageOf("app", someBlobs(10)...)
	s := storeOf(append(someBlobs(30), text)...)
	images := []string{sumOf(text), sumOf("blob 13")}
	var put, got, swept [callers]impl.StoreOut
	var made [callers]impl.ImageOut
	var read [callers]impl.ManifestOut
	var all sync.WaitGroup
	for i := range callers {
		all.Go(func() {
			put[i] = impl.StorePut(s, "new "+strconv.Itoa(i%3))
			got[i] = impl.StoreGet(s, sumOf(s.Blobs[i%31]))
			swept[i] = impl.StoreSweep(s, images[:i%3])
			made[i] = impl.Materialize(s, sumOf(s.Blobs[i%31]))
			read[i] = impl.ManifestRead(text[:len(text)-i%2])
		})
	}
	all.Wait()
	for i := range callers {
		image := sumOf(s.Blobs[i%31])
		if told(put[i]) != told(plainStorePut(s, "new "+strconv.Itoa(i%3))) || told(got[i]) != told(plainStoreGet(s, image)) || told(swept[i]) != told(plainStoreSweep(s, images[:i%3])) {
			t.Errorf("caller %d: a Store tells something else", i)
		}
		m, code := manifests().plainRead(text[:len(text)-i%2])
		if told(made[i]) != told(plainMaterialize(s, image)) || told(read[i]) != told(impl.ManifestOut{Manifest: m, Code: code}) {
			t.Errorf("caller %d: an image tells something else", i)
		}
	}
}
