package tests

import (
	"encoding/binary"
	"fmt"
	"math"
	"slices"
	"strconv"
	"strings"
	"testing"

	"loop.example/g00279/impl"
)

// part is a piece of a thing's bytes: a number, or bytes as they are.
type part struct {
	number  bool
	n       int64
	asItIs  string
	whatFor string
}

func num(whatFor string, n int64) part {
	return part{number: true, n: n, whatFor: whatFor}
}

func raw(whatFor string, t string) part {
	return part{asItIs: t, whatFor: whatFor}
}

func (p part) bytes() string {
	if p.number {
		return plainPut(p.n)
	}
	return p.asItIs
}

func joined(parts []part) string {
	out := ""
	for _, p := range parts {
		out += p.bytes()
	}
	return out
}

// plainReader takes bytes from the front; it does not mind how a number is written.
type plainReader struct {
	rest  string
	short bool
}

func (r *plainReader) take(size int64) string {
	if size < 0 || size > int64(len(r.rest)) {
		r.rest, r.short = "", true
		return ""
	}
	out := r.rest[:size]
	r.rest = r.rest[size:]
	return out
}

func (r *plainReader) num() int64 {
	n, used := binary.Varint([]byte(r.rest[:min(11, len(r.rest))]))
	if used <= 0 {
		r.rest, r.short = "", true
		return 0
	}
	r.rest = r.rest[used:]
	return n
}

func (r *plainReader) text() string {
	return r.take(r.num())
}

// times goes on until nothing is left, so that a great count takes no long time.
func (r *plainReader) times(each func()) {
	for i := r.num(); i > 0 && !r.short; i-- {
		each()
	}
}

// meta is a kind of what chapter 7 tells: the program's own functions of it, and the chapter read once more.
type meta[T any] struct {
	name  string
	bytes func(T) string
	read  func(string) (T, int64)
	right func(T) bool
	parts func(T) []part
	parse func(*plainReader) T
}

func (m meta[T]) plainBytes(thing T) string {
	return joined(m.parts(thing))
}

// plainRead looks for the right thing that has just these bytes.
func (m meta[T]) plainRead(text string) (T, int64) {
	var none T
	if len(text) > impl.MaxBytes {
		return none, impl.ErrSize
	}
	r := &plainReader{rest: text}
	r.take(1)
	thing := m.parse(r)
	if r.short || !m.right(thing) || m.plainBytes(thing) != text {
		return none, impl.ErrSyntax
	}
	return thing, impl.OK
}

// told has all fields, texts in digits, and is the same of an empty list and of none.
func told(thing any) string {
	return fmt.Sprintf("%x", thing)
}

func wantRead[T any](t *testing.T, m meta[T], what string, text string, want T, code int64) {
	t.Helper()
	got, gotCode := m.read(text)
	if gotCode != code || told(got) != told(want) {
		t.Errorf("%s: reading a %s of %s: got %s Code %d, want %s Code %d", what, m.name, show(text), show(told(got)), gotCode, show(told(want)), code)
	}
}

func wantNoRead[T any](t *testing.T, m meta[T], what string, text string, code int64) {
	t.Helper()
	var none T
	wantRead(t, m, what, text, none, code)
}

// wantReadAsTold holds the program against the chapter, read once more, and what it reads against its bytes.
func wantReadAsTold[T any](t *testing.T, m meta[T], what string, text string) bool {
	t.Helper()
	thing, code := m.plainRead(text)
	wantRead(t, m, what, text, thing, code)
	if code == impl.OK && m.bytes(thing) != text {
		t.Errorf("%s: what is read of %s has the bytes %s", what, show(text), show(m.bytes(thing)))
	}
	return code == impl.OK
}

func wantBack[T any](t *testing.T, m meta[T], what string, thing T) {
	t.Helper()
	if !m.right(thing) {
		t.Fatalf("%s: no right %s: %s", what, m.name, show(told(thing)))
	}
	text := m.bytes(thing)
	if want := m.plainBytes(thing); text != want {
		t.Errorf("%s: the bytes of the %s are %s, want %s", what, m.name, show(text), show(want))
	}
	wantRead(t, m, what, text, thing, impl.OK)
}

// wantWrong: it has no bytes, and those that it would have are read as nothing, or as another one that has them.
func wantWrong[T any](t *testing.T, m meta[T], what string, thing T) {
	t.Helper()
	if m.right(thing) {
		t.Fatalf("%s: a right %s: %s", what, m.name, show(told(thing)))
	}
	if text := m.bytes(thing); text != "" {
		t.Errorf("%s: a wrong %s has the bytes %s", what, m.name, show(text))
	}
	wantReadAsTold(t, m, what, m.plainBytes(thing))
}

func plainVersion(n int64) bool {
	return n > 0 && n < 1000001
}

func plainTime(n int64) bool {
	return n > -1 && n < 1000000001
}

func plainRising[T any](list []T, less func(a T, b T) bool) bool {
	for i := 1; i < len(list); i++ {
		if !less(list[i-1], list[i]) {
			return false
		}
	}
	return true
}

func plainKey(y int64) bool {
	return 1 < y && y < impl.GroupP && isSquare(y)
}

func plainRole(r impl.Role) bool {
	for _, key := range r.Keys {
		if !plainKey(key) {
			return false
		}
	}
	rising := plainRising(r.Keys, func(a int64, b int64) bool { return a < b })
	return rising && 0 < len(r.Keys) && len(r.Keys) < 9 && 0 < r.Need && r.Need <= int64(len(r.Keys))
}

func plainName(t string) bool {
	rest := strings.Trim(t, "abcdefghijklmnopqrstuvwxyz0123456789-")
	return rest == "" && t != "" && len(t) < 41 && strings.Contains("abcdefghijklmnopqrstuvwxyz", t[:1])
}

func roots() meta[impl.Root] {
	return meta[impl.Root]{
		name:  "Root",
		bytes: impl.RootBytes,
		read: func(text string) (impl.Root, int64) {
			out := impl.RootRead(text)
			return out.Root, out.Code
		},
		right: func(r impl.Root) bool {
			return plainVersion(r.Version) && plainTime(r.Expires) && len(r.Roles) == 5 &&
				!slices.ContainsFunc(r.Roles, func(role impl.Role) bool { return !plainRole(role) })
		},
		parts: func(r impl.Root) []part {
			out := []part{raw("mark", "\x52"), num("Version", r.Version), num("Expires", r.Expires)}
			for _, role := range r.Roles {
				out = append(out, num("Need", role.Need), num("count", int64(len(role.Keys))))
				for _, key := range role.Keys {
					out = append(out, num("Key", key))
				}
			}
			return out
		},
		parse: func(p *plainReader) impl.Root {
			r := impl.Root{Version: p.num(), Expires: p.num()}
			for range 5 {
				role := impl.Role{Need: p.num()}
				p.times(func() { role.Keys = append(role.Keys, p.num()) })
				r.Roles = append(r.Roles, role)
			}
			return r
		},
	}
}

func allTargets() meta[impl.Targets] {
	return meta[impl.Targets]{
		name:  "Targets",
		bytes: impl.TargetsBytes,
		read: func(text string) (impl.Targets, int64) {
			out := impl.TargetsRead(text)
			return out.Targets, out.Code
		},
		right: func(x impl.Targets) bool {
			for _, one := range x.List {
				if !plainName(one.Name) || len(one.Image) != 32 || one.Size < 0 || one.Size > 1000000 {
					return false
				}
			}
			rising := plainRising(x.List, func(a impl.Target, b impl.Target) bool { return a.Name < b.Name })
			return rising && plainVersion(x.Version) && plainTime(x.Expires) && len(x.List) < 21
		},
		parts: func(x impl.Targets) []part {
			out := []part{raw("mark", "\x54"), num("Version", x.Version), num("Expires", x.Expires), num("count", int64(len(x.List)))}
			for _, one := range x.List {
				out = append(out, num("length of Name", int64(len(one.Name))), raw("Name", one.Name), raw("Image", one.Image), num("Size", one.Size))
			}
			return out
		},
		parse: func(p *plainReader) impl.Targets {
			x := impl.Targets{Version: p.num(), Expires: p.num()}
			p.times(func() {
				x.List = append(x.List, impl.Target{Name: p.text(), Image: p.take(32), Size: p.num()})
			})
			return x
		},
	}
}

func linksOf(kind int64) meta[impl.Link] {
	mark := map[int64]string{impl.RoleSnapshot: "\x50", impl.RoleTimestamp: "\x4d"}[kind]
	return meta[impl.Link]{
		name:  "Link of the kind " + strconv.FormatInt(kind, 10),
		bytes: func(l impl.Link) string { return impl.LinkBytes(kind, l) },
		read: func(text string) (impl.Link, int64) {
			out := impl.LinkRead(kind, text)
			return out.Link, out.Code
		},
		right: func(l impl.Link) bool {
			return mark != "" && plainVersion(l.Version) && plainVersion(l.Next) && plainTime(l.Expires)
		},
		parts: func(l impl.Link) []part {
			return []part{raw("mark", mark), num("Version", l.Version), num("Expires", l.Expires), num("Next", l.Next)}
		},
		parse: func(p *plainReader) impl.Link {
			return impl.Link{Version: p.num(), Expires: p.num(), Next: p.num()}
		},
	}
}

func plainSigRight(s impl.Sig) bool {
	return plainKey(s.Key) && -1 < s.E && s.E < impl.GroupQ && -1 < s.S && s.S < impl.GroupQ
}

func allSigned() meta[impl.Signed] {
	return meta[impl.Signed]{
		name:  "Signed",
		bytes: impl.SignedBytes,
		read: func(text string) (impl.Signed, int64) {
			out := impl.SignedRead(text)
			return out.Signed, out.Code
		},
		right: func(s impl.Signed) bool {
			return len(s.Body) < 8001 && len(s.Sigs) < 17 && !slices.ContainsFunc(s.Sigs, func(sig impl.Sig) bool { return !plainSigRight(sig) })
		},
		parts: func(s impl.Signed) []part {
			out := []part{raw("mark", "\x53"), num("length of Body", int64(len(s.Body))), raw("Body", s.Body), num("count", int64(len(s.Sigs)))}
			for _, sig := range s.Sigs {
				out = append(out, num("Key", sig.Key), num("E", sig.E), num("S", sig.S))
			}
			return out
		},
		parse: func(p *plainReader) impl.Signed {
			s := impl.Signed{Body: p.text()}
			p.times(func() { s.Sigs = append(s.Sigs, impl.Sig{Key: p.num(), E: p.num(), S: p.num()}) })
			return s
		},
	}
}

// leastKeys and greatestKeys are the first and the last ones of the group but 1, rising.
func leastKeys(count int) []int64 {
	var out []int64
	for y := int64(2); len(out) < count; y++ {
		if isSquare(y) {
			out = append(out, y)
		}
	}
	return out
}

func greatestKeys(count int) []int64 {
	var out []int64
	for y := int64(impl.GroupP - 1); len(out) < count; y-- {
		if isSquare(y) {
			out = append(out, y)
		}
	}
	slices.Reverse(out)
	return out
}

// mixedKeys have numbers of each length.
func mixedKeys(count int) []int64 {
	all := slices.Sorted(slices.Values(someOfTheGroup()))
	all = slices.Compact(all)
	var out []int64
	for i := range count {
		out = append(out, all[i*(len(all)-1)/max(1, count-1)])
	}
	return out
}

func rolesOf(need int64, keys func(int) []int64, count int) []impl.Role {
	var out []impl.Role
	for range 5 {
		out = append(out, impl.Role{Need: need, Keys: keys(count)})
	}
	return out
}

func leastRoot() impl.Root {
	return impl.Root{Version: 1, Expires: 0, Roles: rolesOf(1, leastKeys, 1)}
}

func greatestRoot() impl.Root {
	return impl.Root{Version: 1000000, Expires: impl.MaxTime, Roles: rolesOf(8, greatestKeys, 8)}
}

// someRoot has five unlike roles.
func someRoot() impl.Root {
	return impl.Root{Version: 7, Expires: 900, Roles: []impl.Role{
		{Need: 2, Keys: mixedKeys(3)}, {Need: 1, Keys: leastKeys(1)}, {Need: 2, Keys: greatestKeys(2)}, {Need: 1, Keys: mixedKeys(4)}, {Need: 3, Keys: leastKeys(3)},
	}}
}

func rightRoots() []impl.Root {
	out := []impl.Root{leastRoot(), greatestRoot(), someRoot()}
	for count := 1; count <= 8; count++ {
		for need := int64(1); need <= int64(count); need++ {
			out = append(out, impl.Root{Version: need, Expires: int64(count), Roles: rolesOf(need, mixedKeys, count)})
		}
	}
	for _, version := range someVersions() {
		out = append(out, rootWith(func(r *impl.Root) { r.Version = version }))
	}
	for _, time := range someTimes() {
		out = append(out, rootWith(func(r *impl.Root) { r.Expires = time }))
	}
	for at := range 5 {
		out = append(out, rootWith(func(r *impl.Root) { r.Roles[at] = impl.Role{Need: 8, Keys: greatestKeys(8)} }))
	}
	return out
}

func rootWith(change func(*impl.Root)) impl.Root {
	r := someRoot()
	change(&r)
	return r
}

func someVersions() []int64 {
	return []int64{1, 2, 63, 64, 65, 8191, 8192, 999999, 1000000}
}

func noVersions() []int64 {
	return []int64{0, -1, -2, -1000000, 1000001, 1000002, 1 << 31, 1 << 32, 1<<32 + 1, -1<<32 + 1, 1 << 62, math.MaxInt64, math.MinInt64, math.MinInt64 + 1}
}

func someTimes() []int64 {
	return []int64{0, 1, 63, 64, 1000000, 1000001, 999999999, 1000000000}
}

func noTimes() []int64 {
	return []int64{-1, -2, -64, -1000000000, 1000000001, 1000000002, 1 << 32, 1<<32 + 1, -1 << 32, 1 << 62, math.MaxInt64, math.MinInt64, math.MinInt64 + 1}
}

// noKeys are none of the group, or 1: 1 itself, what is no square, and squares that are too small or too great.
func noKeys() []int64 {
	return []int64{0, 1, 2, 2147483574, 2147483575, 2147483578, impl.GroupP, impl.GroupP + 1, impl.GroupP + 4, -1, -4, 4 - impl.GroupP, 1<<32 + 4, math.MaxInt64, math.MinInt64}
}

func wrongRoles() map[string]impl.Role {
	out := map[string]impl.Role{
		"the zero role":            {},
		"no keys, and one needed":  {Need: 1},
		"nine keys":                {Need: 1, Keys: mixedKeys(9)},
		"nine keys, all needed":    {Need: 9, Keys: leastKeys(9)},
		"too many keys":            {Need: 1, Keys: leastKeys(impl.MaxList + 1)},
		"one key twice":            {Need: 1, Keys: []int64{4, 4}},
		"one key twice at the end": {Need: 1, Keys: []int64{4, 16, 16}},
		"falling keys":             {Need: 1, Keys: []int64{16, 4}},
		"a key falls at the end":   {Need: 1, Keys: []int64{4, 64, 16}},
	}
	for count := range 9 {
		for _, need := range []int64{0, -1, int64(count) + 1, int64(count) + 2, 1 << 32, 1<<32 + 1, math.MaxInt64, math.MinInt64} {
			out[fmt.Sprint("Need ", need, " of ", count)] = impl.Role{Need: need, Keys: leastKeys(count)}
		}
	}
	for _, key := range noKeys() {
		out[fmt.Sprint("the key ", key)] = impl.Role{Need: 1, Keys: []int64{key}}
		among := append(leastKeys(3), key)
		slices.Sort(among)
		out[fmt.Sprint("among others the key ", key)] = impl.Role{Need: 1, Keys: among}
	}
	return out
}

func wrongRoots() map[string]impl.Root {
	out := map[string]impl.Root{
		"the zero Root": {},
		"no Roles":      rootWith(func(r *impl.Root) { r.Roles = nil }),
		"four Roles":    rootWith(func(r *impl.Root) { r.Roles = r.Roles[:4] }),
		"six Roles":     rootWith(func(r *impl.Root) { r.Roles = append(r.Roles, r.Roles[0]) }),
		"ten Roles":     rootWith(func(r *impl.Root) { r.Roles = append(r.Roles, r.Roles...) }),
		"MaxList Roles and one": rootWith(func(r *impl.Root) {
			r.Roles = slices.Repeat(r.Roles[:1], impl.MaxList+1)
		}),
	}
	for _, version := range noVersions() {
		out[fmt.Sprint("Version ", version)] = rootWith(func(r *impl.Root) { r.Version = version })
	}
	for _, time := range noTimes() {
		out[fmt.Sprint("Expires ", time)] = rootWith(func(r *impl.Root) { r.Expires = time })
	}
	for what, role := range wrongRoles() {
		for at := range 5 {
			out[fmt.Sprint("role ", at, ": ", what)] = rootWith(func(r *impl.Root) { r.Roles[at] = role })
		}
	}
	return out
}

// image is a made-up digest, with bytes of each sort.
func image(i int) string {
	return sumOf("image " + strconv.Itoa(i))
}

func manyTargets(count int) []impl.Target {
	var out []impl.Target
	for i := range count {
		out = append(out, impl.Target{Name: "image-" + string(rune('a'+i)), Image: image(i), Size: int64(i * i * 2500)})
	}
	return out
}

func leastTargets() impl.Targets {
	return impl.Targets{Version: 1}
}

// greatestTargets are as many, of names as long, and of as great numbers as may be.
func greatestTargets() impl.Targets {
	x := impl.Targets{Version: 1000000, Expires: impl.MaxTime}
	for i := range 20 {
		x.List = append(x.List, impl.Target{Name: strings.Repeat("z", 39) + string(rune('a'+i)), Image: strings.Repeat("\xff", 32), Size: 1000000})
	}
	return x
}

func someTargets() impl.Targets {
	return impl.Targets{Version: 3, Expires: 70, List: []impl.Target{
		{Name: "a", Image: image(1), Size: 0}, {Name: "a-", Image: image(2), Size: 64}, {Name: "a0", Image: image(1), Size: 1000000},
		{Name: "aa", Image: strings.Repeat("\x00", 32), Size: 1}, {Name: "b", Image: strings.Repeat("\x80", 32), Size: 8192},
	}}
}

func targetsWith(change func(*impl.Targets)) impl.Targets {
	x := someTargets()
	change(&x)
	return x
}

func rightTargets() []impl.Targets {
	out := []impl.Targets{leastTargets(), greatestTargets(), someTargets(), {Version: 1, List: []impl.Target{}}}
	for count := 0; count <= 20; count++ {
		out = append(out, impl.Targets{Version: 5, Expires: 6, List: manyTargets(count)})
	}
	for _, version := range someVersions() {
		out = append(out, targetsWith(func(x *impl.Targets) { x.Version = version }))
	}
	for _, time := range someTimes() {
		out = append(out, targetsWith(func(x *impl.Targets) { x.Expires = time }))
	}
	for at := range 5 {
		for _, size := range []int64{0, 1, 63, 64, 999999, 1000000} {
			out = append(out, targetsWith(func(x *impl.Targets) { x.List[at].Size = size }))
		}
	}
	for _, name := range []string{"b", "b0", "zz", "z-9", "z" + strings.Repeat("-", 39), strings.Repeat("q", 40), "not", "has"} {
		out = append(out, targetsWith(func(x *impl.Targets) { x.List[4].Name = name }))
	}
	return out
}

func noNames() []string {
	return []string{"", "A", "0", "-", "0a", "-a", "aB", "a_b", "a b", "a\x00", "a\xff", "\xc3\xa9", "a.b", "a=b", "`", "{", "a/", "a:", strings.Repeat("a", 41), strings.Repeat("a", 300), strings.Repeat("a", impl.MaxBytes+1)}
}

func wrongTargets() map[string]impl.Targets {
	out := map[string]impl.Targets{
		"the zero Targets": {},
		"21 of them":       targetsWith(func(x *impl.Targets) { x.List = manyTargets(21) }),
		"22 of them":       targetsWith(func(x *impl.Targets) { x.List = manyTargets(22) }),
		"MaxList and one":  targetsWith(func(x *impl.Targets) { x.List = slices.Repeat(x.List[:1], impl.MaxList+1) }),
		"one twice":        targetsWith(func(x *impl.Targets) { x.List[1] = x.List[0] }),
		"one name twice":   targetsWith(func(x *impl.Targets) { x.List[4].Name = "aa" }),
		"names that fall":  targetsWith(func(x *impl.Targets) { x.List[4].Name = "a9" }),
		"the first falls":  targetsWith(func(x *impl.Targets) { x.List[0].Name = "c" }),
		"two change place": targetsWith(func(x *impl.Targets) { x.List[2], x.List[3] = x.List[3], x.List[2] }),
		"one begins the one ahead": targetsWith(func(x *impl.Targets) {
			x.List[3].Name, x.List[4].Name = "ab", "a"
		}),
	}
	for _, version := range noVersions() {
		out[fmt.Sprint("Version ", version)] = targetsWith(func(x *impl.Targets) { x.Version = version })
	}
	for _, time := range noTimes() {
		out[fmt.Sprint("Expires ", time)] = targetsWith(func(x *impl.Targets) { x.Expires = time })
	}
	for at := range 5 {
		for _, name := range noNames() {
			out[fmt.Sprint("the name ", show(name), " at ", at)] = targetsWith(func(x *impl.Targets) { x.List[at].Name = name })
		}
		for _, size := range []int{0, 1, 20, 31, 33, 64, impl.MaxBytes + 1} {
			out[fmt.Sprint("an Image of ", size, " at ", at)] = targetsWith(func(x *impl.Targets) { x.List[at].Image = mixed(size) })
		}
		for _, size := range []int64{-1, -2, -1000000, 1000001, 1000002, 1 << 32, 1<<32 + 1, math.MaxInt64, math.MinInt64} {
			out[fmt.Sprint("the Size ", size, " at ", at)] = targetsWith(func(x *impl.Targets) { x.List[at].Size = size })
		}
	}
	return out
}

func linkKinds() []int64 {
	return []int64{impl.RoleSnapshot, impl.RoleTimestamp}
}

func noLinkKinds() []int64 {
	return []int64{-2, -1, impl.RoleRoot, impl.RoleTargets, impl.RoleLog, 5, 6, 77, 80, 1<<32 + 2, 1<<32 + 3, math.MaxInt64, math.MinInt64}
}

func rightLinks() []impl.Link {
	var out []impl.Link
	for _, version := range someVersions() {
		for _, time := range someTimes() {
			for _, next := range someVersions() {
				out = append(out, impl.Link{Version: version, Expires: time, Next: next})
			}
		}
	}
	return out
}

func wrongLinks() map[string]impl.Link {
	out := map[string]impl.Link{"the zero Link": {}}
	for _, n := range noVersions() {
		out[fmt.Sprint("Version ", n)] = impl.Link{Version: n, Expires: 50, Next: 3}
		out[fmt.Sprint("Next ", n)] = impl.Link{Version: 2, Expires: 50, Next: n}
	}
	for _, n := range noTimes() {
		out[fmt.Sprint("Expires ", n)] = impl.Link{Version: 2, Expires: n, Next: 3}
	}
	return out
}

func manySigs(count int) []impl.Sig {
	secrets := someSecrets()
	var out []impl.Sig
	for i := range count {
		out = append(out, plainSig(secrets[i%len(secrets)], "body"))
	}
	return out
}

// greatestSigned is as long as may be.
func greatestSigned() impl.Signed {
	s := impl.Signed{Body: mixed(8000)}
	for _, key := range append(greatestKeys(8), greatestKeys(8)...) {
		s.Sigs = append(s.Sigs, impl.Sig{Key: key, E: impl.GroupQ - 1, S: impl.GroupQ - 1})
	}
	return s
}

func someSigned() impl.Signed {
	return impl.Signed{Body: "body", Sigs: manySigs(3)}
}

func signedWith(change func(*impl.Signed)) impl.Signed {
	s := someSigned()
	change(&s)
	return s
}

func rightSigned() []impl.Signed {
	out := []impl.Signed{{}, {Sigs: []impl.Sig{}}, greatestSigned(), someSigned()}
	for count := 0; count <= 16; count++ {
		out = append(out, impl.Signed{Body: "body", Sigs: manySigs(count)})
	}
	for _, size := range []int{0, 1, 63, 64, 8191 - 192, 4095, 4096, 7999, 8000} {
		out = append(out, signedWith(func(s *impl.Signed) { s.Body = mixed(size) }))
	}
	for at := range 3 {
		for _, sig := range []impl.Sig{{Key: 4}, {Key: 3, E: impl.GroupQ - 1}, {Key: 2147483577, S: impl.GroupQ - 1}, {Key: 16, E: 1, S: 1}} {
			if plainSigRight(sig) {
				out = append(out, signedWith(func(s *impl.Signed) { s.Sigs[at] = sig }))
			}
		}
	}
	// What the keys stand for is asked by others: the same one may come twice, and need not pass.
	return append(out, impl.Signed{Body: "x", Sigs: slices.Repeat(manySigs(1), 16)})
}

func wrongSigs() map[string]impl.Sig {
	out := map[string]impl.Sig{"the zero Sig": {}}
	for _, key := range noKeys() {
		out[fmt.Sprint("Key ", key)] = impl.Sig{Key: key, E: 3, S: 5}
	}
	for _, n := range []int64{-1, impl.GroupQ, impl.GroupQ + 1, impl.GroupP, 1 << 32, math.MaxInt64, math.MinInt64} {
		out[fmt.Sprint("E ", n)] = impl.Sig{Key: 4, E: n, S: 5}
		out[fmt.Sprint("S ", n)] = impl.Sig{Key: 4, E: 3, S: n}
	}
	return out
}

func wrongSigned() map[string]impl.Signed {
	out := map[string]impl.Signed{
		"17 Sigs":                    signedWith(func(s *impl.Signed) { s.Sigs = manySigs(17) }),
		"18 Sigs":                    signedWith(func(s *impl.Signed) { s.Sigs = manySigs(18) }),
		"MaxList Sigs and one":       signedWith(func(s *impl.Signed) { s.Sigs = manySigs(impl.MaxList + 1) }),
		"a Body of 8001":             signedWith(func(s *impl.Signed) { s.Body = mixed(8001) }),
		"a Body of 8001, no Sigs":    {Body: mixed(8001)},
		"a Body of 8192":             signedWith(func(s *impl.Signed) { s.Body = mixed(8192) }),
		"a Body of MaxBytes":         signedWith(func(s *impl.Signed) { s.Body = mixed(impl.MaxBytes) }),
		"a Body of MaxBytes less 50": {Body: mixed(impl.MaxBytes - 50)},
		"a Body of MaxBytes and one": signedWith(func(s *impl.Signed) { s.Body = mixed(impl.MaxBytes + 1) }),
	}
	for what, sig := range wrongSigs() {
		for at := range 3 {
			out[fmt.Sprint(what, " at ", at)] = signedWith(func(s *impl.Signed) { s.Sigs[at] = sig })
		}
		out[fmt.Sprint(what, " behind 15")] = signedWith(func(s *impl.Signed) { s.Sigs = append(manySigs(15), sig) })
	}
	return out
}

func TestKnownMetaBytes(t *testing.T) {
	five := []impl.Role{{Need: 1, Keys: []int64{4}}, {Need: 1, Keys: []int64{16}}, {Need: 2, Keys: []int64{4, 64}}, {Need: 1, Keys: []int64{4, 16}}, {Need: 1, Keys: []int64{536870895}}}
	zeros := strings.Repeat("\x00", 32)
	for _, c := range []struct{ what, got, want string }{
		{"Root", impl.RootBytes(impl.Root{Version: 1, Expires: 900, Roles: five}),
			"R\x02\x88\x0e" + "\x02\x02\x08" + "\x02\x02\x20" + "\x04\x04\x08\x80\x01" + "\x02\x04\x08\x20" + "\x02\x02\xde\xff\xff\xff\x03"},
		{"Targets", impl.TargetsBytes(impl.Targets{Version: 1, Expires: 9, List: []impl.Target{{Name: "app", Image: zeros, Size: 4}, {Name: "b", Image: zeros, Size: 64}}}),
			"T\x02\x12\x04" + "\x06app" + zeros + "\x08" + "\x02b" + zeros + "\x80\x01"},
		{"no Targets", impl.TargetsBytes(impl.Targets{Version: 1000000, Expires: 1000000000}), "T\x80\x89\x7a" + "\x80\xa8\xd6\xb9\x07" + "\x00"},
		{"Timestamp", impl.LinkBytes(impl.RoleTimestamp, impl.Link{Version: 2, Expires: 50, Next: 3}), "M\x04d\x06"},
		{"Snapshot", impl.LinkBytes(impl.RoleSnapshot, impl.Link{Version: 1, Expires: 0, Next: 1000000}), "P\x02\x00\x80\x89\x7a"},
		{"nothing signed", impl.SignedBytes(impl.Signed{}), "S\x00\x00"},
		{"Signed", impl.SignedBytes(impl.Signed{Body: "hi", Sigs: []impl.Sig{{Key: 4, E: 0, S: 64}, {Key: 4, E: 1, S: 2}}}), "S\x04hi\x04" + "\x08\x00\x80\x01" + "\x08\x02\x04"},
	} {
		if c.got != c.want {
			t.Errorf("%s: got %q, want %q", c.what, c.got, c.want)
		}
	}
}

func TestKnownTextsThatAreNoMeta(t *testing.T) {
	five := strings.Repeat("\x02\x02\x08", 5)
	zeros := strings.Repeat("\x00", 32)
	wantRead(t, roots(), "five Roles of one key", "R\x02\x00"+five, impl.Root{Version: 1, Roles: slices.Repeat([]impl.Role{{Need: 1, Keys: []int64{4}}}, 5)}, impl.OK)
	for _, text := range []string{"R", "R\x02\x00", "R\x00\x00" + five, "R\x02\x01" + five, "R\x82\x00\x00" + five, "R\x02\x00" + five[3:], "R\x02\x00" + five + five[:3], "r\x02\x00" + five,
		"R\x02\x00\x02\x04\x08\x08" + five[3:], "R\x02\x00\x02\x04\x20\x08" + five[3:], "R\x02\x00\x02\x00" + five[3:], "R\x02\x00\x02\x01" + five[3:], "R\x02\x00\x04\x02\x08" + five[3:],
		"R\x02\x00\x00\x02\x08" + five[3:], "R\x02\x00\x02\x02\x02" + five[3:], "R\x02\x00\x02\x02\x04" + five[3:]} {
		wantNoRead(t, roots(), "no Root", text, impl.ErrSyntax)
	}
	one := impl.Targets{Version: 1, Expires: 9, List: []impl.Target{{Name: "app", Image: zeros, Size: 4}}}
	wantRead(t, allTargets(), "one Target", "T\x02\x12\x02\x06app"+zeros+"\x08", one, impl.OK)
	for _, text := range []string{"T", "T\x02\x12", "T\x02\x12\x02", "T\x02\x12\x02\x06app" + zeros[1:] + "\x08", "T\x02\x12\x02\x06app" + zeros + "\x00\x08", "T\x02\x12\x02\x06app\x40" + zeros + "\x08",
		"T\x02\x12\x00\x06app" + zeros + "\x08", "T\x02\x12\x04\x06app" + zeros + "\x08", "T\x02\x12\x01\x06app" + zeros + "\x08", "T\x02\x12\x02\x05app" + zeros + "\x08", "T\x02\x12\x02\x06App" + zeros + "\x08",
		"T\x02\x12\x02\x00" + zeros + "\x08", "T\x02\x12\x02\x06app" + zeros + "\x01", "T\x02\x12\x02\x06app" + zeros} {
		wantNoRead(t, allTargets(), "no Targets", text, impl.ErrSyntax)
	}
	wantRead(t, allSigned(), "a Signed", "S\x04hi\x02\x08\x00\x80\x01", impl.Signed{Body: "hi", Sigs: []impl.Sig{{Key: 4, E: 0, S: 64}}}, impl.OK)
	for _, text := range []string{"S", "S\x00", "S\x01\x00", "S\x04hi", "S\x04hi\x02", "S\x04hi\x02\x08\x00\x80", "S\x04hi\x02\x08\x00\x80\x00", "S\x04hi\x00\x08\x00\x80\x01", "S\x04hi\x01", "S\x04hi\x02\x02\x00\x00", "S\x04hi\x02\x08\x01\x00",
		"S\x04hi\x02\x08\x00\x01", "s\x00\x00"} {
		wantNoRead(t, allSigned(), "no Signed", text, impl.ErrSyntax)
	}
	for _, text := range []string{"M", "M\x04", "M\x04d", "M\x04d\x00", "M\x04d\x01", "M\x00d\x06", "M\x04\x01\x06", "M\x84\x00d\x06", "M\x04d\x06\x06", "P\x04d\x06", "m\x04d\x06", "\x04d\x06", "M\x04d\x86"} {
		wantNoRead(t, linksOf(impl.RoleTimestamp), "no Timestamp", text, impl.ErrSyntax)
	}
}

func TestRightMetaComesBack(t *testing.T) {
	for i, r := range rightRoots() {
		wantBack(t, roots(), fmt.Sprint("Root ", i), r)
		if !impl.RootRight(r) {
			t.Errorf("RootRight(%s) is false", told(r))
		}
	}
	for i, x := range rightTargets() {
		wantBack(t, allTargets(), fmt.Sprint("Targets ", i), x)
		if !impl.TargetsRight(x) {
			t.Errorf("TargetsRight(%s) is false", told(x))
		}
	}
	for _, kind := range linkKinds() {
		for i, l := range rightLinks() {
			wantBack(t, linksOf(kind), fmt.Sprint("Link ", i), l)
		}
	}
	for i, s := range rightSigned() {
		wantBack(t, allSigned(), fmt.Sprint("Signed ", i), s)
	}
}

func TestWrongMetaHasNoBytesAndIsNotRead(t *testing.T) {
	for what, r := range wrongRoots() {
		wantWrong(t, roots(), what, r)
		if impl.RootRight(r) {
			t.Errorf("%s: RootRight is true", what)
		}
	}
	for what, x := range wrongTargets() {
		wantWrong(t, allTargets(), what, x)
		if impl.TargetsRight(x) {
			t.Errorf("%s: TargetsRight is true", what)
		}
	}
	for _, kind := range linkKinds() {
		for what, l := range wrongLinks() {
			wantWrong(t, linksOf(kind), what, l)
		}
	}
	for what, s := range wrongSigned() {
		wantWrong(t, allSigned(), what, s)
	}
}

func TestLinksOfNoKind(t *testing.T) {
	right := impl.Link{Version: 2, Expires: 50, Next: 3}
	for _, kind := range noLinkKinds() {
		for what, l := range wrongLinks() {
			wantWrong(t, linksOf(kind), what, l)
		}
		wantWrong(t, linksOf(kind), "a right Link", right)
		for _, mark := range []string{"", "M", "P", "R", "T", "S", "H", "\x00"} {
			wantNoRead(t, linksOf(kind), "a Link of no kind", mark+plainPut(2, 50, 3), impl.ErrSyntax)
		}
		wantNoRead(t, linksOf(kind), "a Link of no kind", "", impl.ErrSyntax)
		wantNoRead(t, linksOf(kind), "a Link of no kind, too long", mixed(impl.MaxBytes+1), impl.ErrSize)
	}
}

// wantJustTheseBytes turns, drops, doubles and adds bytes, and asks what is read then.
func wantJustTheseBytes[T any](t *testing.T, m meta[T], thing T) {
	t.Helper()
	text := m.bytes(thing)
	for b := range 256 {
		one := string([]byte{byte(b)})
		wantNoRead(t, m, "one byte more", text+one, impl.ErrSyntax)
		wantReadAsTold(t, m, "one byte more ahead", one+text)
		if one != text[:1] {
			wantNoRead(t, m, "another first byte", one+text[1:], impl.ErrSyntax)
		}
	}
	wantNoRead(t, m, "without its first byte", text[1:], impl.ErrSyntax)
	wantNoRead(t, m, "twice", text+text, impl.ErrSyntax)
	for _, at := range somePlaces(text) {
		wantNoRead(t, m, fmt.Sprint("the first ", at), text[:at], impl.ErrSyntax)
		wantReadAsTold(t, m, fmt.Sprint("without byte ", at), text[:at]+text[at+1:])
		wantReadAsTold(t, m, fmt.Sprint("byte twice ", at), text[:at+1]+text[at:])
		for bit := range 8 {
			wantReadAsTold(t, m, fmt.Sprint("bit ", bit, " of byte ", at), turned(text, 8*at+bit))
		}
	}
}

// somePlaces are all of them, but in the midst of a long text.
func somePlaces(text string) []int {
	var out []int
	for at := range len(text) {
		if at < 300 || at >= len(text)-260 || at%397 == 0 {
			out = append(out, at)
		}
	}
	return out
}

func TestWhatIsReadHasJustTheseBytes(t *testing.T) {
	for _, r := range []impl.Root{leastRoot(), someRoot(), greatestRoot()} {
		wantJustTheseBytes(t, roots(), r)
	}
	for _, x := range []impl.Targets{leastTargets(), someTargets(), greatestTargets()} {
		wantJustTheseBytes(t, allTargets(), x)
	}
	for _, kind := range linkKinds() {
		for _, l := range []impl.Link{{Version: 1, Next: 1}, {Version: 2, Expires: 50, Next: 3}, {Version: 1000000, Expires: impl.MaxTime, Next: 1000000}} {
			wantJustTheseBytes(t, linksOf(kind), l)
		}
	}
	for _, s := range []impl.Signed{{}, {Body: "b"}, someSigned(), greatestSigned()} {
		wantJustTheseBytes(t, allSigned(), s)
	}
}

// wantOtherNumbers puts other numbers, and the same ones in other bytes, in the place of each one.
func wantOtherNumbers[T any](t *testing.T, m meta[T], thing T) {
	t.Helper()
	parts := m.parts(thing)
	for i, p := range parts {
		if !p.number {
			continue
		}
		ahead, behind := joined(parts[:i]), joined(parts[i+1:])
		what := fmt.Sprint(p.whatFor, " at ", i)
		for _, n := range otherNumbers(p.n) {
			wantReadAsTold(t, m, fmt.Sprint(what, " is ", n), ahead+plainPut(n)+behind)
		}
		for _, written := range otherBytes(p.n) {
			wantNoRead(t, m, fmt.Sprint(what, " written as ", show(written)), ahead+written+behind, impl.ErrSyntax)
		}
	}
}

func otherNumbers(n int64) []int64 {
	return []int64{n, n - 1, n + 1, -n, -n - 1, 2 * n, 0, 1, 2, 3, 4, 5, 8, 9, 16, 17, 20, 21, 22, 32, 40, 41, 400, 401, 8000, 8001, impl.MaxBytes, impl.MaxBytes + 1,
		1000000, 1000001, impl.MaxTime, impl.MaxTime + 1, impl.GroupQ - 1, impl.GroupQ, impl.GroupP, n + 1<<32, n - 1<<32, 1 << 32, 1 << 40, 1 << 62, math.MaxInt64, math.MinInt64, math.MinInt64 + 1}
}

// otherBytes would be the number, were no bytes needless and were none beyond 64 bits.
func otherBytes(n int64) []string {
	short := plainPut(n)
	open := short[:len(short)-1] + string([]byte{short[len(short)-1] | 0x80})
	out := []string{open + "\x00", open + "\x80\x00", open + ends(9-len(short), 0x80, 0), open + ends(9-len(short), 0x80, 2), open + ends(10-len(short), 0x80, 0), open + ends(30, 0x80, 0)}
	return append(out, ends(9, 0xff, 2), ends(9, 0xff, 0x7f), ends(10, 0xff, 1), ends(40, 0xff, 1))
}

func TestOtherNumbersInThePlaceOfEach(t *testing.T) {
	for _, r := range []impl.Root{leastRoot(), someRoot()} {
		wantOtherNumbers(t, roots(), r)
	}
	for _, x := range []impl.Targets{leastTargets(), someTargets(), {Version: 2, List: manyTargets(20)}} {
		wantOtherNumbers(t, allTargets(), x)
	}
	for _, kind := range linkKinds() {
		wantOtherNumbers(t, linksOf(kind), impl.Link{Version: 2, Expires: 50, Next: 3})
		wantOtherNumbers(t, linksOf(kind), impl.Link{Version: 900, Expires: 0, Next: 1})
	}
	for _, s := range []impl.Signed{{}, {Body: mixed(100)}, someSigned()} {
		wantOtherNumbers(t, allSigned(), s)
	}
}

// wantNothingWithout leaves out each part, and takes each twice.
func wantNothingWithout[T any](t *testing.T, m meta[T], thing T) {
	t.Helper()
	parts := m.parts(thing)
	for i, p := range parts {
		ahead, behind := joined(parts[:i]), joined(parts[i+1:])
		wantReadAsTold(t, m, fmt.Sprint("without ", p.whatFor, " at ", i), ahead+behind)
		wantReadAsTold(t, m, fmt.Sprint(p.whatFor, " twice at ", i), ahead+p.bytes()+p.bytes()+behind)
		if i > 0 {
			wantReadAsTold(t, m, fmt.Sprint(p.whatFor, " and the one ahead change places at ", i), joined(parts[:i-1])+p.bytes()+parts[i-1].bytes()+behind)
		}
	}
}

func TestPartsLeftOutTwiceOrElsewhere(t *testing.T) {
	for _, r := range []impl.Root{leastRoot(), someRoot(), greatestRoot()} {
		wantNothingWithout(t, roots(), r)
	}
	for _, x := range []impl.Targets{leastTargets(), someTargets(), greatestTargets()} {
		wantNothingWithout(t, allTargets(), x)
	}
	for _, kind := range linkKinds() {
		wantNothingWithout(t, linksOf(kind), impl.Link{Version: 2, Expires: 50, Next: 3})
	}
	for _, s := range []impl.Signed{{}, someSigned(), greatestSigned()} {
		wantNothingWithout(t, allSigned(), s)
	}
}

func TestShortMetaTextsAreReadAsTold(t *testing.T) {
	read := 0
	eachShortText("\x00\x01\x02\x04\x7f\x80\x81", 4, func(text string) {
		for _, kind := range linkKinds() {
			if wantReadAsTold(t, linksOf(kind), "short", "P"+text) || wantReadAsTold(t, linksOf(kind), "short", "M"+text) {
				read++
			}
		}
		wantReadAsTold(t, roots(), "short", "R"+text)
		if wantReadAsTold(t, allTargets(), "short", "T"+text) || wantReadAsTold(t, allSigned(), "short", "S"+text) {
			read++
		}
		wantReadAsTold(t, roots(), "no mark", text)
		wantReadAsTold(t, allSigned(), "no mark", text)
	})
	if read < 100 {
		t.Errorf("%d short texts are read", read)
	}
}

func TestNothingAtAllIsNoMeta(t *testing.T) {
	wantNoRead(t, roots(), "nothing", "", impl.ErrSyntax)
	wantNoRead(t, allTargets(), "nothing", "", impl.ErrSyntax)
	wantNoRead(t, allSigned(), "nothing", "", impl.ErrSyntax)
	for _, kind := range linkKinds() {
		wantNoRead(t, linksOf(kind), "nothing", "", impl.ErrSyntax)
	}
}

func TestMetaOfAnotherSort(t *testing.T) {
	link := impl.Link{Version: 2, Expires: 50, Next: 3}
	texts := map[string]string{
		"Root": impl.RootBytes(someRoot()), "Targets": impl.TargetsBytes(someTargets()), "Signed": impl.SignedBytes(someSigned()),
		"Snapshot": impl.LinkBytes(impl.RoleSnapshot, link), "Timestamp": impl.LinkBytes(impl.RoleTimestamp, link),
	}
	for name, text := range texts {
		if text == "" {
			t.Errorf("%s has no bytes", name)
		}
		if name != "Root" {
			wantNoRead(t, roots(), name, text, impl.ErrSyntax)
		}
		if name != "Targets" {
			wantNoRead(t, allTargets(), name, text, impl.ErrSyntax)
		}
		if name != "Signed" {
			wantNoRead(t, allSigned(), name, text, impl.ErrSyntax)
		}
		if name != "Snapshot" {
			wantNoRead(t, linksOf(impl.RoleSnapshot), name, text, impl.ErrSyntax)
		}
		if name != "Timestamp" {
			wantNoRead(t, linksOf(impl.RoleTimestamp), name, text, impl.ErrSyntax)
		}
	}
}

// wantTooLong fills up behind the bytes of a thing.
func wantTooLong[T any](t *testing.T, m meta[T], thing T) {
	t.Helper()
	text := m.bytes(thing)
	for _, fill := range []string{"\x00", "\x80", "\xff", "a", "\x02"} {
		for _, begin := range []string{text, text[:1], ""} {
			long := begin + strings.Repeat(fill, impl.MaxBytes+2)
			wantNoRead(t, m, "just as long as may be", long[:impl.MaxBytes], impl.ErrSyntax)
			wantNoRead(t, m, "one byte too long", long[:impl.MaxBytes+1], impl.ErrSize)
			wantNoRead(t, m, "too long", long, impl.ErrSize)
		}
	}
}

func TestMetaTextsThatAreTooLong(t *testing.T) {
	wantTooLong(t, roots(), someRoot())
	wantTooLong(t, allTargets(), someTargets())
	wantTooLong(t, allSigned(), someSigned())
	for _, kind := range linkKinds() {
		wantTooLong(t, linksOf(kind), impl.Link{Version: 2, Expires: 50, Next: 3})
	}
}

// roomyKeys has place behind its end, and tells whether that was written into.
func roomyKeys(keys []int64) []int64 {
	return append(slices.Clone(keys), 77, 77, 77)[:len(keys)]
}

func TestMetaIsNotChanged(t *testing.T) {
	r := someRoot()
	for i := range r.Roles {
		r.Roles[i].Keys = roomyKeys(r.Roles[i].Keys)
	}
	r.Roles = append(r.Roles, impl.Role{Need: 77})[:5]
	impl.RootRight(r)
	impl.RootBytes(r)
	if told(r) != told(someRoot()) || r.Roles[:6][5].Need != 77 {
		t.Errorf("a Root is changed: %s", told(r))
	}
	for _, role := range r.Roles {
		if behind := role.Keys[len(role.Keys) : len(role.Keys)+3]; !slices.Equal(behind, []int64{77, 77, 77}) {
			t.Errorf("behind the keys stands %v", behind)
		}
	}
	x := someTargets()
	x.List = append(x.List, impl.Target{Name: "kept"})[:5]
	impl.TargetsRight(x)
	impl.TargetsBytes(x)
	if told(x) != told(someTargets()) || x.List[:6][5].Name != "kept" {
		t.Errorf("Targets are changed: %s", told(x))
	}
	s := someSigned()
	s.Sigs = append(s.Sigs, impl.Sig{Key: 77})[:3]
	impl.SignedBytes(s)
	if told(s) != told(someSigned()) || s.Sigs[:4][3].Key != 77 {
		t.Errorf("a Signed is changed: %s", told(s))
	}
}

func TestMetaIsNewMemory(t *testing.T) {
	text := impl.SignedBytes(greatestSigned())
	read := impl.SignedRead(text).Signed
	if len(read.Body) != 8000 || share(read.Body, text) {
		t.Errorf("a Body of %d bytes lies in the text that it was read of", len(read.Body))
	}
	for _, body := range []string{mixed(2), mixed(8000)} {
		if again := impl.SignedBytes(impl.Signed{Body: body}); len(again) < 4 || share(again, body) {
			t.Errorf("the bytes of a Signed lie in its Body")
		}
	}
	x := impl.Targets{Version: 1, List: []impl.Target{{Name: "only-" + mixedName(20), Image: image(3), Size: 5}}}
	text = impl.TargetsBytes(x)
	list := impl.TargetsRead(text).Targets.List
	if len(list) != 1 || share(list[0].Name, text) || share(list[0].Image, text) || share(text, x.List[0].Name) || share(text, x.List[0].Image) {
		t.Errorf("Targets share memory with the text that they were read of, or it with them")
	}
	text = impl.RootBytes(greatestRoot())
	a, b := impl.RootRead(text).Root, impl.RootRead(text).Root
	if len(a.Roles) != 5 || len(b.Roles) != 5 {
		t.Fatalf("%d and %d roles are read", len(a.Roles), len(b.Roles))
	}
	for i := range 5 {
		for j := range 5 {
			if i < j && shareList(a.Roles[i].Keys, a.Roles[j].Keys) || shareList(a.Roles[i].Keys, b.Roles[j].Keys) {
				t.Errorf("the keys of role %d and %d share memory", i, j)
			}
		}
	}
	a.Roles[0].Need = 5
	if b.Roles[0].Need != 8 {
		t.Errorf("two answers share their Roles")
	}
}

// mixedName is made when it runs, so that it lies nowhere else.
func mixedName(size int) string {
	out := make([]byte, size)
	for i := range out {
		out[i] = "abcdefghijklmnopqrstuvwxyz0123456789-"[i%37]
	}
	return string(out)
}

func TestMetaIsTheSameEachTime(t *testing.T) {
	for range 3 {
		wantBack(t, roots(), "again", someRoot())
		wantNoRead(t, roots(), "a wrong one between", "R\x02", impl.ErrSyntax)
		wantBack(t, allTargets(), "again", someTargets())
		wantNoRead(t, allTargets(), "a wrong one between", impl.TargetsBytes(someTargets())+"x", impl.ErrSyntax)
		wantBack(t, allSigned(), "again", someSigned())
		wantNoRead(t, allSigned(), "a wrong one between", mixed(impl.MaxBytes+1), impl.ErrSize)
	}
}

func TestMadeUpMetaComesBack(t *testing.T) {
	x := int64(4711)
	next := func(most int64) int64 {
		x = (x*48271 + 11) % 2147483647
		return x % most
	}
	keys := slices.Compact(slices.Sorted(slices.Values(append(someOfTheGroup(), leastKeys(30)...))))
	for i := range 150 {
		r := impl.Root{Version: 1 + next(1000000), Expires: next(impl.MaxTime + 1)}
		for range 5 {
			from, count := next(int64(len(keys)-8)), 1+next(8)
			r.Roles = append(r.Roles, impl.Role{Need: 1 + next(count), Keys: slices.Clone(keys[from : from+count])})
		}
		wantBack(t, roots(), fmt.Sprint("made up ", i), r)
		targets := impl.Targets{Version: 1 + next(1000000), Expires: next(impl.MaxTime + 1), List: manyTargets(int(next(21)))}
		for i := range targets.List {
			targets.List[i].Size = next(1000001)
		}
		wantBack(t, allTargets(), fmt.Sprint("made up ", i), targets)
		s := impl.Signed{Body: mixed(int(next(8001)))}
		for range next(17) {
			s.Sigs = append(s.Sigs, impl.Sig{Key: keys[next(int64(len(keys)))], E: next(impl.GroupQ), S: next(impl.GroupQ)})
		}
		wantBack(t, allSigned(), fmt.Sprint("made up ", i), s)
	}
}
