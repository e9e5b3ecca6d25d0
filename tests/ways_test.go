package tests

import (
	"go/ast"
	"go/parser"
	"go/token"
	"go/types"
	"path/filepath"
	"slices"
	"strings"
	"testing"
)

// programFiles are those of impl, read as text.
func programFiles(t *testing.T) []*ast.File {
	t.Helper()
	paths, err := filepath.Glob("../impl/*.go")
	if err != nil || len(paths) == 0 {
		t.Fatalf("impl has %d files, %v", len(paths), err)
	}
	var out []*ast.File
	for _, path := range paths {
		if strings.HasSuffix(path, "_test.go") {
			continue
		}
		file, err := parser.ParseFile(token.NewFileSet(), path, nil, 0)
		if err != nil {
			t.Fatal(err)
		}
		out = append(out, file)
	}
	return out
}

// bodiesByName are the functions and methods of the program, those of one name together.
func bodiesByName(files []*ast.File) map[string][]*ast.FuncDecl {
	out := map[string][]*ast.FuncDecl{}
	for _, file := range files {
		for _, d := range file.Decls {
			if f, ok := d.(*ast.FuncDecl); ok {
				out[f.Name.Name] = append(out[f.Name.Name], f)
			}
		}
	}
	return out
}

// wordsReached are the names, and names behind a point, in what one function calls, as far as names tell.
func wordsReached(bodies map[string][]*ast.FuncDecl, from string) map[string]bool {
	words := map[string]bool{}
	done := map[string]bool{from: true}
	for work := []string{from}; len(work) > 0; work = work[1:] {
		for _, f := range bodies[work[0]] {
			ast.Inspect(f.Body, func(n ast.Node) bool {
				switch x := n.(type) {
				case *ast.SelectorExpr:
					words[types.ExprString(x)] = true
				case *ast.Ident:
					words[x.Name] = true
					if bodies[x.Name] != nil && !done[x.Name] {
						done[x.Name] = true
						work = append(work, x.Name)
					}
				}
				return true
			})
		}
	}
	return words
}

// variableKind is the type that a variable of the package is declared with.
func variableKind(files []*ast.File, name string) string {
	for _, file := range files {
		if o := file.Scope.Lookup(name); o != nil && o.Kind == ast.Var {
			return types.ExprString(o.Decl.(*ast.ValueSpec).Type)
		}
	}
	return ""
}

func TestThePowersOfGroupGAreMadeOnceAndRead(t *testing.T) {
	files := programFiles(t)
	if kind := variableKind(files, "powersMade"); kind != "sync.Once" {
		t.Errorf("powersMade is of the type %q", kind)
	}
	if kind := variableKind(files, "powersOfG"); kind != "[powerBits]int64" {
		t.Errorf("powersOfG is of the type %q", kind)
	}
	reached := wordsReached(bodiesByName(files), "GroupPow")
	for _, word := range []string{"powersMade.Do", "makePowersOfG", "powersOfG"} {
		if !reached[word] {
			t.Errorf("GroupPow does not reach %s", word)
		}
	}
}

// embeddedIn are the types that a struct of that name holds without a name of their own.
func embeddedIn(files []*ast.File, name string) []string {
	var out []string
	for _, file := range files {
		o := file.Scope.Lookup(name)
		if o == nil || o.Kind != ast.Typ {
			continue
		}
		if s, ok := o.Decl.(*ast.TypeSpec).Type.(*ast.StructType); ok {
			for _, f := range s.Fields.List {
				if len(f.Names) == 0 {
					out = append(out, types.ExprString(f.Type))
				}
			}
		}
	}
	return out
}

func TestWhatIsWrongInMetaPanicsAndIsRecovered(t *testing.T) {
	files := programFiles(t)
	if got := embeddedIn(files, "reader"); len(got) != 1 || got[0] != "cursor" {
		t.Errorf("reader embeds %v", got)
	}
	for _, face := range []string{"RootRead", "TargetsRead", "LinkRead", "SignedRead"} {
		reached := wordsReached(bodiesByName(files), face)
		for _, word := range []string{"reader", "panic", "recover"} {
			if !reached[word] {
				t.Errorf("%s does not reach %s", face, word)
			}
		}
	}
}

// starters are the functions in whose own text a goroutine is started.
func starters(files []*ast.File) []string {
	var out []string
	for name, bodies := range bodiesByName(files) {
		for _, f := range bodies {
			ast.Inspect(f, func(n ast.Node) bool {
				if _, ok := n.(*ast.GoStmt); ok && !slices.Contains(out, name) {
					out = append(out, name)
				}
				return true
			})
		}
	}
	return out
}

func TestSignersAloneStartsGoroutines(t *testing.T) {
	files := programFiles(t)
	if got := starters(files); len(got) != 1 || got[0] != "Signers" {
		t.Errorf("goroutines are started by %v", got)
	}
	reached := wordsReached(bodiesByName(files), "Signers")
	for _, word := range []string{"sync.WaitGroup", "Wait", "atomic.Int64", "SigCheck"} {
		if !reached[word] {
			t.Errorf("Signers does not reach %s", word)
		}
	}
	if wordsReached(bodiesByName(files), "Enough")["Signers"] {
		t.Error("Enough checks by goroutines, too")
	}
}

// typeSwitchesIn are the names that the type switches of one function tell apart.
func typeSwitchesIn(bodies map[string][]*ast.FuncDecl, name string) []string {
	var out []string
	for _, f := range bodies[name] {
		ast.Inspect(f, func(n ast.Node) bool {
			if s, ok := n.(*ast.TypeSwitchStmt); ok {
				for _, c := range s.Body.List {
					for _, kind := range c.(*ast.CaseClause).List {
						out = append(out, types.ExprString(kind))
					}
				}
			}
			return true
		})
	}
	return out
}

func TestUpdatesAreBehindAnInterface(t *testing.T) {
	files := programFiles(t)
	bodies := bodiesByName(files)
	kinds := map[string]string{"UpdateRoot": "rootUpdate", "UpdateTimestamp": "timestampUpdate", "UpdateSnapshot": "snapshotUpdate", "UpdateTargets": "targetsUpdate", "UpdateHead": "headUpdate"}
	apart := typeSwitchesIn(bodies, "withUpdate")
	for face, kind := range kinds {
		reached := wordsReached(bodies, face)
		for _, word := range []string{kind, "withUpdate", "u.awaited", "u.read", "u.signers", "u.follows", "u.expired", "errors.Is"} {
			if !reached[word] {
				t.Errorf("%s does not reach %s", face, word)
			}
		}
		if !slices.Contains(apart, "*"+kind) {
			t.Errorf("%s is not told apart: %v", kind, apart)
		}
	}
	if !wordsReached(bodies, "Fresh")["errors.Is"] {
		t.Error("what Fresh refuses is not asked with errors.Is")
	}
}

// comparedWith are the functions in whose own text something is compared, as a whole, with a literal of that text.
func comparedWith(files []*ast.File, literal string) []string {
	var out []string
	for name, bodies := range bodiesByName(files) {
		for _, f := range bodies {
			ast.Inspect(f, func(n ast.Node) bool {
				b, ok := n.(*ast.BinaryExpr)
				if ok && (b.Op == token.EQL || b.Op == token.NEQ) && types.ExprString(ast.Unparen(b.Y)) == literal && !slices.Contains(out, name) {
					out = append(out, name)
				}
				return true
			})
		}
	}
	return out
}

func TestTheLogHalvesBothSidesOfAWalk(t *testing.T) {
	files := programFiles(t)
	bodies := bodiesByName(files)
	halves := bodies["halveBoth"]
	if len(halves) != 1 || halves[0].Type.TypeParams == nil {
		t.Fatalf("halveBoth stands there %d times, or is not generic", len(halves))
	}
	for _, face := range []string{"UpdateHead", "Logged"} {
		if !wordsReached(bodies, face)["halveBoth"] {
			t.Errorf("%s does not reach halveBoth", face)
		}
	}
}

func TestHeadsAreComparedAsWholes(t *testing.T) {
	files := programFiles(t)
	compared := comparedWith(files, "Head{}")
	for _, name := range []string{"follows", "Logged"} {
		if !slices.Contains(compared, name) {
			t.Errorf("%s does not compare a Head as a whole: %v do", name, compared)
		}
	}
}

// typeWritten is how a type of the package is declared.
func typeWritten(files []*ast.File, name string) string {
	for _, file := range files {
		if o := file.Scope.Lookup(name); o != nil && o.Kind == ast.Typ {
			return types.ExprString(o.Decl.(*ast.TypeSpec).Type)
		}
	}
	return ""
}

// deleters are the functions in whose own text something is deleted from a map.
func deleters(files []*ast.File) []string {
	var out []string
	for name, bodies := range bodiesByName(files) {
		for _, f := range bodies {
			ast.Inspect(f, func(n ast.Node) bool {
				call, ok := n.(*ast.CallExpr)
				if ok && types.ExprString(call.Fun) == "delete" && !slices.Contains(out, name) {
					out = append(out, name)
				}
				return true
			})
		}
	}
	return out
}

func TestBlobsStandInAMapByTheirDigests(t *testing.T) {
	files := programFiles(t)
	if key, shelf := typeWritten(files, "blobKey"), typeWritten(files, "shelf"); key != "[digestBytes]byte" || shelf != "map[blobKey]stored" {
		t.Errorf("blobKey is %q, shelf is %q", key, shelf)
	}
	bodies := bodiesByName(files)
	for _, face := range []string{"StoreRight", "StorePut", "StoreGet", "StoreSweep", "Materialize"} {
		if !wordsReached(bodies, face)["shelf"] {
			t.Errorf("%s does not reach the shelf", face)
		}
	}
	if got := deleters(files); !slices.Contains(got, "StoreSweep") {
		t.Errorf("what is swept out is not deleted by StoreSweep: %v delete", got)
	}
}

// assertedTo are the types that something is asserted to be in the functions of one name.
func assertedTo(bodies map[string][]*ast.FuncDecl, name string) []string {
	var out []string
	for _, f := range bodies[name] {
		ast.Inspect(f, func(n ast.Node) bool {
			if a, ok := n.(*ast.TypeAssertExpr); ok && a.Type != nil {
				out = append(out, types.ExprString(a.Type))
			}
			return true
		})
	}
	return out
}

// labelsUsed are those by which the functions of one name leave a loop, or go on with it, each with the word ahead.
func labelsUsed(bodies map[string][]*ast.FuncDecl, name string) []string {
	var out []string
	for _, f := range bodies[name] {
		ast.Inspect(f, func(n ast.Node) bool {
			if b, ok := n.(*ast.BranchStmt); ok && b.Label != nil {
				out = append(out, b.Tok.String()+" "+b.Label.Name)
			}
			return true
		})
	}
	return out
}

func TestNodesOfAPolicyAreBehindAnInterface(t *testing.T) {
	files := programFiles(t)
	bodies := bodiesByName(files)
	if kind := typeWritten(files, "node"); !strings.HasPrefix(kind, "interface{") {
		t.Errorf("node is %q", kind)
	}
	for face, word := range map[string]string{"PolicyRight": "node", "PolicyEval": "policy.holds", "PolicyText": "policy.text"} {
		if !wordsReached(bodies, face)[word] {
			t.Errorf("%s does not reach %s", face, word)
		}
	}
	if got := assertedTo(bodies, "textWithin"); !slices.Contains(got, "pairNode") || !wordsReached(bodies, "PolicyText")["textWithin"] {
		t.Errorf("what a node is is not asked by an assertion: %v", got)
	}
}

func TestThePolicyReadersLoopHasALabel(t *testing.T) {
	bodies := bodiesByName(programFiles(t))
	used := labelsUsed(bodies, "read")
	for _, way := range []string{"break reading", "continue reading"} {
		if !slices.Contains(used, way) {
			t.Errorf("no %s: %v", way, used)
		}
	}
	if !wordsReached(bodies, "PolicyRead")["r.read"] {
		t.Error("PolicyRead does not reach the loop")
	}
}

// isVariadic: does a function of that name take any number of what it takes last?
func isVariadic(bodies map[string][]*ast.FuncDecl, name string) bool {
	for _, f := range bodies[name] {
		if list := f.Type.Params.List; len(list) > 0 {
			if _, ok := list[len(list)-1].Type.(*ast.Ellipsis); ok {
				return true
			}
		}
	}
	return false
}

func TestChecksOfAnAskArePutTogetherByAVariadicFunction(t *testing.T) {
	bodies := bodiesByName(programFiles(t))
	if !isVariadic(bodies, "firstFault") {
		t.Error("firstFault takes no checks as they come")
	}
	for _, face := range []string{"Admit", "AdmitAll"} {
		if !wordsReached(bodies, face)["firstFault"] {
			t.Errorf("%s does not reach firstFault", face)
		}
	}
}

func TestTargetsStandInAMapByName(t *testing.T) {
	bodies := bodiesByName(programFiles(t))
	made := bodies["targetsByName"]
	if len(made) != 1 || types.ExprString(made[0].Type.Results.List[0].Type) != "map[string]Target" {
		t.Fatalf("targetsByName stands there %d times, or tells no such map", len(made))
	}
	for _, face := range []string{"TargetOf", "Admit", "AdmitAll"} {
		if !wordsReached(bodies, face)["targetsByName"] {
			t.Errorf("%s does not reach targetsByName", face)
		}
	}
}
