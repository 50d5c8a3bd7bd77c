// Package ways: tests of how packages are built, where no answer shows it.
package ways

import (
	"go/ast"
	"go/parser"
	"go/token"
	"path/filepath"
	"slices"
	"strings"
	"testing"
)

// sources reads the files of a package, but its tests.
func sources(t *testing.T, folder string) []*ast.File {
	t.Helper()
	paths, err := filepath.Glob(filepath.Join("..", folder, "*.go"))
	if err != nil {
		t.Fatal(err)
	}
	var l []*ast.File
	for _, path := range paths {
		if strings.HasSuffix(path, "_test.go") {
			continue
		}
		file, err := parser.ParseFile(token.NewFileSet(), path, nil, 0)
		if err != nil {
			t.Fatal(err)
		}
		l = append(l, file)
	}
	if len(l) == 0 {
		t.Fatal("no files in", folder)
	}
	return l
}

// names tells, of each function of a package, what names stand in it.
func names(t *testing.T, folder string) map[string][]string {
	t.Helper()
	all := map[string][]string{}
	for _, file := range sources(t, folder) {
		for _, d := range file.Decls {
			if f, ok := d.(*ast.FuncDecl); ok {
				all[f.Name.Name] = append(all[f.Name.Name], namesIn(f)...)
			}
		}
	}
	return all
}

func namesIn(part ast.Node) []string {
	var l []string
	ast.Inspect(part, func(n ast.Node) bool {
		if id, ok := n.(*ast.Ident); ok {
			l = append(l, id.Name)
		}
		return true
	})
	return l
}

// reach tells all names that a function comes to, through others of its package.
func reach(all map[string][]string, from string) []string {
	found := []string{from}
	for i := 0; i < len(found); i++ {
		for _, name := range all[found[i]] {
			if !slices.Contains(found, name) {
				found = append(found, name)
			}
		}
	}
	return found
}

// TestTablesBeside: the tables that sync.Once makes stand beside: no call of the chapter comes to them or to their Once, another exported function does.
func TestTablesBeside(t *testing.T) {
	for _, c := range []struct{ folder, table, once, calls string }{
		{"dn", "kinds", "kindsOnce", "Fold May Parse Text Key Up Under"},
		{"match", "types", "typesOnce", "Canon Rule Norm Same Less"},
		{"schema", "classes", "classesOnce", "Find Check"},
	} {
		all := names(t, c.folder)
		read := false
		for name := range all {
			found := reach(all, name)
			table, once := slices.Contains(found, c.table), slices.Contains(found, c.once)
			if slices.Contains(strings.Fields(c.calls), name) && (table || once) {
				t.Errorf("%s: %s comes to the table or to its Once", c.folder, name)
			}
			read = read || ast.IsExported(name) && table && once
		}
		for _, name := range strings.Fields(c.calls) {
			if all[name] == nil {
				t.Errorf("%s: %s is not there", c.folder, name)
			}
		}
		if !read {
			t.Errorf("%s: no exported function reads the table", c.folder)
		}
	}
}

// TestCountsInside: counts, the last one told, the head of a history, and where the next record goes are atomic, and one call's own, or one object's: no variable at package level keeps them.
func TestCountsInside(t *testing.T) {
	for _, folder := range []string{"ber", "entry", "filter", "eval", "change", "acl", "find", "csn", "delta", "kept", "hist", "strip", "wal"} {
		atomic := false
		for _, file := range sources(t, folder) {
			atomic = atomic || slices.Contains(namesIn(file), "atomic")
			for _, d := range file.Decls {
				if g, ok := d.(*ast.GenDecl); ok && g.Tok == token.VAR {
					t.Errorf("%s: a variable at package level: %q", folder, namesIn(g))
				}
			}
		}
		if !atomic {
			t.Errorf("%s: no count is atomic", folder)
		}
	}
}

// TestIndexInside: the index of a tree's keys is made by sync.Once, and both are one call's own: no variable at package level keeps them.
func TestIndexInside(t *testing.T) {
	once := false
	for _, file := range sources(t, "tree") {
		once = once || slices.Contains(namesIn(file), "Once")
		for _, d := range file.Decls {
			if g, ok := d.(*ast.GenDecl); ok && g.Tok == token.VAR {
				t.Errorf("tree: a variable at package level: %q", namesIn(g))
			}
		}
	}
	if !once {
		t.Error("tree: no index is made by once")
	}
	all := names(t, "tree")
	for _, name := range strings.Fields("May Find Kids Put Del") {
		if found := reach(all, name); !slices.Contains(found, "index") || !slices.Contains(found, "fill") {
			t.Errorf("tree: %s does not come to an index", name)
		}
	}
}

// TestCodesCounted: MAdd and MDel ask the counts of codes that their own values make.
func TestCodesCounted(t *testing.T) {
	all := names(t, "change")
	for _, name := range strings.Fields("Modify add del") {
		if found := reach(all, name); !slices.Contains(found, "tally") || !slices.Contains(found, "count") || !slices.Contains(found, "first") {
			t.Errorf("change: %s does not come to a count of codes", name)
		}
	}
}

// TestRefusalsCounted: View and Gate count what they refuse, and Gate asks that count.
func TestRefusalsCounted(t *testing.T) {
	all := names(t, "acl")
	for _, name := range strings.Fields("View Gate allow") {
		if found := reach(all, name); !slices.Contains(found, "refusals") || !slices.Contains(found, "Add") {
			t.Errorf("acl: %s does not come to a count of refusals", name)
		}
	}
	if found := all["Gate"]; !slices.Contains(found, "refusals") || !slices.Contains(found, "Load") {
		t.Error("acl: Gate does not ask the count of refusals")
	}
}

// TestLookedCounted: Search asks a count of entries looked at which one is next; what it looks at is made of what may be read.
func TestLookedCounted(t *testing.T) {
	all := names(t, "find")
	for _, name := range strings.Fields("Search next") {
		if found := reach(all, name); !slices.Contains(found, "looked") || !slices.Contains(found, "Add") || !slices.Contains(found, "Load") {
			t.Errorf("find: %s does not come to a count of entries looked at", name)
		}
	}
	if found := reach(all, "Search"); !slices.Contains(found, "View") {
		t.Error("find: Search does not come to a View")
	}
}

// TestLastTold: Next tells what stands behind the last one told, which is atomic.
func TestLastTold(t *testing.T) {
	all := names(t, "csn")
	for _, name := range strings.Fields("Next next") {
		if found := reach(all, name); !slices.Contains(found, "last") || !slices.Contains(found, "Add") {
			t.Errorf("csn: %s does not come to the last one told", name)
		}
	}
}

// TestAppliedCounted: Apply and Fold ask a count of deltas applied which one is next.
func TestAppliedCounted(t *testing.T) {
	all := names(t, "delta")
	for _, name := range strings.Fields("Apply Fold") {
		if found := reach(all, name); !slices.Contains(found, "applied") || !slices.Contains(found, "Add") || !slices.Contains(found, "Load") {
			t.Errorf("delta: %s does not come to a count of deltas applied", name)
		}
	}
}

// TestMadeCounted: Put and Entry count the bytes that they make, and Put asks that count.
func TestMadeCounted(t *testing.T) {
	all := names(t, "kept")
	for _, name := range strings.Fields("Put Entry") {
		if found := reach(all, name); !slices.Contains(found, "made") || !slices.Contains(found, "Add") {
			t.Errorf("kept: %s does not come to a count of bytes made", name)
		}
	}
	if found := reach(all, "Put"); !slices.Contains(found, "Load") {
		t.Error("kept: Put does not ask the count of bytes made")
	}
}

// TestHeadBeside: Head, and what asks which one is the last, come to the head that is kept beside a history.
func TestHeadBeside(t *testing.T) {
	all := names(t, "hist")
	for _, name := range strings.Fields("May Head Fits Purge") {
		if found := reach(all, name); !slices.Contains(found, "tipOf") || !slices.Contains(found, "head") || !slices.Contains(found, "Store") || !slices.Contains(found, "Load") {
			t.Errorf("hist: %s does not come to the head kept beside", name)
		}
	}
}

// TestChangesCounted: Write and Sync ask the count of changes of their strip, which Tear and Fall begin anew.
func TestChangesCounted(t *testing.T) {
	all := names(t, "strip")
	for name, how := range map[string]string{"Write": "Add", "Sync": "Add", "Tear": "Store", "Fall": "Store", "New": "Store"} {
		if found := reach(all, name); !slices.Contains(found, "changes") || !slices.Contains(found, how) {
			t.Errorf("strip: %s does not come to the count of changes", name)
		}
	}
	if l := fields(t, "strip", "Strip")["changes"]; !slices.Contains(l, "atomic") {
		t.Errorf("strip: the count of changes is not the strip's own, or not atomic: %q", l)
	}
}

// TestNextRecord: Append and Checkpoint ask where the next record goes, which is the Wal's own, and say it anew; Open says it.
func TestNextRecord(t *testing.T) {
	all := names(t, "wal")
	for name, how := range map[string]string{"Append": "Load Store", "Checkpoint": "Load Store", "Open": "Store"} {
		found := reach(all, name)
		for _, x := range append(strings.Fields(how), "next") {
			if !slices.Contains(found, x) {
				t.Errorf("wal: %s does not come to where the next record goes: %s", name, x)
			}
		}
	}
	if l := fields(t, "wal", "Wal")["next"]; !slices.Contains(l, "atomic") {
		t.Errorf("wal: where the next record goes is not the Wal's own, or not atomic: %q", l)
	}
}

// fields tells, of each field of a struct of a package, what names stand in its type.
func fields(t *testing.T, folder, of string) map[string][]string {
	t.Helper()
	all := map[string][]string{}
	for _, file := range sources(t, folder) {
		ast.Inspect(file, func(n ast.Node) bool {
			spec, ok := n.(*ast.TypeSpec)
			if !ok || spec.Name.Name != of {
				return true
			}
			if form, ok := spec.Type.(*ast.StructType); ok {
				for _, field := range form.Fields.List {
					for _, name := range field.Names {
						all[name.Name] = namesIn(field.Type)
					}
				}
			}
			return false
		})
	}
	return all
}

// TestLayersCalled: of the project's packages each imports api, and those that its chapter names.
func TestLayersCalled(t *testing.T) {
	for folder, may := range map[string]string{
		"ber": "", "dn": "", "match": "dn", "schema": "dn match", "entry": "dn match", "filter": "", "eval": "dn match entry filter", "tree": "dn schema entry", "change": "dn match schema entry tree", "acl": "dn match entry", "find": "dn entry filter eval tree acl", "csn": "", "delta": "dn schema entry tree csn", "kept": "ber tree csn delta", "hist": "csn delta", "strip": "", "wal": "strip",
	} {
		for _, file := range sources(t, folder) {
			for _, spec := range file.Imports {
				path := strings.Trim(spec.Path.Value, `"`)
				name, own := strings.CutPrefix(path, "brook/")
				if own && name != "api" && !slices.Contains(strings.Fields(may), name) {
					t.Errorf("%s: a layer that its chapter does not name: %s", folder, name)
				}
			}
		}
	}
}
