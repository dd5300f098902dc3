package compile_test

import (
	"fmt"
	"strings"
	"testing"

	"pipeline/api"
	"pipeline/compile"
)

// P19.3: the IDs of the instances, with their numbers and variables.
func TestInstances(t *testing.T) {
	const two = "matrix {\nos = [\"linux\", \"mac\"]\n}"
	for _, x := range []struct {
		lines []string
		want  string // for each job its ID, Shard and Shards, and the values of the variable os
	}{
		{nil, "a 0/0 none"},
		{[]string{two}, "a.1 0/0 linux, a.2 0/0 mac"},
		{[]string{"shards = 1"}, "a.1 1/1 none"},
		{[]string{"shards = 3"}, "a.1 1/3 none, a.2 2/3 none, a.3 3/3 none"},
		{[]string{"shards = n - 5"}, "a.1 1/2 none, a.2 2/2 none"},
		{[]string{two, "shards = 2"}, "a.1.1 1/2 linux, a.1.2 2/2 linux, a.2.1 1/2 mac, a.2.2 2/2 mac"},
		{[]string{"shards = 1", two}, "a.1.1 1/1 linux, a.2.1 1/1 mac"},
		{[]string{"matrix {\nos = [\"x\"]\n}"}, "a.1 0/0 x"},
		{[]string{"matrix \"named\" {\nos = [\"x\"]\n}"}, "a.1 0/0 x"},
		{[]string{"matrix {\n}"}, ""},
		{[]string{"matrix {\n}", "shards = 64"}, ""},
		{[]string{"matrix {\nos = [\"x\"]\nexclude = [{}]\n}"}, ""},
		{[]string{"matrix {\ninclude = [{}]\n}"}, "a.1 0/0 none"},
		{[]string{"matrix {\nos = [\"a\", \"b\", \"c\"]\nexclude = [{os: \"b\"}]\ninclude = [{os: \"d\"}, {os: \"a\"}]\n}"}, "a.1 0/0 a, a.2 0/0 c, a.3 0/0 d"},
		{[]string{"matrix {\ninclude = [{os: \"d\"}, {os: \"c\"}]\nos = [\"a\"]\n}"}, "a.1 0/0 a, a.2 0/0 d, a.3 0/0 c"},
		{[]string{"matrix {\nos = [s, s + \"${n}\"]\n}"}, "a.1 0/0 str, a.2 0/0 str${n}"}, // the values of axes are no texts
	} {
		source := withParams + job("a", append(x.lines, "group = \"g\"")...)
		var got []string
		for _, j := range compiled(t, source).Jobs {
			os := "none"
			for _, v := range j.Vars {
				if v.Name == "os" {
					os = v.Value.Str
				}
			}
			got = append(got, fmt.Sprintf("%s %d/%d %s", j.ID, j.Shard, j.Shards, os))
			if j.Group != "g" {
				t.Errorf("an instance without its attributes: %+v", j)
			}
		}
		if got := strings.Join(got, ", "); got != x.want {
			t.Errorf("the instances of\n%s= %s, want %s", source, got, x.want)
		}
	}
}

// P19.3: instances are combinations in the order of matrix.Expand.
func TestCombinations(t *testing.T) {
	p := compiled(t, withParams+job("a", block("matrix", "y = [1, 2]", "x10 = [true, null]", "x9 = [n]"), "labels = [\"${y}${x10}${x9}\"]"))
	var got []string
	for _, j := range p.Jobs {
		var names []string
		for _, v := range j.Vars {
			names = append(names, v.Name)
		}
		got = append(got, j.ID+" "+j.Labels[0])
		if want := "b l m n s u x9 x10 y z"; strings.Join(names, " ") != want {
			t.Errorf("the variables are %v, want %s", names, want)
		}
	}
	if got := strings.Join(got, ", "); got != "a.1 1true7, a.2 17, a.3 2true7, a.4 27" {
		t.Errorf("the instances are %s", got)
	}
}

// P19.3: the environment of the matrix and of shards is that of the parameters.
func TestInstanceErrors(t *testing.T) {
	matrix := func(lines ...string) string { return block("matrix", lines...) }
	long := "[\"" + strings.Repeat("x", 65) + "\"]"
	for _, x := range []struct {
		lines []string
		want  api.Errno
	}{
		{[]string{matrix(), matrix()}, api.ErrExists},
		{[]string{matrix("x = undefined")}, api.ErrName},
		{[]string{matrix("x = [1]", "y = [x]")}, api.ErrName},
		{[]string{matrix("x = [1, 1 / 0]")}, api.ErrDivide},
		{[]string{matrix("x = 1")}, api.ErrType},
		{[]string{matrix("x = null")}, api.ErrType},
		{[]string{matrix("x = {k: 1}")}, api.ErrType},
		{[]string{matrix("x = \"ab\"")}, api.ErrType},
		{[]string{matrix("x = m")}, api.ErrType},
		{[]string{matrix("include = {}")}, api.ErrType},
		{[]string{matrix("include = [{}, 1]")}, api.ErrType},
		{[]string{matrix("include = [[]]")}, api.ErrType},
		{[]string{matrix("exclude = {}")}, api.ErrType},
		{[]string{matrix("exclude = [null]")}, api.ErrType},
		{[]string{matrix("include = undefined")}, api.ErrName},
		{[]string{matrix("exclude = m.q")}, api.ErrNotFound},
		{[]string{matrix(block("step \"log\""))}, api.ErrSyntax},
		{[]string{matrix("x = [1]", block("x"))}, api.ErrSyntax},

		// Those of matrix.Expand.
		{[]string{matrix("x = [1, 1]")}, api.ErrExists},
		{[]string{matrix("x = [[1]]")}, api.ErrType},
		{[]string{matrix("include = [{k: []}]")}, api.ErrType},
		{[]string{matrix("exclude = [m, {k: {}}]")}, api.ErrType},
		{[]string{matrix("a = []", "c = []", "d = []", "e = []", "f = []", "g = []", "h = []", "i = []", "j = []")}, api.ErrLimit},
		{[]string{matrix("x = l")}, api.ErrExists},
		{[]string{matrix("x = split(\"a,b,a\", \",\")")}, api.ErrExists},

		// Variables with names of parameters.
		{[]string{matrix("n = [1]")}, api.ErrExists},
		{[]string{matrix("x = [1]", "z = [1]")}, api.ErrExists},
		{[]string{matrix("x = [1]", "include = [{x: 2}, {s: 1}]")}, api.ErrExists},
		{[]string{matrix("n = []")}, api.OK},
		{[]string{matrix("x = [1]", "exclude = [{n: 1}]")}, api.OK},
		{[]string{matrix("n = [1]", "exclude = [{n: 1}]")}, api.OK},

		{[]string{"shards = undefined"}, api.ErrName},
		{[]string{"shards = x", matrix("x = [1]")}, api.ErrName},
		{[]string{"shards = 1 % 0"}, api.ErrDivide},
		{[]string{"shards = \"2\""}, api.ErrType},
		{[]string{"shards = [2]"}, api.ErrType},
		{[]string{"shards = null"}, api.ErrType},
		{[]string{"shards = 0"}, api.ErrRange},
		{[]string{"shards = -1"}, api.ErrRange},
		{[]string{"shards = 65"}, api.ErrRange},
		{[]string{"shards = 64"}, api.OK},
		{[]string{"shards = 65", matrix()}, api.ErrRange},

		// Names that are not plain are in the environment of an instance, which every evaluation checks.
		{[]string{matrix("include = [{\"a b\": 1}]"), "group = \"g\""}, api.ErrInvalid},
		{[]string{matrix("include = [{\"a b\": 1}]"), "group = undefined"}, api.ErrInvalid},
		{[]string{matrix("include = [{\"a b\": 1}]"), "colour = 1"}, api.ErrName},
		{[]string{matrix("include = [{\"null\": 1}]")}, api.ErrInvalid},
		{[]string{matrix("success = [1]")}, api.ErrExists},
		{[]string{matrix("x = " + long), "when = x == \"\""}, api.OK},
	} {
		source := withParams + job("a", x.lines...)
		if x.want == api.OK {
			compiled(t, source)
		} else {
			expectError(t, source, x.want)
		}
	}
}

// P19.3: of two errors the first one in the order of the promise is returned.
func TestInstanceErrorsInOrder(t *testing.T) {
	for _, x := range []struct {
		lines []string
		want  api.Errno
	}{
		{[]string{"matrix {\nx = 1 / 0\n}", "matrix {\n}"}, api.ErrExists},
		{[]string{"matrix {\nx = 1\ny = 1 / 0\n}"}, api.ErrType},
		{[]string{"matrix {\ny = 1 / 0\nx = 1\n}"}, api.ErrDivide},
		{[]string{"matrix {\ninclude = 1\nx = 1 / 0\n}"}, api.ErrType},
		{[]string{"matrix {\nx = 1 / 0\nexclude = 1\n}"}, api.ErrDivide},
		{[]string{"matrix {\nstep {\n}\nx = 1 / 0\n}"}, api.ErrDivide},
		{[]string{"matrix {\nstep {\n}\nx = [1, 1]\n}"}, api.ErrSyntax},
		{[]string{"matrix {\nx = [1, 1]\ny = 1\n}"}, api.ErrType},
		{[]string{"matrix {\nn = [[1]]\n}"}, api.ErrType},
		{[]string{"shards = 1 / 0", "matrix {\nx = [[]]\n}"}, api.ErrType},
		{[]string{"shards = 1 / 0", "matrix {\nn = [1]\n}"}, api.ErrExists},
		{[]string{"shards = 1 / 0", "matrix {\ninclude = [{q: 1}, {n: 1}]\n}"}, api.ErrExists},
		{[]string{"colour = 1", "shards = 0"}, api.ErrRange},
		{[]string{"colour = 1", "shards = \"\""}, api.ErrType},
		{[]string{"colour = 1", "matrix {\nn = [1]\n}"}, api.ErrExists},
		{[]string{"colour = 1", "matrix {\n}", "shards = 0"}, api.ErrRange},
	} {
		expectError(t, withParams+job("a", x.lines...), x.want)
	}

	// Instance by instance, each with all its attributes.
	matrix := "matrix {\nx = [1, 0]\n}"
	expectError(t, withParams+job("a", matrix, "cost = 1 / x", "colour = 1"), api.ErrName)
	expectError(t, withParams+job("a", matrix, "cost = 1 / x", "priority = x == 0 ? \"\" : 1"), api.ErrDivide)
	expectError(t, withParams+job("a", matrix, "priority = x == 0 ? \"\" : 1", "cost = 1 / x"), api.ErrType)
	expectError(t, withParams+job("a", matrix, "cost = 1 / x", "group = x == 1 ? 1 : \"\""), api.ErrType)
}

// many returns a matrix with as many instances.
func many(n int) string {
	var values []string
	for i := range n {
		values = append(values, fmt.Sprint(i))
	}
	return "matrix {\nx = [" + strings.Join(values, ", ") + "]\n}"
}

// P19.2, step 7: MaxJobs instances, and more.
func TestManyInstances(t *testing.T) {
	full := head
	for i := range 4 {
		full += job(fmt.Sprint("m", i), many(256))
	}
	if p := compiled(t, full); len(p.Jobs) != api.MaxJobs || p.Jobs[1023].ID != "m3.256" {
		t.Errorf("%d jobs", len(p.Jobs))
	}
	if p := compiled(t, head+job("a", many(16), "shards = 64")); len(p.Jobs) != api.MaxJobs || p.Jobs[1023].ID != "a.16.64" {
		t.Errorf("%d jobs", len(p.Jobs))
	}
	if p := compiled(t, full+job("a", "matrix {\n}", "shards = 64")); len(p.Jobs) != api.MaxJobs {
		t.Errorf("%d jobs", len(p.Jobs))
	}
	for _, x := range []struct {
		jobs string
		want api.Errno
	}{
		{full + job("a"), api.ErrLimit},
		{full + job("a", "shards = 1"), api.ErrLimit},
		{head + job("a") + strings.TrimPrefix(full, head), api.ErrLimit},
		{head + job("a", many(17), "shards = 64"), api.ErrLimit},
		{head + job("a", many(256), "shards = 64"), api.ErrLimit},
		{head + job("a", many(257)), api.ErrLimit},

		// It is returned behind the job with which there are too many, before the next one, and before step 8.
		{full + job("a", "colour = 1"), api.ErrName},
		{full + job("a", "shards = 0"), api.ErrRange},
		{full + job("a", block("step \"none\"")), api.ErrInvalid},
		{full + job("a") + job("b", "colour = 1"), api.ErrLimit},
		{full + job("a", "needs = [\"none\"]"), api.ErrLimit},
		{head + job("a", many(256), "shards = 64", "cost = x == 255 ? \"\" : 1"), api.ErrType},
		{head + job("a", many(256), "shards = 64") + job("b", "colour = 1"), api.ErrLimit},
	} {
		expectError(t, x.jobs, x.want)
	}
}

// withMany returns the file with one job after a pipeline with as many parameters.
func withMany(t *testing.T, count int, lines string) api.File {
	f := file(t, head+job("a", lines))
	param := file(t, block("param \"p\"", "type = \"int\"", "default = 1")).Blocks[0]
	for i := range count {
		param.Name = fmt.Sprint("p", i)
		f.Blocks[0].Blocks = append(f.Blocks[0].Blocks, param)
	}
	return f
}

// P19.3: the environment of an instance may have too many variables, and with those of its condition even more.
func TestManyVariables(t *testing.T) {
	for _, x := range []struct {
		params int
		lines  string
		want   api.Errno
	}{
		{1019, "cost = p1018 + 1", api.OK},
		{1018, "cost = p1017 + x\nmatrix {\nx = [1]\n}", api.OK},
		{1020, "", api.ErrTooLong},
		{1019, "matrix {\nx = [1]\n}", api.ErrTooLong},
		{1024, "cost = none", api.ErrName},
		{1024, "cost = none\nmatrix {\nx = [1]\n}", api.ErrTooLong},
		{1023, "cost = none\nmatrix {\nx = [1]\n}", api.ErrName},
		{1024, "colour = 1\nmatrix {\nx = [1]\n}", api.ErrName},
		{1024, "shards = none\nmatrix {\nx = [1]\n}", api.ErrName},
		{1024, "matrix {\nx = []\n}", api.OK},
	} {
		f := withMany(t, x.params, x.lines)
		p, err := compile.File(f, nil)
		if err != x.want || err == api.OK && len(p.Jobs) == 1 && (p.Jobs[0].Cost != 2 || len(p.Jobs[0].Vars) != 1019) {
			t.Errorf("%d parameters and %q: %v, want %v", x.params, x.lines, err, x.want)
		}
	}
}
