package compile_test

import (
	"fmt"
	"strings"
	"testing"

	"pipeline/api"
	"pipeline/compile"
)

// P19.4, P19.5: a job that states everything.
func TestFullJob(t *testing.T) {
	source := withParams + job("before", "outputs = [\"o7\", \"o\"]") + job("gen", "needs = [\"before\"]") + block("job \"full\"",
		"needs = [\"gen\"]",
		"labels = [\"os=${os}\", \"arm\", \"arm\"]",
		"uses = [\"before/o${n}\", \"before/o\"]",
		"outputs = [\"z${k}\", \"a\"]",
		"secrets = l",
		"tests = [\"t/10\", \"t/${1 + 1}\"]",
		"inputs = [\"src/**\", \"${os}$$/*\", \"src/**\"]",
		"when = success && os == \"linux\"",
		"group = \"g/${os}\"",
		"environment = \"prod\"",
		"policy = \"${\\\"latest\\\"}\"",
		"timeout = \"${n}m\"",
		"priority = n + 1",
		"cost = k * 10",
		"allow_failure = b",
		"child = !b || os == \"linux\"",
		"shards = 2",
		block("matrix", "os = [\"linux\"]", "k = [3]"),
		block("step \"read\"", "name = \"${s}.txt\""),
		block("cache", "key = \"k-${x}\"", "restore = [\"r-${k}\", \"${os}\"]", "files = [\"${k}*\", \"*\"]"),
		block("step \"child\"", "text = \"$${n}${n}\"", "name = \"${n}\""),
		block("retry", "max = 2", "on = [\"input\", \"script\", \"input\", \"${\\\"test\\\"}\"]", "base = \"${n}s\"", "cap = \"1m\""),
		block("cache"),
		block("step \"memo\"", "n = k - 2"),
		block("gate", "approvals = 1", "approvers = [\"eve\", \"${os}\", \"eve\"]", "expiry = \"1${\\\"h\\\"}\""),
	)
	j := plain("full.1.1", "gen")
	j.Labels, j.Uses, j.Outputs, j.Secrets, j.Tests = []string{"arm", "os=linux"}, []string{"before/o", "before/o7"}, []string{"a", "z3"}, []string{"x", "y"}, []string{"t/2", "t/10"}
	j.Inputs = []string{"src/**", "linux$/*", "src/**"}
	j.When = expr(t, "success && os == \"linux\"")
	j.Group, j.Environment, j.Policy, j.Timeout = "g/linux", "prod", api.PolicyLatest, 420000
	j.Priority, j.Cost, j.AllowFail, j.Child = 8, 30, true, true
	j.Shard, j.Shards = 1, 2
	j.Steps = []api.Step{{Op: api.StepRead, Name: "str.txt"}, {Op: api.StepChild, Text: "$${n}${n}", Name: "7"}, {Op: api.StepMemo, N: 1}}
	j.Caches = []api.CacheSpec{{Key: "k-${x}", Restore: []string{"r-${k}", "${os}"}, Files: []string{"${k}*", "*"}}, {}}
	j.Retry = api.Retry{Max: 2, Classes: []int{1, 2, 7}, Base: 7000, Cap: 60000}
	j.HasGate, j.Gate = true, api.GateSpec{Approvals: 1, Approvers: []string{"eve", "linux"}, Expiry: 3600000}
	j.Vars = []api.Var{
		{Name: "b", Value: api.Value{Kind: api.VBool, Bool: true}}, {Name: "k", Value: number(3)}, {Name: "l", Value: list(str("y"), str("x"), str("y"))},
		{Name: "m", Value: api.Value{Kind: api.VMap, Keys: []string{"k"}, List: []api.Value{number(1)}}}, {Name: "n", Value: number(7)}, {Name: "os", Value: str("linux")},
		{Name: "s", Value: str("str")}, {Name: "u", Value: str("<${n}$$>")}, {Name: "z"},
	}
	second := j
	second.ID, second.Shard = "full.1.2", 2
	p := compiled(t, source)
	if len(p.Jobs) != 4 || !same(p.Jobs[2], j) || !same(p.Jobs[3], second) {
		t.Errorf("the plan is\n%+v, want\n%+v", p.Jobs[2:], []api.Job{j, second})
	}
}

// P19.4: the kinds of the attributes.
func TestKinds(t *testing.T) {
	values := map[string]string{
		"null": "null", "bool": "b", "int": "n", "string": "s", "empty": "[]", "strings": "l", "mixed": "[\"a\", 1]", "nested": "[[\"a\"]]", "map": "m",
	}
	kinds := map[string]string{
		"needs": "empty strings", "labels": "empty strings", "uses": "empty strings", "outputs": "empty strings", "secrets": "empty strings", "tests": "empty strings", "inputs": "empty strings",
		"group": "string", "environment": "string", "policy": "string", "timeout": "string", "priority": "int", "cost": "int", "allow_failure": "bool", "child": "bool",
		"step name": "string", "step text": "string", "step n": "int", "step child text": "string",
		"retry max": "int", "retry on": "empty strings", "retry base": "string", "retry cap": "string",
		"cache key": "string", "cache restore": "empty strings", "cache files": "empty strings",
		"gate approvals": "int", "gate approvers": "empty strings", "gate expiry": "string",
	}
	for attr, allowed := range kinds {
		for kind, value := range values {
			_, _, err := compile.Pipeline(withParams+job("a", line(attr, value)), nil)
			if fits := strings.Contains(" "+allowed+" ", " "+kind+" "); fits == (err == api.ErrType) {
				t.Errorf("%s with a value of the kind %s: %v", attr, kind, err)
			}
		}
		expectError(t, withParams+job("a", line(attr, "undefined")), api.ErrName)
		expectError(t, withParams+job("a", line(attr, "m.none")), api.ErrNotFound)
		expectError(t, withParams+job("a", line(attr, "1 / 0")), api.ErrDivide)
	}
	for _, x := range []string{"when = undefined", "when = \"\"", "when = 1", "when = m.none + \"\""} {
		if _, _, err := compile.Pipeline(withParams+job("a", x), nil); err != api.ErrType && err != api.ErrName {
			t.Errorf("%s: %v", x, err)
		}
	}
	compiled(t, withParams+job("a", "when = 1 / 0 == 1"))
}

// line returns the source that gives an attribute a value, in its block.
func line(attr, value string) string {
	words := strings.Fields(attr)
	name := words[len(words)-1]
	switch {
	case len(words) == 1:
		return name + " = " + value
	case words[0] != "step":
		return block(words[0], name+" = "+value)
	case len(words) == 3:
		return block("step \"child\"", name+" = "+value)
	}
	return block("step \"log\"", name+" = "+value)
}

// P19.4, P19.5: strings become texts, in order, except those that are taken as they are.
func TestTexts(t *testing.T) {
	lists := []string{"needs", "labels", "uses", "outputs", "secrets", "tests", "inputs", "retry on", "gate approvers"}
	strs := []string{"group", "environment", "policy", "timeout", "step name", "step text", "retry base", "retry cap", "gate expiry"}
	for _, x := range []struct {
		text string
		want api.Errno
	}{{"${", api.ErrTruncated}, {"${1 2}", api.ErrSyntax}, {"${undefined}", api.ErrName}, {"${1 / 0}", api.ErrDivide}, {"${l}", api.ErrType}, {"${m.q}", api.ErrNotFound}} {
		for _, attr := range lists {
			expectError(t, withParams+job("a", line(attr, "[\"a\", \""+x.text+"\", \"${[][0]}\"]")), x.want)
			expectError(t, withParams+job("a", line(attr, "[\""+x.text+"\", 1]")), api.ErrType)
		}
		for _, attr := range strs {
			expectError(t, withParams+job("a", line(attr, "\""+x.text+"\"")), x.want)
		}
	}
	// What the values of variables contain is expanded, once.
	p := compiled(t, withParams+job("a", block("step \"log\"", "text = u"), block("step \"echo\"", "text = \"${u}\"", "name = u + \"${s}\"")))
	if got := p.Jobs[0].Steps; !same(got, []api.Step{{Op: api.StepLog, Text: "<7$>"}, {Op: api.StepEcho, Text: "<${n}$$>", Name: "<7$>str"}}) {
		t.Errorf("the steps are %+v", got)
	}
	long := strings.Repeat("x", api.MaxString-8) // the value of u has eight bytes
	if p := compiled(t, withParams+job("a", block("step \"log\"", "text = \"${u}\" + \""+long+"\""))); len(p.Jobs[0].Steps[0].Text) != api.MaxString {
		t.Errorf("a text of %d bytes", len(p.Jobs[0].Steps[0].Text))
	}
	expectError(t, withParams+job("a", block("step \"log\"", "text = \"${u}\" + \"y"+long+"\"")), api.ErrTooLong)

	// Those that are not expanded.
	p = compiled(t, withParams+job("a", block("step \"child\"", "text = \"${undefined}$\""), block("cache", "key = \"$${undefined}\"", "restore = [\"${undefined}\", \"\"]", "files = [\"${\"]")))
	if j := p.Jobs[0]; j.Steps[0].Text != "${undefined}$" || !same(j.Caches, []api.CacheSpec{{Key: "$${undefined}", Restore: []string{"${undefined}", ""}, Files: []string{"${"}}}) {
		t.Errorf("strings that are taken as they are: %+v", j)
	}
	expectError(t, withParams+job("a", block("step \"child\"", "name = \"${undefined}\"")), api.ErrName)
}

// P19.4: the names of the policies, and durations.
func TestPolicyAndTimeout(t *testing.T) {
	for i, name := range []string{"queue", "latest", "replace"} {
		if p := compiled(t, head+job("a", "policy = \""+name+"\"")); p.Jobs[0].Policy != i {
			t.Errorf("%s is %d", name, p.Jobs[0].Policy)
		}
	}
	for _, name := range []string{"", "Queue", "fast", "queue ", "0"} {
		expectError(t, head+job("a", "policy = \""+name+"\""), api.ErrInvalid)
	}
	for text, want := range map[string]int{"1ms": 1, "1h30m": 5400000, "13031d": 1125878400000} {
		if p := compiled(t, head+job("a", "timeout = \""+text+"\"")); p.Jobs[0].Timeout != want {
			t.Errorf("%s is %d", text, p.Jobs[0].Timeout)
		}
	}
	for _, attr := range []string{"timeout", "retry base", "retry cap", "gate expiry"} {
		expectError(t, head+job("a", line(attr, "\"90m\"")), api.ErrSyntax)
		expectError(t, head+job("a", line(attr, "\"\"")), api.ErrSyntax)
		expectError(t, head+job("a", line(attr, "\"13031250d\"")), api.ErrRange)
	}
	expectError(t, head+job("a", "timeout = \"0s\""), api.ErrRange)
}

// P19.4: which attributes a job has, and that they are processed in order.
func TestAttributesInOrder(t *testing.T) {
	for _, name := range []string{"colour", "Needs", "need", "steps", "id", "vars", "matrix", "step", "name", "max", "include", "allowfail", "retry"} {
		expectError(t, head+job("a", name+" = 1"), api.ErrName)
		expectError(t, head+job("a", name+" = 1 / 0"), api.ErrName)
	}
	for _, x := range []struct {
		lines []string
		want  api.Errno
	}{
		{[]string{"cost = \"\"", "priority = 1 / 0"}, api.ErrType},
		{[]string{"priority = 1 / 0", "cost = \"\""}, api.ErrDivide},
		{[]string{"colour = 1", "cost = \"\""}, api.ErrName},
		{[]string{"cost = \"\"", "colour = 1"}, api.ErrType},
		{[]string{"policy = \"x\"", "timeout = \"x\""}, api.ErrInvalid},
		{[]string{"timeout = \"x\"", "policy = \"x\""}, api.ErrSyntax},
		{[]string{"labels = [\"${undefined}\"]", "group = \"${1 / 0}\""}, api.ErrName},
		{[]string{"group = \"${1 / 0}\"", "labels = [\"${undefined}\"]"}, api.ErrDivide},

		// Nested blocks are after all attributes.
		{[]string{"colour {\n}", "cost = \"\""}, api.ErrType},
		{[]string{"step \"none\" {\n}", "cost = 1 / 0"}, api.ErrDivide},
		{[]string{"step \"none\" {\n}", "needs = [\"none\"]"}, api.ErrInvalid},
	} {
		expectError(t, head+job("a", x.lines...), x.want)
	}
}

// P19.5: the operations of steps.
func TestOperations(t *testing.T) {
	names := []string{"", "read", "use", "secret", "memo", "emit", "log", "echo", "test", "fail", "sleep", "child"}
	for op, name := range names {
		if op == 0 {
			continue
		}
		p := compiled(t, withParams+job("a", block("cache"), block("step \""+name+"\"", "n = 0", "name = \"x${n}\"", "text = \"y${n}\"")))
		want := api.Step{Op: op, Name: "x7", Text: "y7"}
		if op == api.StepChild {
			want.Text = "y${n}"
		}
		if got := p.Jobs[0].Steps; !same(got, []api.Step{want}) {
			t.Errorf("the step %s is %+v", name, got)
		}
		if p := compiled(t, head+job("a", block("cache"), block("step \""+name+"\""))); !same(p.Jobs[0].Steps, []api.Step{{Op: op}}) {
			t.Errorf("the empty step %s is %+v", name, p.Jobs[0].Steps)
		}
	}
	for _, name := range []string{"Read", "run", "reads", "read ", "1", "${\\\"read\\\"}", "matrix"} {
		expectError(t, head+job("a", block("step \""+name+"\"", "colour = 1")), api.ErrInvalid)
	}
	expectError(t, head+job("a", block("step")), api.ErrInvalid)
}

// P19.5: the defaults of a retry, and its classes.
func TestRetry(t *testing.T) {
	for _, x := range []struct {
		lines []string
		want  api.Retry
	}{
		{nil, api.Retry{Classes: []int{4, 5}, Base: 1000, Cap: 60000}},
		{[]string{"max = 3"}, api.Retry{Max: 3, Classes: []int{4, 5}, Base: 1000, Cap: 60000}},
		{[]string{"cap = \"0s\"", "base = \"2s\""}, api.Retry{Classes: []int{4, 5}, Base: 2000, Cap: 0}},
		{[]string{"on = []"}, api.Retry{Base: 1000, Cap: 60000}},
		{[]string{"on = [\"script\"]"}, api.Retry{Classes: []int{1}, Base: 1000, Cap: 60000}},
		{[]string{"on = [\"input\", \"denied\", \"preempted\", \"lost\", \"timeout\", \"test\", \"script\", \"test\"]"}, api.Retry{Classes: []int{1, 2, 3, 4, 5, 6, 7}, Base: 1000, Cap: 60000}},
	} {
		if p := compiled(t, head+job("a", block("retry", x.lines...))); !same(p.Jobs[0].Retry, x.want) {
			t.Errorf("%v gives %+v", x.lines, p.Jobs[0].Retry)
		}
	}
	for _, name := range []string{"", "Script", "none", "scripts", "1"} {
		expectError(t, head+job("a", block("retry", "on = [\"test\", \""+name+"\"]")), api.ErrInvalid)
		expectError(t, head+job("a", block("retry", "on = [\""+name+"\", \"${undefined}\"]")), api.ErrName)
	}
}

// P19.5: the errors of nested blocks, in order.
func TestBlocksInOrder(t *testing.T) {
	for _, x := range []struct {
		lines []string
		want  api.Errno
	}{
		{[]string{block("steps")}, api.ErrName},
		{[]string{block("job \"b\"")}, api.ErrName},
		{[]string{block("param \"x\"", "type = \"int\"")}, api.ErrName},
		{[]string{block("colour", "x = 1 / 0")}, api.ErrName},
		{[]string{block("retry"), block("retry")}, api.ErrExists},
		{[]string{block("gate", "approvers = [\"a\"]", "approvals = 1", "expiry = \"1s\""), block("gate")}, api.ErrExists},
		{[]string{block("retry"), block("step \"log\""), block("cache"), block("retry", "colour = 1")}, api.ErrExists},
		{[]string{block("gate"), block("retry"), block("gate", "colour = 1")}, api.ErrExists},
		{[]string{block("step \"log\"", "key = \"\"")}, api.ErrName},
		{[]string{block("step \"log\"", "N = 1 / 0")}, api.ErrName},
		{[]string{block("retry", "n = 1 / 0")}, api.ErrName},
		{[]string{block("cache", "text = 1 / 0")}, api.ErrName},
		{[]string{block("gate", "max = 1 / 0")}, api.ErrName},
		{[]string{block("step \"log\"", block("step \"log\""))}, api.ErrSyntax},
		{[]string{block("retry", block("matrix"))}, api.ErrSyntax},
		{[]string{block("cache", block("files"))}, api.ErrSyntax},
		{[]string{block("gate", block("gate"))}, api.ErrSyntax},

		// Within a block.
		{[]string{block("step \"none\"", "colour = 1")}, api.ErrInvalid},
		{[]string{block("step \"log\"", "colour = 1", "n = 1 / 0")}, api.ErrName},
		{[]string{block("step \"log\"", "n = 1 / 0", "colour = 1")}, api.ErrDivide},
		{[]string{block("step \"log\"", block("x"), "colour = 1")}, api.ErrName},
		{[]string{block("retry", block("x"), "max = \"\"")}, api.ErrType},
		{[]string{block("cache", block("x"), "key = 1")}, api.ErrType},
		{[]string{block("gate", block("x"), "expiry = \"\"")}, api.ErrSyntax},

		// Block by block.
		{[]string{block("step \"none\""), block("colour")}, api.ErrInvalid},
		{[]string{block("colour"), block("step \"none\"")}, api.ErrName},
		{[]string{block("step \"log\"", block("x")), block("step \"none\"")}, api.ErrSyntax},
		{[]string{block("step \"log\"", "n = \"\""), block("retry"), block("retry")}, api.ErrType},
		{[]string{block("retry"), block("retry"), block("step \"log\"", "n = \"\"")}, api.ErrExists},
	} {
		expectError(t, head+job("a", x.lines...), x.want)
	}
	// Caches and steps may occur in any number, and blocks may have names.
	p := compiled(t, head+job("a", block("cache \"x\""), block("retry \"x\""), block("cache", "key = \"k\""), block("gate \"x\"", "approvers = [\"a\"]", "approvals = 1", "expiry = \"1s\"")))
	if j := p.Jobs[0]; !same(j.Caches, []api.CacheSpec{{}, {Key: "k"}}) || !j.HasGate || !same(j.Gate, api.GateSpec{Approvals: 1, Approvers: []string{"a"}, Expiry: 1000}) {
		t.Errorf("the job is %+v", j)
	}
}

// P19.5, P19.6: a gate without its attributes is not valid.
func TestGateWithoutAttributes(t *testing.T) {
	lines := []string{"approvers = [\"a\"]", "approvals = 1", "expiry = \"1s\""}
	compiled(t, head+job("a", block("gate", lines...)))
	for i := range lines {
		var rest []string
		for k, l := range lines {
			if k != i {
				rest = append(rest, l)
			}
		}
		expectError(t, head+job("a", block("gate", rest...)), api.ErrRange)
	}
	expectError(t, head+job("a", block("gate")), api.ErrRange)
}

// P19.2, step 10: what compiled jobs state is checked in the plan.
func TestInvalidJobs(t *testing.T) {
	for _, x := range []struct {
		line string
		want api.Errno
	}{
		{"when = undefined", api.ErrName},
		{"when = 1", api.ErrType},
		{line("step n", "-1"), api.ErrRange},
		{block("step \"memo\""), api.ErrRange},
		{strings.Repeat(block("step \"log\""), 65), api.ErrLimit},
		{"labels = [\"\"]", api.ErrInvalid},
		{"group = \"A\"", api.ErrInvalid},
		{"priority = -1", api.ErrRange},
		{"priority = 10", api.ErrRange},
		{"cost = 0", api.ErrRange},
		{"cost = 1000001", api.ErrRange},
		{line("retry max", "16"), api.ErrRange},
		{"inputs = [\"[\"]", api.ErrSyntax},
		{"uses = [\"a/x\"]", api.ErrNotFound},
		{"outputs = [\"X\"]", api.ErrInvalid},
		{"secrets = [\"\"]", api.ErrInvalid},
		{line("cache key", "\"${\""), api.ErrTruncated},
		{line("cache restore", "[\"${1 2}\"]"), api.ErrSyntax},
		{line("cache files", "[\"[\"]"), api.ErrSyntax},
		{"environment = \"a/b\"", api.ErrInvalid},
		{"tests = [\"a//b\"]", api.ErrInvalid},
	} {
		expectError(t, head+job("a", x.line), x.want)
		expectError(t, head+job("a", x.line)+job("b", "needs = [\"c\"]"), api.ErrNotFound)
	}
	if p := compiled(t, head+job("a", strings.Repeat(block("step \"log\""), 64))); len(p.Jobs[0].Steps) != 64 {
		t.Error(fmt.Sprint(len(p.Jobs[0].Steps), " steps"))
	}
}
