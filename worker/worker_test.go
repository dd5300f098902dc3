package worker_test

import (
	"math"
	"math/big"
	"math/rand/v2"
	"reflect"
	"slices"
	"strconv"
	"strings"
	"testing"

	"pipeline/api"
	"pipeline/ident"
	"pipeline/label"
	"pipeline/worker"
)

var chance = rand.New(rand.NewPCG(28, 1))

// edges are the edges of all ranges.
var edges = []int{
	math.MinInt, math.MinInt + 1, -1, 0, 1, 2, 3, 4, 5, api.MaxSlots - 1, api.MaxSlots, api.MaxSlots + 1, api.PreemptTime, api.LeaseTime - 1, api.LeaseTime, api.LeaseTime + 1,
	api.MaxTime - api.LeaseTime, api.MaxTime - api.PreemptTime - 1, api.MaxTime - api.PreemptTime, api.MaxTime - api.PreemptTime + 1,
	api.MaxTime - 1, api.MaxTime, api.MaxTime + 1, math.MaxInt - api.LeaseTime, math.MaxInt - 1, math.MaxInt,
}

// ids are the strings that stand for identifiers, or almost do.
var ids = []string{"a", "w9", "w10", "0", "a.b-c_d", "", "A", "a/b", "a b", "ä", "\xff", strings.Repeat("a", api.MaxName), strings.Repeat("a", api.MaxName+1)}

// machine returns a valid worker with two tokens.
func machine(id string) api.Worker {
	return api.Worker{ID: id, Labels: []string{"cpu=4", "linux"}, Trust: api.TrustBranch, Slots: 3, Preemptible: true, Beat: 1000, Tokens: []int{4, 7}}
}

func within(n, least, most int) bool { return n >= least && n <= most }

// checked is what P28.1 says.
func checked(w api.Worker) api.Errno {
	if !ident.Name(w.ID) {
		return api.ErrName
	}
	if e := label.Valid(w.Labels); e != api.OK {
		return e
	}
	if !slices.Contains([]int{api.TrustFork, api.TrustBranch, api.TrustProtected}, w.Trust) || !within(w.Slots, 1, api.MaxSlots) ||
		!slices.Contains([]int{api.WorkerIdle, api.WorkerDraining, api.WorkerNotified, api.WorkerLost}, w.Phase) ||
		!within(w.Beat, 0, api.MaxTime) || !within(w.Until, 0, api.MaxTime) {
		return api.ErrRange
	}
	if w.Phase != api.WorkerNotified && w.Until != 0 || w.Phase == api.WorkerNotified && !w.Preemptible {
		return api.ErrState
	}
	for i, token := range w.Tokens {
		for _, other := range w.Tokens[:i] {
			if other >= token {
				return api.ErrOrder
			}
		}
		if !within(token, 1, api.MaxTime) {
			return api.ErrOrder
		}
	}
	if len(w.Tokens) > w.Slots {
		return api.ErrLimit
	}
	return api.OK
}

// same reports whether workers are equal. Empty lists may be nil or not.
func same(a, b api.Worker) bool {
	lists := slices.Equal(a.Labels, b.Labels) && slices.Equal(a.Tokens, b.Tokens)
	a.Labels, a.Tokens, b.Labels, b.Tokens = nil, nil, nil, nil
	return lists && reflect.DeepEqual(a, b)
}

func expectValid(t *testing.T, w api.Worker) api.Errno {
	t.Helper()
	e := worker.Valid(w)
	if want := checked(w); e != want {
		t.Fatalf("Valid(%+v) = %v, want %v", w, e, want)
	}
	return e
}

// lost is what P28.4 says.
func lost(w api.Worker, now int) bool {
	silence := new(big.Int).Sub(big.NewInt(int64(now)), big.NewInt(int64(w.Beat)))
	return w.Phase == api.WorkerLost || silence.Cmp(big.NewInt(api.LeaseTime)) >= 0 || w.Phase == api.WorkerNotified && now >= w.Until
}

// free is what P28.5 says.
func free(w api.Worker, now int) int {
	if checked(w) == api.OK && w.Phase == api.WorkerIdle && !lost(w, now) {
		return w.Slots - len(w.Tokens)
	}
	return 0
}

// stepped is what the table of P28.3 says.
func stepped(w api.Worker, event, now int) (api.Worker, api.Errno) {
	if checked(w) != api.OK {
		return w, api.ErrInvalid
	}
	if !slices.Contains([]int{api.WorkerBeat, api.WorkerDrain, api.WorkerNotice, api.WorkerLeave}, event) || !within(now, 0, api.MaxTime) {
		return w, api.ErrRange
	}
	if w.Phase == api.WorkerLost || event == api.WorkerNotice && !w.Preemptible {
		return w, api.ErrState
	}
	idle, draining := w.Phase == api.WorkerIdle, w.Phase == api.WorkerDraining
	if event == api.WorkerBeat && now > w.Beat {
		w.Beat = now
	}
	if event == api.WorkerDrain && idle {
		w.Phase = api.WorkerDraining
	}
	if event == api.WorkerNotice && (idle || draining) {
		w.Phase = api.WorkerNotified
		if w.Until = now + api.PreemptTime; w.Until > api.MaxTime {
			w.Until = api.MaxTime
		}
	}
	if event == api.WorkerLeave {
		w.Phase = api.WorkerLost
		w.Until = 0
	}
	return w, api.OK
}

// attached is what P28.6 says.
func attached(w api.Worker, token int) (api.Worker, api.Errno) {
	switch {
	case checked(w) != api.OK:
		return w, api.ErrInvalid
	case !within(token, 1, api.MaxTime):
		return w, api.ErrRange
	case slices.Contains(w.Tokens, token):
		return w, api.ErrExists
	case w.Phase != api.WorkerIdle:
		return w, api.ErrState
	case len(w.Tokens) >= w.Slots:
		return w, api.ErrFull
	}
	w.Tokens = slices.Concat(w.Tokens, []int{token})
	slices.Sort(w.Tokens)
	return w, api.OK
}

// detached is what P28.7 says.
func detached(w api.Worker, token int) api.Worker {
	var tokens []int
	for _, other := range w.Tokens {
		if other != token {
			tokens = append(tokens, other)
		}
	}
	w.Tokens = tokens
	return w
}

func expectStep(t *testing.T, w api.Worker, event, now int) (api.Worker, api.Errno) {
	t.Helper()
	got, e := worker.Step(w, event, now)
	if want, wantErr := stepped(w, event, now); !same(got, want) || e != wantErr {
		t.Fatalf("Step(%+v, %d, %d) = %+v, %v, want %+v, %v", w, event, now, got, e, want, wantErr)
	}
	return got, e
}

func expectTimes(t *testing.T, w api.Worker, now int) {
	t.Helper()
	if got, want := worker.Lost(w, now), lost(w, now); got != want {
		t.Fatalf("Lost(%+v, %d) = %v, want %v", w, now, got, want)
	}
	if got, want := worker.Free(w, now), free(w, now); got != want {
		t.Fatalf("Free(%+v, %d) = %v, want %v", w, now, got, want)
	}
}

func expectToken(t *testing.T, w api.Worker, token int) (api.Worker, api.Errno) {
	t.Helper()
	got, e := worker.Attach(w, token)
	if want, wantErr := attached(w, token); !same(got, want) || e != wantErr {
		t.Fatalf("Attach(%+v, %d) = %+v, %v, want %+v, %v", w, token, got, e, want, wantErr)
	}
	if got, want := worker.Detach(w, token), detached(w, token); !same(got, want) {
		t.Fatalf("Detach(%+v, %d) = %+v, want %+v", w, token, got, want)
	}
	return got, e
}

// expect compares all functions that take one worker with what the promises say.
func expect(t *testing.T, w api.Worker, token, now int) {
	t.Helper()
	expectValid(t, w)
	expectTimes(t, w, now)
	expectToken(t, w, token)
	for event := api.WorkerBeat; event <= api.WorkerLeave; event++ {
		expectStep(t, w, event, now)
	}
	expectStep(t, w, token, now)
}

// spoiling returns, for each error of Valid in the order in which they are named, changes after which a valid worker has it.
func spoiling() [][]func(w *api.Worker) {
	outside := func(n int) []func(w *api.Worker) {
		return []func(w *api.Worker){
			func(w *api.Worker) { w.Trust = n },
			func(w *api.Worker) { w.Slots = n },
			func(w *api.Worker) { w.Phase = n },
			func(w *api.Worker) { w.Beat = n },
			func(w *api.Worker) { w.Until = n },
		}
	}
	return [][]func(w *api.Worker){
		{func(w *api.Worker) { w.ID = "" }, func(w *api.Worker) { w.ID = "W" }, func(w *api.Worker) { w.ID = "a/b" }},
		{
			func(w *api.Worker) { w.Labels = make([]string, api.MaxLabels+1) },
			func(w *api.Worker) { w.Labels = []string{"a", "a"} },
			func(w *api.Worker) { w.Labels = []string{"b", "a"} },
			func(w *api.Worker) { w.Labels = []string{"x="} },
		},
		slices.Concat(outside(-1), outside(api.MaxTime+1), outside(math.MinInt), outside(math.MaxInt)),
		{
			func(w *api.Worker) { w.Phase, w.Until = api.WorkerIdle, 1 },
			func(w *api.Worker) { w.Phase, w.Until = api.WorkerDraining, api.MaxTime },
			func(w *api.Worker) { w.Phase, w.Until = api.WorkerLost, 1 },
			func(w *api.Worker) { w.Phase, w.Preemptible = api.WorkerNotified, false },
		},
		{
			func(w *api.Worker) { w.Tokens = []int{5, 5, 6, 7} },
			func(w *api.Worker) { w.Tokens = []int{6, 5, 7, 8} },
			func(w *api.Worker) { w.Tokens = []int{0, 1, 2, 3} },
			func(w *api.Worker) { w.Tokens = []int{1, 2, 3, api.MaxTime + 1} },
		},
		{func(w *api.Worker) { w.Tokens = []int{1, 2, 3, 4} }},
	}
}

// P28.1: each condition of an error, and all pairs of them.
func TestValidErrors(t *testing.T) {
	kinds := spoiling()
	for i, changes := range kinds {
		for _, change := range changes {
			w := machine("w")
			change(&w)
			if expectValid(t, w) == api.OK {
				t.Fatalf("Valid accepts %+v", w)
			}
			for _, other := range slices.Concat(kinds[i+1:]...) {
				w := machine("w")
				other(&w)
				change(&w)
				expectValid(t, w)
			}
		}
	}
	for i, want := range []api.Errno{api.ErrName, api.ErrTooLong, api.ErrRange, api.ErrState, api.ErrOrder, api.ErrLimit} {
		w := machine("w")
		for j := len(kinds) - 1; j >= i; j-- {
			kinds[j][0](&w)
		}
		if e := expectValid(t, w); e != want {
			t.Errorf("%+v: %v, want %v", w, e, want)
		}
	}
}

// P28.1, P28.3 to P28.7: each number at the edges of all ranges, each phase, and identifiers.
func TestEdges(t *testing.T) {
	for _, n := range edges {
		for phase := api.WorkerIdle - 1; phase <= api.WorkerLost+1; phase++ {
			changed := make([]api.Worker, 0, 8)
			for range cap(changed) {
				w := machine("w")
				w.Phase = phase
				changed = append(changed, w)
			}
			changed[0].Trust, changed[1].Slots, changed[2].Phase, changed[3].Beat, changed[4].Until = n, n, n, n, n
			changed[5].Tokens, changed[6].Tokens = []int{n}, []int{2, n, 8}
			changed[7].Preemptible, changed[7].Until = false, n
			for _, w := range changed {
				for _, now := range edges {
					expect(t, w, now, 2000)
					expect(t, w, 5, now)
				}
			}
		}
	}
	for _, id := range ids {
		expect(t, machine(id), 5, 2000)
	}
	w := machine("w")
	w.Labels, w.Tokens = nil, nil
	if e := expectValid(t, w); e != api.OK {
		t.Error(e)
	}
	w.Slots = api.MaxSlots
	for token := range api.MaxSlots {
		w.Tokens = append(w.Tokens, api.MaxTime-api.MaxSlots+token+1)
	}
	if e := expectValid(t, w); e != api.OK {
		t.Error(e)
	}
}

// P28.1: labels.
func TestLabels(t *testing.T) {
	many := make([]string, api.MaxLabels+1)
	for i := range many {
		many[i] = "l" + strconv.Itoa(i)
	}
	for labels, want := range map[string]api.Errno{
		"": api.ErrSyntax, "a": api.OK, "a,b": api.OK, "b,a": api.ErrOrder, "a,a": api.ErrExists, "a,a=1": api.ErrExists, "cpu>=4": api.ErrSyntax, "cpu=04": api.ErrSyntax,
		strings.Join(many, ","): api.ErrTooLong, strings.Join(many[1:], ","): api.OK,
	} {
		w := machine("w")
		w.Labels = strings.Split(labels, ",")
		w.Slots = 3
		if e := expectValid(t, w); e != want {
			t.Errorf("labels %s: %v, want %v", labels, e, want)
		}
		w.Slots = 0
		if e := expectValid(t, w); e != want && want != api.OK {
			t.Errorf("labels %s: %v, want %v", labels, e, want)
		}
		expect(t, w, 5, 2000)
	}
}

// joined is what P28.2 says.
func joined(ws []api.Worker, w api.Worker, now int) ([]api.Worker, api.Errno) {
	if len(ws) > api.MaxWorkers {
		return ws, api.ErrInvalid
	}
	for i := range ws {
		if checked(ws[i]) != api.OK || i > 0 && ident.Compare(ws[i-1].ID, ws[i].ID) >= 0 {
			return ws, api.ErrInvalid
		}
	}
	if !within(now, 0, api.MaxTime) {
		return ws, api.ErrRange
	}
	w.Phase, w.Beat, w.Until, w.Tokens = api.WorkerIdle, now, 0, nil
	if e := checked(w); e != api.OK {
		return ws, e
	}
	for _, other := range ws {
		if other.ID == w.ID {
			return ws, api.ErrExists
		}
	}
	if len(ws) >= api.MaxWorkers {
		return ws, api.ErrFull
	}
	list := append(slices.Clone(ws), w)
	slices.SortStableFunc(list, func(a, b api.Worker) int { return ident.Compare(a.ID, b.ID) })
	return list, api.OK
}

func expectJoin(t *testing.T, ws []api.Worker, w api.Worker, now int) ([]api.Worker, api.Errno) {
	t.Helper()
	got, e := worker.Join(ws, w, now)
	want, wantErr := joined(ws, w, now)
	if !slices.EqualFunc(got, want, same) || e != wantErr {
		t.Fatalf("Join(%+v, %+v, %d) = %+v, %v, want %+v, %v", ws, w, now, got, e, want, wantErr)
	}
	return got, e
}

// crew returns valid workers with IDs.
func crew(names ...string) []api.Worker {
	var ws []api.Worker
	for i, id := range names {
		w := machine(id)
		w.Phase = i % 4
		ws = append(ws, w)
	}
	return ws
}

// P28.2: each place in lists, and each number and name of the worker.
func TestJoin(t *testing.T) {
	for length := range 5 {
		ws := crew("w1", "w2", "w10", "w10.a")[:length]
		for _, id := range append(ids, "w1", "w2", "w3", "w01", "w11", "w10.a", "x") {
			for _, now := range edges {
				expectJoin(t, ws, machine(id), now)
			}
		}
		for _, n := range edges {
			changed := []api.Worker{machine("w3"), machine("w3"), machine("w3"), machine("w3"), machine("w3"), machine("w3")}
			changed[0].Trust, changed[1].Slots, changed[2].Phase, changed[3].Beat, changed[4].Until = n, n, n, n, n
			changed[5].Tokens = []int{n, n}
			for _, w := range changed {
				w.Preemptible = n%2 == 0
				expectJoin(t, ws, w, 5)
				expectJoin(t, ws, w, -1)
			}
		}
	}
	// Only ID, Labels, Trust, Slots and Preemptible count.
	w := machine("w3")
	w.Phase, w.Beat, w.Until, w.Tokens = 99, -5, -6, []int{0, 0, 0, 0, 0}
	ws, e := expectJoin(t, crew("w1", "w10"), w, 77)
	want := api.Worker{ID: "w3", Labels: []string{"cpu=4", "linux"}, Trust: api.TrustBranch, Slots: 3, Preemptible: true, Beat: 77}
	if e != api.OK || len(ws) != 3 || !same(ws[1], want) {
		t.Errorf("Join = %+v, %v", ws, e)
	}
}

// P28.2: lists that are not valid.
func TestJoinInvalid(t *testing.T) {
	for _, names := range [][]string{{"b", "a"}, {"a", "a"}, {"w10", "w9"}, {"a", "c", "b"}, {"a", "B"}, {""}} {
		if _, e := expectJoin(t, crew(names...), machine("x"), 5); e != api.ErrInvalid {
			t.Errorf("Join to %v: %v", names, e)
		}
	}
	for _, changes := range spoiling() {
		for _, change := range changes {
			for at := range 3 {
				ws := crew("a", "b", "c")
				change(&ws[at])
				// The errors that are named later apply, too.
				if _, e := expectJoin(t, ws, machine("B"), -1); e != api.ErrInvalid {
					t.Errorf("Join to %+v: %v", ws, e)
				}
				expectJoin(t, ws, machine("d"), 5)
			}
			w := machine("d")
			change(&w)
			expectJoin(t, crew("a", "b", "c"), w, 5)
			expectJoin(t, crew("a", "b", "c"), w, -1)
		}
	}
}

// P28.2: MaxWorkers workers are permitted; each condition of an error holds together with those that are named after it.
func TestJoinLimit(t *testing.T) {
	var names []string
	for i := range api.MaxWorkers + 1 {
		names = append(names, "w"+strconv.Itoa(i))
	}
	all := crew(names...)
	wrong := machine("w7")
	wrong.Slots = 0
	for _, c := range []struct {
		length int
		w      api.Worker
		now    int
		want   api.Errno
	}{
		{api.MaxWorkers + 1, wrong, -1, api.ErrInvalid},
		{api.MaxWorkers, wrong, -1, api.ErrRange},
		{api.MaxWorkers, machine("W"), -1, api.ErrRange},
		{api.MaxWorkers, machine("W"), 5, api.ErrName},
		{api.MaxWorkers, wrong, 5, api.ErrRange},
		{api.MaxWorkers, machine("w7"), 5, api.ErrExists},
		{api.MaxWorkers, machine("x"), 5, api.ErrFull},
		{api.MaxWorkers - 1, machine("x"), 5, api.OK},
		{api.MaxWorkers - 1, machine("w255"), api.MaxTime, api.OK},
		{0, machine("w7"), 0, api.OK},
	} {
		if _, e := expectJoin(t, all[:c.length], c.w, c.now); e != c.want {
			t.Errorf("Join of %q to %d workers: %v, want %v", c.w.ID, c.length, e, c.want)
		}
	}
}

// P28.3: each event in each phase, preemptible or not.
func TestStep(t *testing.T) {
	for _, preemptible := range []bool{true, false} {
		for phase := api.WorkerIdle; phase <= api.WorkerLost; phase++ {
			for _, event := range edges {
				for _, now := range append(edges, 999, 1000, 1001) {
					w := machine("w")
					w.Phase, w.Preemptible = phase, preemptible
					expectStep(t, w, event, now)
					if phase == api.WorkerNotified {
						w.Until = 3000
						expectStep(t, w, event, now)
					}
				}
			}
		}
	}
}

// P28.3: each condition of an error holds together with those that are named after it.
func TestStepErrors(t *testing.T) {
	invalid, gone, steady := machine("W"), machine("w"), machine("w")
	invalid.Phase = api.WorkerLost
	gone.Phase = api.WorkerLost
	steady.Preemptible = false
	for _, c := range []struct {
		w          api.Worker
		event, now int
		want       api.Errno
	}{
		{invalid, 9, -1, api.ErrInvalid},
		{gone, 9, 0, api.ErrRange},
		{gone, 0, 0, api.ErrRange},
		{gone, api.WorkerBeat, -1, api.ErrRange},
		{gone, api.WorkerNotice, api.MaxTime + 1, api.ErrRange},
		{gone, api.WorkerBeat, 0, api.ErrState},
		{gone, api.WorkerDrain, 0, api.ErrState},
		{gone, api.WorkerNotice, 0, api.ErrState},
		{gone, api.WorkerLeave, 0, api.ErrState},
		{steady, api.WorkerNotice, -1, api.ErrRange},
		{steady, api.WorkerNotice, 0, api.ErrState},
		{steady, api.WorkerDrain, 0, api.OK},
	} {
		if _, e := expectStep(t, c.w, c.event, c.now); e != c.want {
			t.Errorf("Step(%+v, %d, %d): %v, want %v", c.w, c.event, c.now, e, c.want)
		}
	}
}

// P28.3: the first notice counts, and Until is limited.
func TestNotice(t *testing.T) {
	for now, until := range map[int]int{0: 5000, 1000: 6000, api.MaxTime - 5001: api.MaxTime - 1, api.MaxTime - 5000: api.MaxTime, api.MaxTime - 1: api.MaxTime, api.MaxTime: api.MaxTime} {
		w, e := expectStep(t, machine("w"), api.WorkerNotice, now)
		if e != api.OK || w.Until != until || w.Phase != api.WorkerNotified {
			t.Errorf("a notice at %d: %+v, %v", now, w, e)
		}
		again, e := expectStep(t, w, api.WorkerNotice, api.MaxTime)
		if e != api.OK || !same(again, w) {
			t.Errorf("a second notice: %+v, %v", again, e)
		}
		if left, e := expectStep(t, w, api.WorkerLeave, now); e != api.OK || left.Until != 0 {
			t.Errorf("leaving after a notice: %+v, %v", left, e)
		}
	}
}

// P28.4: all numbers, whether the worker is valid or not.
func TestLost(t *testing.T) {
	for _, beat := range edges {
		for _, until := range edges {
			for _, now := range append(edges, until, until-1, beat+api.LeaseTime, beat+api.LeaseTime-1) {
				for phase := api.WorkerIdle - 1; phase <= api.WorkerLost+1; phase++ {
					expectTimes(t, api.Worker{Phase: phase, Beat: beat, Until: until, Slots: 1}, now)
				}
			}
		}
	}
	for range 100000 {
		w := machine("w")
		w.Phase, w.Beat, w.Until = chance.IntN(4), int(chance.Uint64()), int(chance.Uint64())
		expectTimes(t, w, int(chance.Uint64()))
		w.Beat, w.Until = chance.IntN(50000), chance.IntN(50000)
		expectTimes(t, w, chance.IntN(100000))
	}
}

// P28.5: only valid workers in the phase WorkerIdle that are not lost have free slots.
func TestFree(t *testing.T) {
	for slots := 1; slots <= 4; slots++ {
		for n := range 6 {
			w := machine("w")
			w.Slots, w.Tokens = slots, []int{1, 2, 3, 4, 5}[:n]
			if got, want := worker.Free(w, 1000), max(0, slots-n); got != want {
				t.Errorf("Free(%+v) = %d, want %d", w, got, want)
			}
		}
	}
	for _, changes := range spoiling() {
		for _, change := range changes {
			w := machine("w")
			w.Slots = 10
			change(&w)
			expectTimes(t, w, 1000)
			expectTimes(t, w, api.MaxTime)
		}
	}
	for _, now := range edges {
		expectTimes(t, machine("w"), now)
	}
}

// P28.6: each condition of an error holds together with those that are named after it.
func TestAttachErrors(t *testing.T) {
	full := machine("w")
	full.Slots, full.Phase = 2, api.WorkerDraining
	invalid, idle := full, full
	invalid.ID, idle.Phase = "W", api.WorkerIdle
	for _, c := range []struct {
		w     api.Worker
		token int
		want  api.Errno
	}{
		{invalid, 0, api.ErrInvalid},
		{full, 0, api.ErrRange},
		{full, api.MaxTime + 1, api.ErrRange},
		{full, 4, api.ErrExists},
		{full, 5, api.ErrState},
		{idle, 7, api.ErrExists},
		{idle, 5, api.ErrFull},
		{machine("w"), 7, api.ErrExists},
		{machine("w"), api.MaxTime, api.OK},
		{machine("w"), 1, api.OK},
	} {
		if _, e := expectToken(t, c.w, c.token); e != c.want {
			t.Errorf("Attach(%+v, %d): %v, want %v", c.w, c.token, e, c.want)
		}
	}
	for phase := api.WorkerIdle; phase <= api.WorkerLost; phase++ {
		w := machine("w")
		w.Phase = phase
		if _, e := expectToken(t, w, 5); (e == api.OK) != (phase == api.WorkerIdle) {
			t.Errorf("Attach in the phase %d: %v", phase, e)
		}
	}
}

// P28.6, P28.7: tokens in any order; those of workers that are not valid may be repeated.
func TestTokens(t *testing.T) {
	for range 3000 {
		w := machine("w")
		w.Tokens, w.Slots = nil, 1+chance.IntN(8)
		for range 12 {
			next, e := expectToken(t, w, 1+chance.IntN(10))
			if expectValid(t, next) != api.OK {
				t.Fatalf("Attach gives %+v, %v", next, e)
			}
			w = next
			if chance.IntN(4) == 0 {
				w = worker.Detach(w, 1+chance.IntN(10))
			}
		}
		for i := range w.Tokens {
			w.Tokens[i] = chance.IntN(3)
		}
		expectToken(t, w, chance.IntN(3))
	}
	repeated := api.Worker{Tokens: []int{0, 3, 0, 0, 5, 0}}
	if got := worker.Detach(repeated, 0); !slices.Equal(got.Tokens, []int{3, 5}) {
		t.Error(got)
	}
	if got := worker.Detach(api.Worker{Tokens: []int{9, 9}}, 9); len(got.Tokens) != 0 {
		t.Error(got)
	}
}

// P28.8: any sequence of calls.
func TestPhases(t *testing.T) {
	reached := map[int]int{}
	for range 2000 {
		ws, e := worker.Join(nil, api.Worker{ID: "w", Slots: 1 + chance.IntN(3), Preemptible: chance.IntN(3) > 0}, 0)
		if e != api.OK {
			t.Fatal(e)
		}
		w, now := ws[0], 0
		for range 25 {
			now += chance.IntN(4000)
			before := w
			switch chance.IntN(4) {
			case 0:
				w, _ = expectToken(t, w, 1+chance.IntN(5))
			case 1:
				w = worker.Detach(w, 1+chance.IntN(5))
			default:
				w, _ = expectStep(t, w, []int{0, 1, 1, 1, 2, 3, 4, 5}[chance.IntN(8)], now)
			}
			expectTimes(t, w, now)
			if expectValid(t, w) != api.OK || w.Phase < before.Phase {
				t.Fatalf("%+v becomes %+v", before, w)
			}
			if before.Phase == api.WorkerLost && w.Phase != api.WorkerLost {
				t.Fatalf("%+v becomes %+v", before, w)
			}
			reached[w.Phase]++
		}
	}
	for phase := api.WorkerIdle; phase <= api.WorkerLost; phase++ {
		if reached[phase] < 1000 {
			t.Errorf("the phase %d was reached %d times", phase, reached[phase])
		}
	}
}

// The chapter's examples.
func TestExamples(t *testing.T) {
	ws, e := worker.Join(nil, api.Worker{ID: "w", Slots: 2, Preemptible: true}, 0)
	if e != api.OK {
		t.Fatal(e)
	}
	w := ws[0]
	if a, b := worker.Free(w, 29999), worker.Free(w, 30000); a != 2 || b != 0 || worker.Lost(w, 29999) || !worker.Lost(w, 30000) {
		t.Error(a, b)
	}
	w, _ = worker.Attach(w, 3)
	drained, e := worker.Step(w, api.WorkerDrain, 500)
	if n := worker.Free(drained, 500); e != api.OK || n != 0 || !slices.Equal(drained.Tokens, []int{3}) {
		t.Error(drained, e, n)
	}
	if d := worker.Detach(drained, 3); len(d.Tokens) != 0 || d.Phase != api.WorkerDraining {
		t.Error(d)
	}
	w, _ = worker.Step(w, api.WorkerNotice, 1000)
	for now := 2000; now < 10000; now += 1000 {
		w, e = worker.Step(w, api.WorkerBeat, now)
		if e != api.OK || worker.Lost(w, now) != (now >= 6000) || worker.Lost(w, 5999) || !worker.Lost(w, 6000) {
			t.Error(now, w, e)
		}
	}
}

// R5: arguments, with their spare capacity, remain as they are, and results do not share their memory.
func TestMemory(t *testing.T) {
	roomy := func(id string) api.Worker {
		w := machine(id)
		w.Labels = append(make([]string, 0, 9), w.Labels...)
		w.Tokens = append(make([]int, 0, 9), w.Tokens...)
		return w
	}
	build := func() []api.Worker {
		ws := []api.Worker{roomy("a"), roomy("c"), roomy("e"), roomy("g")}
		ws[3].Tokens = append(ws[3].Tokens, 8)[:2]
		return ws
	}
	ws, w := build(), roomy("b")
	check := func(what string, results ...api.Worker) {
		for _, r := range results {
			clear(r.Labels[:cap(r.Labels)])
			clear(r.Tokens[:cap(r.Tokens)])
		}
		clear(results[:cap(results)])
		for i, want := range build() {
			if !reflect.DeepEqual(ws[i], want) || !slices.Equal(ws[i].Tokens[:3], want.Tokens[:3]) || !reflect.DeepEqual(w, roomy("b")) {
				t.Fatal(what, ws[i], w)
			}
		}
	}
	for i := range 4 {
		for _, id := range []string{"0", "b", "d", "f"} {
			added := w
			added.ID = id
			joined, e := worker.Join(ws[:i], added, 5)
			if e != api.OK {
				t.Fatal(e)
			}
			check("Join", joined...)
		}
	}
	for event := api.WorkerBeat; event <= api.WorkerLeave; event++ {
		for range 2 {
			next, e := worker.Step(ws[3], event, 2000)
			if e != api.OK {
				t.Fatal(e)
			}
			check("Step", next)
		}
	}
	for _, token := range []int{1, 5, 9} {
		next, e := worker.Attach(ws[3], token)
		if e != api.OK {
			t.Fatal(e)
		}
		check("Attach", next, worker.Detach(ws[3], token))
	}
	for _, token := range ws[3].Tokens {
		check("Detach", worker.Detach(ws[3], token))
	}
}
