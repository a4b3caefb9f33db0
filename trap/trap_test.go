package trap_test

import (
	"errors"
	"fmt"
	"slices"
	"testing"

	"tidegate/api"
	"tidegate/trap"
)

// recovered tells what f panics with as it is, without a word of Catch.
func recovered(f func()) (value any) {
	defer func() { value = recover() }()
	f()
	return nil
}

func expectThrown(t *testing.T, name string, f func(), want api.Fault) {
	t.Helper()
	if got := recovered(f); got != any(want) {
		t.Errorf("%s: panicked with %#v, want %#v", name, got, want)
	}
}

func expectCaught(t *testing.T, name string, f func(), want api.Fault) {
	t.Helper()
	if got, thrown := trap.Catch(f); !thrown || got != want {
		t.Errorf("%s: caught %v, %v, want %v, true", name, got, thrown, want)
	}
}

func throws(at int, code api.Errno) func() {
	return func() { trap.Throw(at, code) }
}

func answers(code api.Errno) func() api.Errno {
	return func() api.Errno { return code }
}

func failsAt(at int, code api.Errno) func() api.Errno {
	return func() api.Errno {
		trap.Throw(at, code)
		return api.OK
	}
}

// other is what every panic that is no fault is told as.
var other = api.Fault{At: -1, Code: api.ErrArg}

// P1.1

func TestThrowPanicsWithTheFault(t *testing.T) {
	codes := []api.Errno{api.ErrArg, api.ErrForm, api.ErrFull, api.ErrNone, api.ErrState, api.ErrLong, api.ErrDup, api.ErrEnd, api.ErrRange, 10, 1 << 40, -1}
	for _, code := range codes {
		for _, at := range []int{0, 1, 3, -1, -7, 1<<63 - 1, -1 << 63} {
			expectThrown(t, "Throw", throws(at, code), api.Fault{At: at, Code: code})
		}
	}
}

func TestThrowOfOkIsErrArg(t *testing.T) {
	for _, at := range []int{0, 5, -1} {
		expectThrown(t, "Throw of OK", throws(at, api.OK), api.Fault{At: at, Code: api.ErrArg})
	}
}

func TestCheckThrowsWhatIsNotSo(t *testing.T) {
	for _, code := range []api.Errno{api.ErrForm, api.ErrRange, 77, -2} {
		f := func() { trap.Check(false, 4, code) }
		expectThrown(t, "Check", f, api.Fault{At: 4, Code: code})
	}
	f := func() { trap.Check(false, -3, api.OK) }
	expectThrown(t, "Check of OK", f, api.Fault{At: -3, Code: api.ErrArg})
}

func TestCheckOfWhatIsSoDoesNothing(t *testing.T) {
	for _, code := range []api.Errno{api.OK, api.ErrArg, api.ErrForm, -1} {
		if got := recovered(func() { trap.Check(true, 4, code) }); got != nil {
			t.Errorf("Check of what is so, code %d: panicked with %v", int(code), got)
		}
	}
}

func TestMustIsTheValue(t *testing.T) {
	if v := trap.Must(7, api.OK); v != 7 {
		t.Errorf("Must of a number: %v", v)
	}
	if v := trap.Must("x", api.OK); v != "x" {
		t.Errorf("Must of a text: %q", v)
	}
	if v := trap.Must(api.Range{From: 1, To: 2}, api.OK); v != (api.Range{From: 1, To: 2}) {
		t.Errorf("Must of a struct: %v", v)
	}
	if v := trap.Must[error](nil, api.OK); v != nil {
		t.Errorf("Must of nil: %v", v)
	}
	list := []int{1, 2}
	if v := trap.Must(list, api.OK); !slices.Equal(v, list) {
		t.Errorf("Must of a list: %v", v)
	}
}

func TestMustThrowsTheCodeAtZero(t *testing.T) {
	for _, code := range []api.Errno{api.ErrArg, api.ErrForm, api.ErrRange, 12, -1} {
		f := func() { trap.Must(7, code) }
		expectThrown(t, "Must", f, api.Fault{Code: code})
	}
	f := func() { trap.Must("", api.ErrEnd) }
	expectThrown(t, "Must of a zero value", f, api.Fault{Code: api.ErrEnd})
}

// P1.2

func TestCatchTellsTheFault(t *testing.T) {
	expectCaught(t, "Throw", throws(3, api.ErrForm), api.Fault{At: 3, Code: api.ErrForm})
	expectCaught(t, "Throw below 0", throws(-9, -4), api.Fault{At: -9, Code: -4})
	expectCaught(t, "Throw of OK", throws(2, api.OK), api.Fault{At: 2, Code: api.ErrArg})
	expectCaught(t, "Check", func() { trap.Check(false, 6, api.ErrEnd) }, api.Fault{At: 6, Code: api.ErrEnd})
	expectCaught(t, "Must", func() { trap.Must(1, api.ErrDup) }, api.Fault{Code: api.ErrDup})
}

func TestCatchTellsAFaultThatOthersPanicWith(t *testing.T) {
	for _, fault := range []api.Fault{{}, {At: 5}, {At: 1, Code: api.ErrNone}} {
		expectCaught(t, "panic", func() { panic(fault) }, fault)
	}
}

func TestCatchCallsOnce(t *testing.T) {
	calls := 0
	trap.Catch(func() { calls++ })
	if calls != 1 {
		t.Errorf("called %d times", calls)
	}
	trap.Catch(func() { calls++; trap.Throw(0, api.ErrArg) })
	if calls != 2 {
		t.Errorf("called %d times with the one that throws", calls)
	}
}

func TestCatchOfNoPanic(t *testing.T) {
	if fault, thrown := trap.Catch(func() {}); thrown || fault != (api.Fault{}) {
		t.Errorf("%v, %v", fault, thrown)
	}
	own := func() { _ = recovered(throws(1, api.ErrForm)) }
	if fault, thrown := trap.Catch(own); thrown || fault != (api.Fault{}) {
		t.Errorf("of one that recovers by itself: %v, %v", fault, thrown)
	}
}

func TestCatchOfOtherPanics(t *testing.T) {
	type inside struct{ api.Fault }
	type alike struct {
		At   int
		Code api.Errno
	}
	fault := api.Fault{At: 3, Code: api.ErrForm}
	for _, value := range []any{"x", "", 0, 3, 1.5, true, nil, errors.New("x"), api.OK, api.ErrForm, &fault, inside{fault}, alike(fault), []api.Fault{fault}, [1]api.Fault{fault}, throws(1, api.ErrForm)} {
		expectCaught(t, fmt.Sprintf("panic of a %T", value), func() { panic(value) }, other)
	}
}

func TestCatchOfWhatTheMachinePanicsWith(t *testing.T) {
	var list []int
	var numbers map[string]int
	var place *api.Fault
	var value any = "x"
	zero := 0
	var none func()
	expectCaught(t, "index", func() { list[3] = 1 }, other)
	expectCaught(t, "nil map", func() { numbers["x"] = 1 }, other)
	expectCaught(t, "nil pointer", func() { place.At = 1 }, other)
	expectCaught(t, "assertion", func() { zero = value.(int) }, other)
	expectCaught(t, "division", func() { zero = 1 / zero }, other)
	expectCaught(t, "nil function inside", func() { none() }, other)
	expectCaught(t, "length", func() { list = make([]int, zero-1) }, other)
}

func TestCatchOfNil(t *testing.T) {
	expectCaught(t, "nil", nil, api.Fault{At: 0, Code: api.ErrArg})
}

func TestCatchOfADeferredThrow(t *testing.T) {
	f := func() { defer trap.Throw(2, api.ErrLong) }
	expectCaught(t, "deferred", f, api.Fault{At: 2, Code: api.ErrLong})
	f = func() {
		defer trap.Throw(2, api.ErrLong)
		trap.Throw(1, api.ErrForm)
	}
	expectCaught(t, "deferred behind another", f, api.Fault{At: 2, Code: api.ErrLong})
}

func TestValueIsWhatIsAnswered(t *testing.T) {
	if v, fault := trap.Value(func() int { return 7 }); v != 7 || fault != (api.Fault{}) {
		t.Errorf("number: %v, %v", v, fault)
	}
	if v, fault := trap.Value(func() string { return trap.Must("x", api.OK) }); v != "x" || fault != (api.Fault{}) {
		t.Errorf("text: %q, %v", v, fault)
	}
	if v, fault := trap.Value(func() []int { return nil }); v != nil || fault != (api.Fault{}) {
		t.Errorf("list: %v, %v", v, fault)
	}
	if v, fault := trap.Value(func() api.Fault { return other }); v != other || fault != (api.Fault{}) {
		t.Errorf("a fault that is answered: %v, %v", v, fault)
	}
	calls := 0
	if v, _ := trap.Value(func() int { calls++; return calls }); v != 1 || calls != 1 {
		t.Errorf("%v, called %d times", v, calls)
	}
}

func TestValueOfWhatPanics(t *testing.T) {
	if v, fault := trap.Value(func() int { return trap.Must(7, api.ErrFull) }); v != 0 || fault != (api.Fault{Code: api.ErrFull}) {
		t.Errorf("Must: %v, %v", v, fault)
	}
	half := func() (v string) {
		v = "half"
		trap.Throw(4, api.ErrEnd)
		return v
	}
	if v, fault := trap.Value(half); v != "" || fault != (api.Fault{At: 4, Code: api.ErrEnd}) {
		t.Errorf("Throw: %q, %v", v, fault)
	}
	if v, fault := trap.Value(func() []int { panic("x") }); v != nil || fault != other {
		t.Errorf("other: %v, %v", v, fault)
	}
	if v, fault := trap.Value(func() int { panic(nil) }); v != 0 || fault != other {
		t.Errorf("panic of nil: %v, %v", v, fault)
	}
}

func TestValueOfNil(t *testing.T) {
	want := api.Fault{At: 0, Code: api.ErrArg}
	if v, fault := trap.Value[int](nil); v != 0 || fault != want {
		t.Errorf("%v, %v", v, fault)
	}
	if v, fault := trap.Value[*int](nil); v != nil || fault != want {
		t.Errorf("%v, %v", v, fault)
	}
}

// P1.3

func TestFirst(t *testing.T) {
	ok := answers(api.OK)
	text := func() api.Errno { panic("x") }
	var list []int
	index := func() api.Errno { return api.Errno(list[2]) }
	for _, c := range []struct {
		name string
		l    []func() api.Errno
		i    int
		code api.Errno
	}{
		{"none", nil, 0, api.OK},
		{"empty", []func() api.Errno{}, 0, api.OK},
		{"one that is OK", []func() api.Errno{ok}, 1, api.OK},
		{"all are OK", []func() api.Errno{ok, ok, ok}, 3, api.OK},
		{"the first fails", []func() api.Errno{answers(api.ErrDup), ok}, 0, api.ErrDup},
		{"the last fails", []func() api.Errno{ok, ok, answers(api.ErrLong)}, 2, api.ErrLong},
		{"two fail", []func() api.Errno{ok, answers(api.ErrEnd), answers(api.ErrForm)}, 1, api.ErrEnd},
		{"a code below 0", []func() api.Errno{ok, answers(-1)}, 1, -1},
		{"a code that api does not name", []func() api.Errno{answers(10)}, 0, 10},
		{"one throws", []func() api.Errno{ok, failsAt(9, api.ErrDup), ok}, 1, api.ErrDup},
		{"one throws OK", []func() api.Errno{ok, failsAt(9, api.OK)}, 1, api.ErrArg},
		{"one throws ahead of one that fails", []func() api.Errno{failsAt(9, api.ErrEnd), answers(api.ErrForm)}, 0, api.ErrEnd},
		{"one fails ahead of one that throws", []func() api.Errno{answers(api.ErrForm), failsAt(9, api.ErrEnd)}, 0, api.ErrForm},
		{"another panic", []func() api.Errno{ok, ok, text, ok}, 2, api.ErrArg},
		{"a panic of the machine", []func() api.Errno{ok, index}, 1, api.ErrArg},
		{"a panic with the zero fault", []func() api.Errno{ok, func() api.Errno { panic(api.Fault{}) }, ok}, 1, api.OK},
		{"nil alone", []func() api.Errno{nil}, 0, api.ErrArg},
		{"nil behind one that is OK", []func() api.Errno{ok, nil, answers(api.ErrForm)}, 1, api.ErrArg},
		{"nil behind one that fails", []func() api.Errno{ok, answers(api.ErrForm), nil}, 1, api.ErrForm},
	} {
		if i, code := trap.First(c.l...); i != c.i || code != c.code {
			t.Errorf("%s: %d, %d, want %d, %d", c.name, i, int(code), c.i, int(c.code))
		}
	}
}

func TestFirstCallsInTurnUpToTheOneThatFails(t *testing.T) {
	var called []int
	step := func(i int, then func() api.Errno) func() api.Errno {
		return func() api.Errno {
			called = append(called, i)
			return then()
		}
	}
	for _, c := range []struct {
		name string
		then func() api.Errno
		want []int
	}{
		{"OK", answers(api.OK), []int{0, 1, 2, 3}},
		{"a code", answers(api.ErrForm), []int{0, 1}},
		{"a fault", failsAt(0, api.ErrForm), []int{0, 1}},
		{"another panic", func() api.Errno { panic("x") }, []int{0, 1}},
	} {
		called = nil
		trap.First(step(0, answers(api.OK)), step(1, c.then), step(2, answers(api.OK)), step(3, answers(api.OK)))
		if !slices.Equal(called, c.want) {
			t.Errorf("%s: called %v, want %v", c.name, called, c.want)
		}
	}
}

func TestAll(t *testing.T) {
	fine := func() {}
	for _, c := range []struct {
		name string
		l    []func()
		want []api.Fault
	}{
		{"none", nil, nil},
		{"empty", []func(){}, nil},
		{"one that does not panic", []func(){fine}, []api.Fault{{}}},
		{"none of them panics", []func(){fine, fine, fine}, []api.Fault{{}, {}, {}}},
		{"nil alone", []func(){nil}, []api.Fault{{Code: api.ErrArg}}},
		{"one throws OK", []func(){throws(8, api.OK)}, []api.Fault{{At: 8, Code: api.ErrArg}}},
		{"the first throws", []func(){throws(1, api.ErrNone), fine}, []api.Fault{{At: 1, Code: api.ErrNone}, {}}},
		{"all throw", []func(){throws(1, api.ErrNone), throws(2, api.ErrEnd)}, []api.Fault{{At: 1, Code: api.ErrNone}, {At: 2, Code: api.ErrEnd}}},
		{"of every kind", []func(){fine, throws(1, api.ErrNone), nil, func() { panic("x") }, fine, throws(-4, api.ErrDup)}, []api.Fault{{}, {At: 1, Code: api.ErrNone}, {Code: api.ErrArg}, other, {}, {At: -4, Code: api.ErrDup}}},
	} {
		if got := trap.All(c.l...); !slices.Equal(got, c.want) {
			t.Errorf("%s: %v, want %v", c.name, got, c.want)
		}
	}
}

func TestAllCallsEachOnceInTurn(t *testing.T) {
	var called []int
	step := func(i int, then func()) func() {
		return func() {
			called = append(called, i)
			then()
		}
	}
	trap.All(step(0, func() {}), step(1, throws(0, api.ErrForm)), step(2, func() { panic("x") }), step(3, func() {}))
	if !slices.Equal(called, []int{0, 1, 2, 3}) {
		t.Errorf("called %v", called)
	}
}

func TestAllAnswersNewMemory(t *testing.T) {
	l := []func(){throws(1, api.ErrNone), throws(2, api.ErrEnd)}
	first := trap.All(l...)
	second := trap.All(l...)
	first[0], first[1] = other, other
	if !slices.Equal(second, []api.Fault{{At: 1, Code: api.ErrNone}, {At: 2, Code: api.ErrEnd}}) {
		t.Errorf("one answer's change shows in another: %v", second)
	}
}

// P1.4

func TestWhatIsThrownWithinIsCaughtThereAlone(t *testing.T) {
	var inner api.Fault
	var innerThrown, wentOn bool
	outer, outerThrown := trap.Catch(func() {
		inner, innerThrown = trap.Catch(throws(1, api.ErrForm))
		wentOn = true
	})
	if !innerThrown || inner != (api.Fault{At: 1, Code: api.ErrForm}) {
		t.Errorf("inner: %v, %v", inner, innerThrown)
	}
	if outerThrown || outer != (api.Fault{}) || !wentOn {
		t.Errorf("outer: %v, %v, went on: %v", outer, outerThrown, wentOn)
	}
}

func TestWhatIsThrownBehindIsCaughtOutside(t *testing.T) {
	var inner api.Fault
	outer, thrown := trap.Catch(func() {
		inner, _ = trap.Catch(throws(1, api.ErrForm))
		trap.Throw(2, api.ErrEnd)
	})
	if inner != (api.Fault{At: 1, Code: api.ErrForm}) {
		t.Errorf("inner: %v", inner)
	}
	if !thrown || outer != (api.Fault{At: 2, Code: api.ErrEnd}) {
		t.Errorf("outer: %v, %v", outer, thrown)
	}
}

func TestWhatIsCaughtMayBeThrownAgain(t *testing.T) {
	again := func() {
		if fault, thrown := trap.Catch(throws(1, api.ErrForm)); thrown {
			trap.Throw(fault.At+10, fault.Code)
		}
	}
	expectCaught(t, "again", again, api.Fault{At: 11, Code: api.ErrForm})
}

func TestOtherPanicsWithinAreCaughtThereAlone(t *testing.T) {
	var inner api.Fault
	outer, thrown := trap.Catch(func() {
		inner, _ = trap.Catch(func() { panic("x") })
	})
	if inner != other || thrown || outer != (api.Fault{}) {
		t.Errorf("inner: %v, outer: %v, %v", inner, outer, thrown)
	}
}

func TestEveryDepthCatchesItsOwn(t *testing.T) {
	const depth = 50
	caught := make([]api.Fault, depth)
	var descend func(level int)
	descend = func(level int) {
		if level < depth {
			caught[level], _ = trap.Catch(func() { descend(level + 1) })
		}
		trap.Throw(level, api.ErrState)
	}
	expectCaught(t, "outermost", func() { descend(0) }, api.Fault{At: 0, Code: api.ErrState})
	for level, fault := range caught {
		if fault != (api.Fault{At: level + 1, Code: api.ErrState}) {
			t.Errorf("level %d: %v", level, fault)
		}
	}
}

func TestTheOthersCatchWithinToo(t *testing.T) {
	fault, thrown := trap.Catch(func() {
		trap.Value(func() int { return trap.Must(1, api.ErrForm) })
		trap.First(failsAt(1, api.ErrEnd))
		trap.All(throws(2, api.ErrDup), nil)
	})
	if thrown || fault != (api.Fault{}) {
		t.Errorf("Catch: %v, %v", fault, thrown)
	}
	v, fault := trap.Value(func() int {
		trap.Catch(throws(1, api.ErrForm))
		return 5
	})
	if v != 5 || fault != (api.Fault{}) {
		t.Errorf("Value: %v, %v", v, fault)
	}
	i, code := trap.First(func() api.Errno {
		trap.All(throws(1, api.ErrForm))
		return api.OK
	})
	if i != 1 || code != api.OK {
		t.Errorf("First: %d, %d", i, int(code))
	}
	if l := trap.All(func() { trap.First(failsAt(1, api.ErrForm)) }); !slices.Equal(l, []api.Fault{{}}) {
		t.Errorf("All: %v", l)
	}
}

func TestACatchOnTheWayOutLeavesTheOuterPanic(t *testing.T) {
	var inner api.Fault
	f := func() {
		defer func() { inner, _ = trap.Catch(throws(1, api.ErrForm)) }()
		trap.Throw(2, api.ErrEnd)
	}
	expectCaught(t, "outer", f, api.Fault{At: 2, Code: api.ErrEnd})
	if inner != (api.Fault{At: 1, Code: api.ErrForm}) {
		t.Errorf("inner: %v", inner)
	}
	f = func() {
		defer func() { trap.Catch(func() {}) }()
		trap.Throw(3, api.ErrDup)
	}
	expectCaught(t, "outer, with nothing thrown on the way out", f, api.Fault{At: 3, Code: api.ErrDup})
}

// The chapter's example, as README.md shows it.
func ExampleCatch() {
	fault, thrown := trap.Catch(func() { trap.Throw(3, api.ErrForm) })
	fmt.Println(fault.At, fault.Code == api.ErrForm, thrown)
	// Output: 3 true true
}
