// Package trap is layer 1: what is thrown, and caught: see DOC.md and doc/01-trap.md.
package trap

import "tidegate/api"

// Throw panics with the fault of that place and code. ErrArg stands in for OK, as a fault that says OK would be taken for none.
func Throw(at int, code api.Errno) {
	if code == api.OK {
		code = api.ErrArg
	}
	panic(api.Fault{At: at, Code: code})
}

// Check throws, unless what is asked is so.
func Check(is bool, at int, code api.Errno) {
	if !is {
		Throw(at, code)
	}
}

// Must is v, unless e is not OK, which it throws.
func Must[T any](v T, e api.Errno) T {
	Check(e == api.OK, 0, e)
	return v
}

// Catch calls f, and tells what it panicked with, and whether it did.
func Catch(f func()) (fault api.Fault, thrown bool) {
	if f == nil {
		return api.Fault{Code: api.ErrArg}, true
	}
	// Only a return of f takes this back: what is recovered can't tell, as a panic of nil recovers as nil where GODEBUG says panicnil=1.
	thrown = true
	defer func() {
		if thrown {
			fault = faultOf(recover())
		}
	}()
	f()
	return api.Fault{}, false
}

// Value is what f answers, or the zero value and what f panicked with.
func Value[T any](f func() T) (T, api.Fault) {
	v, fault, _ := attempt(f)
	return v, fault
}

// First calls each in turn, and tells of the first that fails, by its code or by a panic.
func First(l ...func() api.Errno) (int, api.Errno) {
	for i, f := range l {
		code, fault, thrown := attempt(f)
		if thrown {
			return i, fault.Code
		}
		if code != api.OK {
			return i, code
		}
	}
	return len(l), api.OK
}

// All calls each, and tells what each panicked with.
func All(l ...func()) []api.Fault {
	faults := make([]api.Fault, len(l))
	for i, f := range l {
		faults[i], _ = Catch(f)
	}
	return faults
}

// attempt is Value that tells, too, whether f panicked: a fault alone does not, as f may panic with the zero one.
func attempt[T any](f func() T) (v T, fault api.Fault, thrown bool) {
	if f == nil {
		fault, thrown = Catch(nil)
		return v, fault, thrown
	}
	fault, thrown = Catch(func() { v = f() })
	return v, fault, thrown
}

// faultOf is the fault that a panic's value is, or the one that stands for all others.
func faultOf(thrown any) api.Fault {
	if fault, ok := thrown.(api.Fault); ok {
		return fault
	}
	return api.Fault{At: -1, Code: api.ErrArg}
}
