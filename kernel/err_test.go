package kernel_test

import (
	"errors"
	"math"
	"testing"

	"horizon/api"
	"horizon/kernel"
)

// codes are errors of results, and numbers that are none.
func codes() []api.Errno {
	return []api.Errno{api.OK, api.ErrNoRoom, api.ErrUnfinished, api.ErrLook, api.FaultUser, 7, -1, math.MinInt, math.MaxInt}
}

// full is a result with something in every field.
func full(kind int, code api.Errno) api.Result {
	return api.Result{Kind: kind, Code: code, At: key(9, 2, 4), Window: 6, States: []api.State{{Sent: 1}}, Trace: []api.Event{{Dst: 3}}}
}

// 14.1: Done, Cut, and kinds that are none of api's tell no error, whatever else is in the result.
func TestErrNil(t *testing.T) {
	for _, kind := range []int{api.Done, api.Cut, 0, 7, 8, -1, -3, math.MinInt, math.MaxInt, 3 + 1<<32} {
		for _, code := range codes() {
			if err := kernel.Err(full(kind, code)); err != nil {
				t.Errorf("kind %d, code %d: %s", kind, code, tellErr(err))
			}
		}
	}
}

// 14.1: a Fault tells its key, a Resource its window, the others their code alone, whatever the code is.
func TestErrKinds(t *testing.T) {
	for _, code := range codes() {
		fault, ok := kernel.Err(full(api.Fault, code)).(*api.KeyError)
		if !ok || fault.Key != key(9, 2, 4) || fault.Err != error(code) {
			t.Errorf("Fault, code %d: %v", code, fault)
		}
		lack, ok := kernel.Err(full(api.Resource, code)).(*api.WindowError)
		if !ok || lack.Window != 6 || lack.Err != error(code) {
			t.Errorf("Resource, code %d: %v", code, lack)
		}
		for _, kind := range []int{api.Unfinished, api.Rejected} {
			if err := kernel.Err(full(kind, code)); err != error(code) {
				t.Errorf("kind %d, code %d: %s", kind, code, tellErr(err))
			}
		}
	}
}

// 14.1: errors.Is and errors.As find what is in the error, and nothing else.
func TestErrAsked(t *testing.T) {
	for kind := api.Fault; kind <= api.Rejected; kind++ {
		for _, code := range codes() {
			err := kernel.Err(full(kind, code))
			var at *api.KeyError
			var lack *api.WindowError
			var number api.Errno
			if !errors.Is(err, code) || errors.Is(err, code+1) || !errors.As(err, &number) || number != code {
				t.Errorf("kind %d, code %d: %s", kind, code, tellErr(err))
			}
			if errors.As(err, &at) != (kind == api.Fault) || errors.As(err, &lack) != (kind == api.Resource) {
				t.Errorf("kind %d, code %d: %s", kind, code, tellErr(err))
			}
		}
	}
}

// 14.1: each answer is an error of its own: who writes into one changes no other.
func TestErrApart(t *testing.T) {
	r := full(api.Fault, api.FaultUser)
	a, b := kernel.Err(r).(*api.KeyError), kernel.Err(r).(*api.KeyError)
	a.Key, a.Err = api.Key{}, nil
	if b.Key != key(9, 2, 4) || b.Err != api.FaultUser {
		t.Errorf("the other error is %v", b)
	}
	r = full(api.Resource, api.ErrNoRoom)
	c, d := kernel.Err(r).(*api.WindowError), kernel.Err(r).(*api.WindowError)
	c.Window, c.Err = 0, nil
	if d.Window != 6 || d.Err != api.ErrNoRoom {
		t.Errorf("the other error is %v", d)
	}
}
