package kernel_test

import (
	"errors"
	"slices"
	"testing"

	"horizon/api"
	"horizon/kernel"
)

const (
	firstAdd = "0.0.0>0:0=5"
	bothAdds = firstAdd + " 3.1.0>1:0=7"
)

// 14.3: the chapter's examples 1 and 2.
func TestExampleRun(t *testing.T) {
	r, err := kernel.Run(adds(), one(4), nil)
	ended(t, "no picks", r, err, api.Unfinished, api.ErrUnfinished, 0, "", 0, 0)
	if err != api.ErrUnfinished {
		t.Errorf("the error is %v", err)
	}
	r, err = kernel.Run(adds(), one(4), zeros(13))
	ended(t, "13 picks", r, err, api.Unfinished, api.ErrUnfinished, 0, firstAdd, 5, 0)
	r, err = kernel.Run(adds(), one(4), zeros(14))
	ended(t, "14 picks", r, err, api.Done, api.OK, 0, bothAdds, 5, 7)
	if err != nil {
		t.Errorf("the error is %v", err)
	}
	r, err = kernel.Run(adds(), one(4), []int{7, 0, -1, 0, 0, 0, 0, 0, 0, 0, 0, 0, 0, 0, 0, 0, 5, 0, 0})
	ended(t, "picks of nobody", r, err, api.Done, api.OK, 0, bothAdds, 5, 7)
}

// 14.4, 14.6: the chapter's examples 3 and 4.
func TestExampleFair(t *testing.T) {
	if n := kernel.Enough(adds(), one(4)); n != 187 {
		t.Errorf("Enough is %d for one worker", n)
	}
	if n := kernel.Enough(adds(), two(4)); n != 342 {
		t.Errorf("Enough is %d for two workers", n)
	}
	r, err := kernel.Fair(adds(), two(4), 342)
	ended(t, "342 rounds", r, err, api.Done, api.OK, 0, bothAdds, 5, 7)
	r, err = kernel.Fair(adds(), two(4), 0)
	ended(t, "no round", r, err, api.Unfinished, api.ErrUnfinished, 0, "", 0, 0)
}

// 14.2, 14.8: the chapter's example 5.
func TestExampleNoRoom(t *testing.T) {
	r, err := kernel.Fair(adds(look(5)), one(1), 1000)
	ended(t, "one worker", r, err, api.Resource, api.ErrNoRoom, 1, "", 0, 0)
	lack, ok := err.(*api.WindowError)
	if !ok || lack.Window != 1 || lack.Err != api.ErrNoRoom {
		t.Errorf("the error is %s", tellErr(err))
	}
	if n, code := kernel.Room(adds(look(5)), one(1)); n != 1 || code != api.OK {
		t.Errorf("Room is %d, %d", n, code)
	}
	r, err = kernel.Fair(adds(look(5)), two(1), 1000)
	ended(t, "two workers", r, err, api.Done, api.OK, 0, bothAdds, 5, 7)
	if n, code := kernel.Room(adds(look(5)), two(1)); n != 0 || code != api.OK {
		t.Errorf("Room is %d, %d", n, code)
	}
}

// 14.2, 14.6, 14.7, 14.8: the chapter's example 6.
func TestExampleRefused(t *testing.T) {
	r, err := kernel.Run(adds(look(0)), one(4), zeros(20))
	ended(t, "Look 0", r, err, api.Rejected, api.ErrLook, 0, "")
	if err != api.ErrLook || kernel.Enough(adds(look(0)), one(4)) != 0 {
		t.Errorf("the error is %v, Enough %d", err, kernel.Enough(adds(look(0)), one(4)))
	}
	if n, code := kernel.Room(adds(look(0)), one(4)); n != 0 || code != api.ErrLook {
		t.Errorf("Room is %d, %d", n, code)
	}
	if _, code := kernel.Spread(adds(look(0)), 1, 1); code != api.ErrLook {
		t.Errorf("Spread is %d", code)
	}
	l := one(4)
	l.Owner = []int{0}
	r, err = kernel.Run(adds(), l, zeros(20))
	ended(t, "Owner 0", r, err, api.Rejected, api.ErrOwner, 0, "")
}

// 14.7: the chapter's examples 7 and 8.
func TestExampleSpread(t *testing.T) {
	five := adds()
	five.Parts = slices.Repeat(five.Parts[:1], 5)
	five.Starts = []api.Start{{Dst: 3}, {}, {}, {Dst: 2}, {}}
	for _, x := range []struct {
		plan         api.Plan
		workers, way int
		owner        []int
	}{
		{adds(), 2, 1, []int{0, 1}},
		{adds(), 3, 2, []int{0, 1}},
		{adds(), 64, 4, []int{0, 0}},
		{five, 2, 3, []int{0, 0, 1, 1, 1}},
	} {
		l, code := kernel.Spread(x.plan, x.workers, x.way)
		if code != api.OK || !slices.Equal(l.Owner, x.owner) {
			t.Errorf("Spread(.., %d, %d) is %v, %d", x.workers, x.way, l, code)
		}
	}
	if _, code := kernel.Spread(adds(), 0, 9); code != api.ErrWorkers {
		t.Errorf("no workers: %d", code)
	}
	if _, code := kernel.Spread(adds(), 1, 9); code != api.ErrArg {
		t.Errorf("way 9: %d", code)
	}
}

// 14.5: the chapter's example 9.
func TestExampleWatch(t *testing.T) {
	for _, stop := range []int{0, 1, 2} {
		var places []int
		var views []api.View
		r, err := kernel.Watch(adds(), one(4), []int{0, 4, 0}, func(pick int, v api.View) bool {
			places, views = append(places, pick), append(views, v)
			return len(places) != stop
		})
		ended(t, stop, r, err, api.Unfinished, api.ErrUnfinished, 0, "", 0, 0)
		want := []int{0, 2}
		if stop == 1 {
			want = []int{0}
		}
		if !slices.Equal(places, want) || views[0].Phase != api.PhLow {
			t.Fatalf("stopped at %d: places %v, phase %d", stop, places, views[0].Phase)
		}
		if v := views[len(views)-1]; stop != 1 && (v.Phase != api.PhWork || v.Window != 1 || v.Bound != 2) {
			t.Errorf("stopped at %d: the second View is\n%s", stop, tellView(v))
		}
	}
}

// 14.1: the chapter's example 10.
func TestExampleErr(t *testing.T) {
	err := kernel.Err(api.Result{Kind: api.Fault, Code: api.FaultDivide, At: key(7, 1, 0)})
	var at *api.KeyError
	if !errors.As(err, &at) || at.Key != key(7, 1, 0) || err.Error() != "7.1.0: error 201" {
		t.Errorf("the error is %s", tellErr(err))
	}
	if err := kernel.Err(api.Result{}); err != nil {
		t.Errorf("of the zero Result it is %s", tellErr(err))
	}
}
