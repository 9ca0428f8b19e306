package kernel

import "horizon/api"

// Err is the error that tells a result; nil for Done and Cut.
func Err(r api.Result) error {
	switch r.Kind {
	case api.Fault:
		return &api.KeyError{Key: r.At, Err: r.Code}
	case api.Resource:
		return &api.WindowError{Window: r.Window, Err: r.Code}
	case api.Unfinished, api.Rejected:
		return r.Code
	}
	return nil
}

// told is a result with the error that tells it.
func told(r api.Result) (api.Result, error) { return r, Err(r) }
