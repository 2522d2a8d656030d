// Package turn does things one behind the other, for the layers that keep something on a disk.
package turn

import (
	"spandrel/api"
)

// Do does steps one behind the other, up to the first that has an error, which is its answer.
func Do(steps ...func() api.Errno) api.Errno {
	for _, step := range steps {
		if e := step(); e != api.OK {
			return e
		}
	}
	return api.OK
}
