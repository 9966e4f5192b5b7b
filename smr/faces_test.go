package smr_test

import (
	"testing"

	"reprieve/api"
	"reprieve/epoch"
	"reprieve/eras"
	"reprieve/hazard"
	"reprieve/leaky"
	"reprieve/quiet"
	"reprieve/smr"
	"reprieve/span"
	"reprieve/tagged"
	"reprieve/vmem"
)

// plain has the calls that the chapter lists, and no more; sleepy has one more.
type plain struct{}

func (plain) Begin(*vmem.Thread)                          {}
func (plain) End(*vmem.Thread)                            {}
func (plain) Alloc(*vmem.Thread, int) (uint64, api.Errno) { return 0, api.OK }
func (plain) Discard(*vmem.Thread, uint64)                {}
func (plain) Protect(*vmem.Thread, int, int) uint64       { return 0 }
func (plain) Keep(*vmem.Thread, int, uint64)              {}
func (plain) Clear(*vmem.Thread, int)                     {}
func (plain) Retire(*vmem.Thread, uint64)                 {}
func (plain) Flush(*vmem.Thread)                          {}
func (plain) Retired(int) int                             { return 0 }

type sleepy struct{ plain }

func (sleepy) Offline(*vmem.Thread) {}

// Every scheme has the face, and a type assertion tells the one that can sleep.
func TestFaces(t *testing.T) {
	for _, x := range []struct {
		name   string
		scheme smr.Reclaimer
		sleeps bool
	}{
		{"plain", plain{}, false},
		{"sleepy", sleepy{}, true},
		{"leaky", &leaky.Leaky{}, false},
		{"hazard", &hazard.Hazard{}, false},
		{"epoch", &epoch.Epoch{}, false},
		{"quiet", &quiet.Quiet{}, true},
		{"eras", &eras.Eras{}, false},
		{"span", &span.Span{}, false},
		{"tagged", &tagged.Tagged{}, false},
	} {
		if _, sleeps := x.scheme.(smr.Sleeper); sleeps != x.sleeps {
			t.Errorf("%s: %v", x.name, sleeps)
		}
	}
}
