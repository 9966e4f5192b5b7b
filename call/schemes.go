package call

import (
	"reprieve/api"
	"reprieve/epoch"
	"reprieve/eras"
	"reprieve/hazard"
	"reprieve/leaky"
	"reprieve/quiet"
	"reprieve/smr"
	"reprieve/span"
	"reprieve/tagged"
)

// schemes are how each scheme is made on a base.
func schemes() map[api.Scheme]func(b *smr.Base) smr.Reclaimer {
	return map[api.Scheme]func(b *smr.Base) smr.Reclaimer{
		api.Leaky:  func(b *smr.Base) smr.Reclaimer { return leaky.New(b) },
		api.Hazard: func(b *smr.Base) smr.Reclaimer { return hazard.New(b) },
		api.Epoch:  func(b *smr.Base) smr.Reclaimer { return epoch.New(b) },
		api.Quiet:  func(b *smr.Base) smr.Reclaimer { return quiet.New(b) },
		api.Eras:   func(b *smr.Base) smr.Reclaimer { return eras.New(b) },
		api.Span:   func(b *smr.Base) smr.Reclaimer { return span.New(b) },
		api.Tagged: func(b *smr.Base) smr.Reclaimer { return tagged.New(b) },
	}
}
