package step

import (
	"hypercube/api"
	"hypercube/term"
)

// Main tells the place of the main kid.
func Main(t api.Term) int {
	if len(t.Kids) < term.Kids(t.Kind) {
		return -1
	}
	switch t.Kind {
	case api.App, api.Fst, api.Snd, api.PApp, api.Unglue, api.HComp, api.Transp:
		return 0
	case api.CircleEl, api.SuspEl:
		return len(t.Kids) - 1
	}
	return -1
}
