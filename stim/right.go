package stim

import "trestle/api"

// What a witness's Status says of its properties.
const (
	safe = iota
	broken
	unknown
)

// noLoop is the Loop of a trace that is no lasso's.
const noLoop = -1

// areCounts tells whether a circuit may have so many latches and inputs.
func areCounts(latches, inputs int) bool { return isCount(latches) && isCount(inputs) }

// isCount tells whether a list may have so many members.
func isCount(n int) bool { return 0 <= n && n <= api.MaxItems }

// areProps tells whether a witness may have these properties; that they are too many, others tell.
func areProps(props []api.Prop) bool {
	seen := map[api.Prop]struct{}{}
	for _, p := range props {
		if _, twice := seen[p]; twice || !isProp(p) {
			return false
		}
		seen[p] = struct{}{}
	}
	return len(props) > 0
}

// isProp tells whether a property may be, whatever the circuit has.
func isProp(p api.Prop) bool {
	return (p.Kind == api.SBad || p.Kind == api.SJustice) && 0 <= p.At && p.At < api.MaxItems
}

// traceFits tells whether a witness's trace goes with its Status, and with a circuit of so many latches and inputs.
func traceFits(w api.Witness, latches, inputs int) bool {
	t := w.Trace
	rows := len(t.Inputs)
	if w.Status != broken {
		return len(t.Init) == 0 && rows == 0 && t.Loop == 0
	}
	if len(t.Init) != latches || rows < 1 || rows > api.MaxFrames {
		return false
	}
	for _, row := range t.Inputs {
		if len(row) != inputs {
			return false
		}
	}
	return noLoop <= t.Loop && t.Loop < rows
}
