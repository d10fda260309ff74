package chain

import (
	"bytes"

	"daybook/api"
	"daybook/sums"
)

// Leads tells whether a proof leads from one digest to the other (P22).
func Leads(old, to api.Digest, proof []byte) bool {
	if old.Blocks < 0 || old.Blocks == 0 && old.Hash != (api.Hash{}) {
		return false
	}
	p := &parts{rest: proof}
	at := old
	for len(p.rest) > 0 {
		h, ok := readHeader(p)
		if !ok || h.number-1 != at.Blocks || h.ahead != at.Hash {
			return false
		}
		at = api.Digest{Blocks: h.number, Hash: h.hash()}
	}
	return at == to // so there were just as many headers as blocks between
}

// Attested is the op that some evidence shows under a digest; false: it shows none (P24).
func Attested(text []byte, digest api.Digest) ([]byte, bool) {
	e, ok := readEvidence(text)
	if !ok {
		return nil, false
	}
	ops, err := sums.Climb(e.op, e.at, e.many, e.ofOp)
	if err != nil {
		return nil, false
	}
	member := entry(e.number, e.time, e.many, ops)
	root, err := sums.Climb(member, (e.number-1)%api.PerBlock, api.PerBlock, e.ofEntry)
	if err != nil {
		return nil, false
	}
	h := header{Closed(e.number-1) + 1, e.ahead, root}
	if !Leads(api.Digest{Blocks: h.number, Hash: h.hash()}, digest, e.behind) {
		return nil, false
	}
	return bytes.Clone(e.op), true
}
