package daybook

import (
	"daybook/api"
	"daybook/chain"
)

// blocks are those of the transactions as they are on the disk now, the same that Transaction tells. So what is shown by them is never of other ones.
func (b *DB) blocks() (chain.Chain, error) {
	all, err := transactions(b.store.All())
	return chain.Of(all), err
}

// Digest tells the digest (P21).
func (b *DB) Digest() (api.Digest, error) {
	return tell(b, func() (api.Digest, error) {
		c, err := b.blocks()
		return c.Digest(), err
	})
}

// Prove tells how the chain went on behind a digest (P22).
func (b *DB) Prove(old api.Digest) ([]byte, error) {
	return tell(b, func() ([]byte, error) {
		if !chain.MayBeRight(old, b.store.Count()) {
			return nil, api.ErrDigest
		}
		c, err := b.blocks()
		if err != nil {
			return nil, err
		}
		if !c.IsRight(old) {
			return nil, api.ErrDigest
		}
		return c.Behind(old.Blocks), nil
	})
}

// Extends looks over how a chain went on (P22).
func Extends(old api.Digest, to api.Digest, proof []byte) error {
	if !chain.Leads(old, to, proof) {
		return api.ErrProof
	}
	return nil
}

// Verify holds the database against a digest (P23).
func (b *DB) Verify(digest api.Digest) error {
	return b.alone(func() error {
		if !chain.MayBeRight(digest, b.store.Count()) {
			return api.ErrDigest
		}
		if err := b.store.Look(); err != nil {
			return err
		}
		all, err := transactions(b.store.Again())
		if err != nil {
			return err
		}
		made, ok := redone(all)
		if !ok || !made.Same(b.tables) || !chain.Of(all).IsRight(digest) {
			return api.ErrDigest
		}
		return nil
	})
}

// Attest shows an op of a transaction (P24).
func (b *DB) Attest(number int, op int) ([]byte, error) {
	return tell(b, func() ([]byte, error) {
		if number < 1 || chain.Closed(number-1) >= chain.Closed(b.store.Count()) || op < 0 || op >= api.MaxOps {
			return nil, api.ErrArg
		}
		c, err := b.blocks()
		if err != nil {
			return nil, err
		}
		return c.Attest(number, op)
	})
}

// Attested looks at what was shown (P24).
func Attested(evidence []byte, digest api.Digest) ([]byte, error) {
	op, ok := chain.Attested(evidence, digest)
	if !ok {
		return nil, api.ErrProof
	}
	return op, nil
}

// Clash finds two texts with one sum (P25).
func Clash(p [][]byte, q [][]byte) ([]byte, []byte, error) {
	first, ok := parsed(p)
	second, right := parsed(q)
	if !ok || !right || len(p) != len(q) || len(p)%api.PerBlock != 0 || len(p) == 0 {
		return nil, nil, api.ErrLog
	}
	c, d := chain.Of(first), chain.Of(second)
	if c.Digest() != d.Digest() {
		return nil, nil, api.ErrSame
	}
	x, y, ok := chain.Clash(c, d)
	if !ok {
		return nil, nil, api.ErrSame
	}
	return x, y, nil
}
