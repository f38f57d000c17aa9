package ticks

// Bucket lets things out slowly: each takes a token, and tokens come one by one, as long as there is room.
type Bucket struct {
	size, every uint64
	tokens      uint64
	upTo        uint64 // the time up to which tokens came
}

// NewBucket is a full bucket at the time 0, with a token more in each such time; nil, if that is 0.
func NewBucket(size, every uint64) *Bucket {
	if every == 0 {
		return nil
	}
	return &Bucket{size: size, every: every, tokens: size}
}

// Take takes a token: true, if there is one by now.
func (b *Bucket) Take(now uint64) bool {
	if b == nil {
		return false
	}
	*b = b.at(now)
	if b.tokens == 0 {
		return false
	}
	b.tokens--
	return true
}

// Left is how many tokens there would be by now.
func (b *Bucket) Left(now uint64) uint64 {
	if b == nil {
		return 0
	}
	return b.at(now).tokens
}

// at is the bucket with the tokens that come by now; as it is, if they came up to a later time.
func (b Bucket) at(now uint64) Bucket {
	if now < b.upTo {
		return b
	}
	room := b.size - b.tokens
	if room == 0 { // ahead of all that is divided: a bucket that nobody made has no time of a token
		return b.full(now)
	}
	came := (now - b.upTo) / b.every
	if came >= room {
		return b.full(now)
	}
	b.tokens += came
	b.upTo += came * b.every // no more than now, so nothing goes over
	return b
}

// full is the bucket when it is full. What is left of the time is lost: if it weren't, more would be let out in some time than the size and one each such time.
func (b Bucket) full(now uint64) Bucket {
	b.tokens, b.upTo = b.size, now
	return b
}
