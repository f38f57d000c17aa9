package frames

import "doorward/api"

// Bits of types, of the kinds that have more types than one.
const (
	flagBit  = 1 // the Flag; of an Ack: counts follow
	countBit = 2 // of a Stream: how many bytes it has is told
	placeBit = 4 // of a Stream: A is told
)

// mostStreams is the greatest number of streams.
const mostStreams = 1 << 60

// challengeSize is how many bytes a Challenge has, and its Response.
const challengeSize = 8

// kind is what frames of one kind have.
type kind struct {
	flagged bool                   // the lowest bit of its types is the Flag
	parts   func(t uint64) []part  // of a type, in the order in which they stand behind it
	fits    func(f api.Frame) bool // nil, if all that its parts hold may be
}

// kinds are all of them, by numbers that hold any type: an int may be too small for that.
func kinds() map[uint64]kind {
	return map[uint64]kind{
		api.Padding:       {parts: of(zeros), fits: func(f api.Frame) bool { return 1 <= f.A && f.A <= api.MaxBytes }},
		api.Ping:          {parts: of()},
		api.Ack:           {parts: partsOfAck, fits: func(f api.Frame) bool { return areApart(f.Ranges) }},
		api.Reset:         {parts: of(id, code, amount)},
		api.Stop:          {parts: of(id, code)},
		api.Crypto:        {parts: of(amount, counted), fits: endsAtAPlace},
		api.NewToken:      {parts: of(counted), fits: func(f api.Frame) bool { return hasBytes(f, 1, api.MaxBytes) }},
		api.Stream:        {flagged: true, parts: partsOfStream, fits: endsAtAPlace},
		api.MaxData:       {parts: of(amount)},
		api.MaxStreamData: {parts: of(id, amount)},
		api.MaxStreams:    {flagged: true, parts: of(amount), fits: isOfStreams},
		api.Blocked:       {parts: of(amount)},
		api.StreamBlocked: {parts: of(id, amount)},
		api.StreamsFull:   {flagged: true, parts: of(amount), fits: isOfStreams},
		api.NewCid:        {parts: of(id, amount, shortlyCounted, token), fits: func(f api.Frame) bool { return f.A <= f.Id && hasBytes(f, 1, api.MaxCid) }},
		api.RetireCid:     {parts: of(id)},
		api.Challenge:     {parts: of(challenge), fits: isChallenge},
		api.Response:      {parts: of(challenge), fits: isChallenge},
		api.Close:         {flagged: true, parts: partsOfClose, fits: func(f api.Frame) bool { return hasBytes(f, 0, api.MaxBytes) }},
		api.Done:          {parts: of()},
	}
}

// has tells if a frame of the kind has what it may have, and nothing else.
func (k kind) has(f api.Frame) bool {
	if max(f.Id, f.A, f.B, f.Code) > api.MaxInt {
		return false
	}
	rest := f
	rest.Flag = f.Flag && !k.flagged
	for _, p := range k.parts(typeOf(f)) {
		p.drop(&rest)
	}
	return Same(rest, api.Frame{Kind: f.Kind}) && (k.fits == nil || k.fits(f))
}

// typeOf is the type that a frame is put by.
func typeOf(f api.Frame) uint64 {
	t := uint64(f.Kind)
	if f.Flag {
		t |= flagBit
	}
	if f.Kind == api.Stream {
		t |= countBit
		if f.A != 0 {
			t |= placeBit
		}
	}
	return t
}

// kindOf is the kind of a type, if that is known at all.
func kindOf(t uint64) uint64 {
	if t&^(flagBit|countBit|placeBit) == api.Stream {
		return api.Stream
	}
	switch t &^ flagBit {
	case api.Ack, api.MaxStreams, api.StreamsFull, api.Close:
		return t &^ flagBit
	}
	return t
}

// of is the parts of a kind that has the same ones by each of its types.
func of(parts ...func() part) func(t uint64) []part {
	return func(uint64) []part {
		var l []part
		for _, p := range parts {
			l = append(l, p())
		}
		return l
	}
}

func partsOfAck(t uint64) []part {
	if t&flagBit != 0 {
		return []part{acked(), droppedCounts()}
	}
	return []part{acked()}
}

func partsOfStream(t uint64) []part {
	l := []part{id()}
	if t&placeBit != 0 {
		l = append(l, amount())
	}
	if t&countBit != 0 {
		return append(l, counted())
	}
	return append(l, allThatIsLeft())
}

func partsOfClose(t uint64) []part {
	if t&flagBit != 0 {
		return []part{code(), counted()}
	}
	return []part{code(), amount(), counted()}
}

// hasBytes tells if Data has from least to most bytes.
func hasBytes(f api.Frame, least, most int) bool {
	return least <= len(f.Data) && len(f.Data) <= most
}

// isChallenge tells if Data is what a Challenge has.
func isChallenge(f api.Frame) bool { return hasBytes(f, challengeSize, challengeSize) }

// isOfStreams tells if A is a number of streams.
func isOfStreams(f api.Frame) bool { return f.A <= mostStreams }

// endsAtAPlace tells if the place behind Data is one that may be, and Data isn't too long.
func endsAtAPlace(f api.Frame) bool {
	return hasBytes(f, 0, api.MaxBytes) && f.A <= api.MaxInt-uint64(len(f.Data))
}

// areApart tells if ranges may be acked: the greatest first, with a number or more between two of them.
func areApart(l []api.Range) bool {
	if len(l) < 1 || len(l) > api.MaxRanges || l[0].Hi > api.MaxInt {
		return false
	}
	for i, r := range l {
		if r.Lo > r.Hi {
			return false
		}
		// Hi may be any number here: only of Lo ahead is it known that it can be reckoned with.
		if i > 0 && (l[i-1].Lo < step || r.Hi > l[i-1].Lo-step) {
			return false
		}
	}
	return true
}
