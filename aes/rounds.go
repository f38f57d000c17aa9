package aes

// Sizes that a block, and a key, go by.
const (
	blockSize  = 16 // bytes
	columnSize = 4  // bytes; a word of the round keys has as many
	columns    = blockSize / columnSize
	rounds     = 10
	given      = columns // words that are the key itself
	words      = columns * (rounds + 1)
)

// Of a stream's blocks, only the bytes from here on are counted by.
const countFrom = 12

// block is what goes through the rounds at once, column by column.
type block [blockSize]byte

// cipher is what blocks are enciphered by: it hangs on the key alone, so it is made but once for all of them.
type cipher struct {
	boxes *boxes
	keys  [words][columnSize]byte
}

func cipherOf(key [16]byte) *cipher {
	b := allBoxes()
	return &cipher{boxes: b, keys: keys(key, b)}
}

// keys are a key's round keys.
func keys(key [16]byte, b *boxes) [words][columnSize]byte {
	var w [words][columnSize]byte
	for i := range given {
		w[i] = [columnSize]byte(key[i*columnSize:])
	}
	power := byte(1)
	for i := given; i < words; i++ {
		x := w[i-1]
		if i%given == 0 {
			x = [columnSize]byte{b[x[1]] ^ power, b[x[2]], b[x[3]], b[x[0]]}
			power = double(power)
		}
		for j := range x {
			w[i][j] = w[i-given][j] ^ x[j]
		}
	}
	return w
}

// encipher is a block enciphered.
func (c *cipher) encipher(b block) block {
	b.xor(c.keys[:columns])
	for round := 1; round <= rounds; round++ {
		b.box(c.boxes)
		b.turn()
		if round < rounds {
			b.multiply()
		}
		b.xor(c.keys[columns*round:])
	}
	return b
}

// xor adds a round key, with which the words begin.
func (b *block) xor(words [][columnSize]byte) {
	key := (*[columns][columnSize]byte)(words)
	for i := range b {
		b[i] ^= key[i/columnSize][i%columnSize]
	}
}

// box puts the box of each byte to its place.
func (b *block) box(boxes *boxes) {
	for i, x := range b {
		b[i] = boxes[x]
	}
}

// turn turns each row left by its number: what comes to a place stood so many columns behind it.
func (b *block) turn() {
	old := *b
	for i := range b {
		row := i % columnSize
		b[i] = old[(i+row*columnSize)%blockSize]
	}
}

// multiply multiplies each column.
func (b *block) multiply() {
	for i := 0; i < blockSize; i += columnSize {
		x := (*[columnSize]byte)(b[i:])
		p, q, r, s := x[0], x[1], x[2], x[3]
		x[0] = double(p^q) ^ q ^ r ^ s
		x[1] = double(q^r) ^ r ^ s ^ p
		x[2] = double(r^s) ^ s ^ p ^ q
		x[3] = double(s^p) ^ p ^ q ^ r
	}
}

// oneMore is the block that follows in a stream: the number of its last four bytes is one more, the others stay.
func (b block) oneMore() block {
	for i := blockSize - 1; i >= countFrom; i-- {
		b[i]++
		if b[i] != 0 {
			break
		}
	}
	return b
}
