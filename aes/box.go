package aes

import "math/bits"

const (
	bitsOfByte = 8
	modulus    = 0x1b // what x to the power 8 is, modulo 11b
	boxMark    = 0x63
)

// boxes are all bytes' ones.
type boxes [256]byte

// double is a byte times 2, with what goes over put in again.
func double(a byte) byte { return a<<1 ^ a>>(bitsOfByte-1)*modulus }

// inverse is what a byte times is 1; 0 of 0. It is a byte's power of 254, as that of 255 is 1.
func inverse(a byte) byte {
	power := a
	for range 6 { // 3, 7, 15, 31, 63, 127
		power = Times(Times(power, power), a)
	}
	return Times(power, power)
}

// boxOfInverse is the box of the byte whose inverse is x.
func boxOfInverse(x byte) byte {
	box := x ^ boxMark
	turnOn := func() {
		x = bits.RotateLeft8(x, 1)
		box ^= x
	}
	for range 4 {
		turnOn()
	}
	return box
}

// allBoxes are reckoned at once, for those who ask for many. Each byte but 0 is a power of 3, the first 255 of which are all of them: so inverses needn't be found one by one.
func allBoxes() *boxes {
	var powers [255]byte
	power := byte(1)
	for i := range powers {
		powers[i] = power
		power ^= double(power)
	}
	b := boxes{0: boxOfInverse(0)}
	for i, a := range powers {
		b[a] = boxOfInverse(powers[(len(powers)-i)%len(powers)])
	}
	return &b
}
