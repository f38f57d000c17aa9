package reasm_test

import (
	"reflect"
	"testing"

	"doorward/api"
	"doorward/reasm"
)

// P16.1: the final size.

// refuseFinal fails the test, if a final size hasn't that error, or turns something.
func refuseFinal(t *testing.T, b *reasm.Buffer, want api.Errno, sizes ...uint64) {
	t.Helper()
	for _, size := range sizes {
		ahead := tell(b)
		if e := b.Final(size); e != want {
			t.Fatalf("Final(%d) = %d, want %d", size, e, want)
		}
		if behind := tell(b); !reflect.DeepEqual(ahead, behind) {
			t.Fatalf("Final(%d) turns %+v to %+v", size, ahead, behind)
		}
	}
}

// final takes a final size, which may have no error.
func final(t *testing.T, b *reasm.Buffer, size uint64) {
	t.Helper()
	if e := b.Final(size); e != api.OK {
		t.Fatalf("Final(%d) = %d", size, e)
	}
}

func TestTheFinalSizeComesWithTheLastBytes(t *testing.T) {
	b := bufferOf(t, 8, lastAt(2, "cd"))
	want := told{held: 2, limit: 8, top: 4, size: 4, known: true, has: places("--xx")}
	check(t, b, want)
	put(t, b, lastAt(2, "cd"), lastAt(3, "d"), lastAt(4, ""))
	check(t, b, want)
	final(t, b, 4)
	check(t, b, want)
	put(t, b, lastAt(0, "abcd"))
	check(t, b, told{ready: 4, held: 4, limit: 8, top: 4, size: 4, known: true, has: places("xxxx")})
	read(t, b, 3, "abc")
	check(t, b, told{ready: 1, held: 1, limit: 11, top: 4, size: 4, known: true, has: places("xxxx")})
	read(t, b, 3, "d")
	check(t, b, told{limit: 12, top: 4, size: 4, known: true, done: true, has: places("xxxx")})
	put(t, b, lastAt(0, "abcd"), bytesAt(1, "b"), lastAt(4, ""))
	check(t, b, told{limit: 12, top: 4, size: 4, known: true, done: true, has: places("xxxx")})
}

func TestTheFinalSizeComesWithNoBytes(t *testing.T) {
	for _, ends := range []func(b *reasm.Buffer) api.Errno{
		func(b *reasm.Buffer) api.Errno { return b.Put(3, nil, true) },
		func(b *reasm.Buffer) api.Errno { return b.Put(3, []byte{}, true) },
		func(b *reasm.Buffer) api.Errno { return b.Final(3) },
	} {
		ahead := bufferOf(t, 8)
		if e := ends(ahead); e != api.OK {
			t.Fatal(e)
		}
		check(t, ahead, told{limit: 8, top: 3, size: 3, known: true})
		put(t, ahead, bytesAt(1, "bc"), bytesAt(0, "ab"))
		behind := bufferOf(t, 8, bytesAt(0, "abc"))
		if e := ends(behind); e != api.OK {
			t.Fatal(e)
		}
		read(t, behind, 3, "abc")
		if e := ends(behind); e != api.OK {
			t.Fatal(e)
		}
		check(t, behind, told{limit: 11, top: 3, size: 3, known: true, done: true, has: places("xxx")})
		check(t, ahead, told{ready: 3, held: 3, limit: 8, top: 3, size: 3, known: true, has: places("xxx")})
		read(t, ahead, 9, "abc")
		check(t, ahead, tell(behind))
	}
}

func TestWhatWasReadMayTurnOutToBeAll(t *testing.T) {
	b := bufferOf(t, 4, bytesAt(0, "abc"))
	read(t, b, 4, "abc")
	check(t, b, told{limit: 7, top: 3, has: places("xxx")})
	refuseFinal(t, b, api.ErrFinal, 0, 2)
	final(t, b, 3)
	check(t, b, told{limit: 7, top: 3, size: 3, known: true, done: true, has: places("xxx")})
}

func TestAFinalSizeOfNone(t *testing.T) {
	b := bufferOf(t, 4)
	check(t, b, told{limit: 4})
	final(t, b, 0)
	check(t, b, told{limit: 4, known: true, done: true})
	put(t, b, bytesAt(0, ""), lastAt(0, ""))
	refuse(t, b, api.ErrFinal, bytesAt(0, "a"), lastAt(0, "a"), bytesAt(1, ""), lastAt(1, ""), bytesAt(4, ""))
	read(t, b, 1, "")
}

func TestNoEndIsAboveTheFinalSize(t *testing.T) {
	b := bufferOf(t, 8, lastAt(3, "de"))
	refuse(t, b, api.ErrFinal, bytesAt(5, "f"), bytesAt(4, "ef"), bytesAt(0, "abcdef"), bytesAt(6, ""), bytesAt(8, ""))
	put(t, b, bytesAt(5, ""), bytesAt(4, "e"), bytesAt(4, ""), bytesAt(1, "bc"), bytesAt(0, "a"))
	read(t, b, 9, "abcde")
	refuse(t, b, api.ErrFinal, bytesAt(5, "f"), bytesAt(6, ""), bytesAt(12, "f"), bytesAt(13, ""))
	put(t, b, bytesAt(5, ""))
}

func TestTheLastOnesHaveButOneEnd(t *testing.T) {
	b := bufferOf(t, 8, lastAt(3, "de"))
	refuse(t, b, api.ErrFinal, lastAt(3, "d"), lastAt(4, ""), lastAt(3, "def"), lastAt(6, ""), lastAt(0, "abcd"), lastAt(0, ""), lastAt(8, ""))
	refuseFinal(t, b, api.ErrFinal, 0, 3, 4, 6, 7, 8)
	final(t, b, 5)
	put(t, b, lastAt(3, "de"), lastAt(0, "abcde"))
	read(t, b, 9, "abcde")
	refuse(t, b, api.ErrFinal, lastAt(3, "d"), lastAt(4, ""), lastAt(5, "f"), lastAt(6, ""))
	refuseFinal(t, b, api.ErrFinal, 0, 4, 6, 13)
	final(t, b, 5)
}

func TestAFinalSizeIsNotBelowTheGreatestEnd(t *testing.T) {
	b := bufferOf(t, 8, bytesAt(2, "cde"), bytesAt(0, "a"))
	refuse(t, b, api.ErrFinal, lastAt(4, ""), lastAt(2, "cd"), lastAt(0, "abcd"), lastAt(0, ""), lastAt(0, "a"))
	refuseFinal(t, b, api.ErrFinal, 0, 1, 4)
	put(t, b, bytesAt(7, ""))
	refuse(t, b, api.ErrFinal, lastAt(2, "cde"), lastAt(5, "f"), lastAt(6, ""))
	refuseFinal(t, b, api.ErrFinal, 0, 5, 6)
	check(t, b, told{ready: 1, held: 4, limit: 8, top: 7, has: places("x-xxx")})
	put(t, b, lastAt(5, "fg"))
	check(t, b, told{ready: 1, held: 6, limit: 8, top: 7, size: 7, known: true, has: places("x-xxxxx")})

	c := bufferOf(t, 8, bytesAt(7, ""))
	refuseFinal(t, c, api.ErrFinal, 6)
	final(t, c, 8)
	check(t, c, told{limit: 8, top: 8, size: 8, known: true})
}

func TestWhatIsRefusedIsNoGreatestEnd(t *testing.T) {
	b := bufferOf(t, 8, bytesAt(0, "ab"))
	refuse(t, b, api.ErrFlow, bytesAt(9, ""), bytesAt(6, "ghi"), lastAt(9, ""))
	refuse(t, b, api.ErrArg, bytesAt(greatest+1, ""))
	refuse(t, b, api.ErrFinal, lastAt(1, ""))
	final(t, b, 2)
	check(t, b, told{ready: 2, held: 2, limit: 8, top: 2, size: 2, known: true, has: places("xx")})
	refuse(t, b, api.ErrFinal, bytesAt(1, "Bc"), lastAt(2, "c"))
	read(t, b, 9, "ab")
}

func TestFinalIsAsNoBytesThatAreTheLastOnes(t *testing.T) {
	b := bufferOf(t, 4, bytesAt(0, "ab"))
	refuseFinal(t, b, api.ErrFlow, 5, 100, greatest-1, greatest)
	refuseFinal(t, b, api.ErrArg, greatest+1, greatest+2, 1<<63, 1<<64-1)
	refuseFinal(t, b, api.ErrFinal, 0, 1)
	final(t, b, 4)
	check(t, b, told{ready: 2, held: 2, limit: 4, top: 4, size: 4, known: true, has: places("xx")})
}

func TestWhichOfSeveralErrorsIsTold(t *testing.T) {
	b := bufferOf(t, 4, lastAt(2, "c"))
	refuse(t, b, api.ErrArg, bytesAt(greatest+1, ""), lastAt(greatest+1, ""), lastAt(greatest, "a"))
	refuse(t, b, api.ErrFlow, bytesAt(5, ""), lastAt(5, ""), bytesAt(4, "e"), lastAt(3, "de"), bytesAt(greatest, ""))
	refuseFinal(t, b, api.ErrArg, greatest+1)
	refuseFinal(t, b, api.ErrFlow, 5, greatest)
	refuseFinal(t, b, api.ErrFinal, 2, 4)
	refuse(t, b, api.ErrFinal, bytesAt(4, ""), bytesAt(3, "d"))
}
