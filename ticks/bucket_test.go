package ticks_test

import (
	"testing"

	"doorward/ticks"
)

// take is a time at which a token is asked for, whether there is one, and how many there are behind that.
type take struct {
	now  uint64
	ok   bool
	left uint64
}

// checkTakes goes through a bucket's takes.
func checkTakes(t *testing.T, b *ticks.Bucket, takes []take) {
	t.Helper()
	for i, x := range takes {
		if ok := b.Take(x.now); ok != x.ok {
			t.Fatalf("step %d: Take(%d) = %v", i, x.now, ok)
		}
		if left := b.Left(x.now); left != x.left {
			t.Fatalf("step %d: Left(%d) = %d, want %d", i, x.now, left, x.left)
		}
	}
}

// checkLeft holds how many tokens there would be against what there ought to be.
func checkLeft(t *testing.T, b *ticks.Bucket, now, want uint64) {
	t.Helper()
	if left := b.Left(now); left != want {
		t.Errorf("Left(%d) = %d, want %d", now, left, want)
	}
}

// takenBy is how many tokens a bucket lets out at a time, of at most so many that are asked for.
func takenBy(b *ticks.Bucket, now, asked uint64) uint64 {
	taken := uint64(0)
	for range asked {
		if b.Take(now) {
			taken++
		}
	}
	return taken
}

// P11.2

func TestABucketOfNoTimeIsNil(t *testing.T) {
	for _, size := range []uint64{0, 1, 3, 100, never - 1, never} {
		if b := ticks.NewBucket(size, 0); b != nil {
			t.Errorf("NewBucket(%d, 0) = %v", size, b)
		}
		for _, every := range []uint64{1, 2, 10, 1 << 63, never - 1, never} {
			if b := ticks.NewBucket(size, every); b == nil {
				t.Errorf("NewBucket(%d, %d) = nil", size, every)
			}
		}
	}
}

func TestANilBucketHasNothing(t *testing.T) {
	for _, b := range []*ticks.Bucket{nil, ticks.NewBucket(3, 0)} {
		for _, now := range append(someTimes(), never) {
			if b.Take(now) || b.Left(now) != 0 {
				t.Fatalf("a nil bucket has something at %d", now)
			}
		}
	}
}

func TestABucketThatNobodyMadeHasNothing(t *testing.T) {
	b := new(ticks.Bucket) // it is nobody's, but no call panics
	for _, now := range append(someTimes(), never) {
		if b.Take(now) || b.Left(now) != 0 {
			t.Fatalf("a zero bucket has something at %d", now)
		}
	}
}

func TestABucketOfNoSizeHasNothing(t *testing.T) {
	for _, every := range []uint64{1, 3, 10, 1 << 63, never} {
		b := ticks.NewBucket(0, every)
		for _, now := range append(someTimes(), never, 0, 1) {
			if b.Left(now) != 0 || b.Take(now) || b.Left(now) != 0 {
				t.Fatalf("a bucket of the size 0 has something at %d", now)
			}
		}
	}
}

func TestABucketIsFullAtFirst(t *testing.T) {
	for _, size := range []uint64{0, 1, 3, 16, 1000, 1 << 63, never - 1, never} {
		for _, every := range []uint64{1, 3, 10, 1 << 40, never} {
			b := ticks.NewBucket(size, every)
			for _, now := range append(someTimes(), never) {
				checkLeft(t, b, now, size)
			}
		}
	}
}

func TestAllOfABucketTakenAtOnce(t *testing.T) {
	for _, size := range []uint64{0, 1, 3, 16, 1000} {
		for _, every := range []uint64{1, 3, 10} {
			for _, now := range []uint64{0, 1, every - 1, every, every + 1, 1 << 40, never - 1, never} {
				b := ticks.NewBucket(size, every)
				if taken := takenBy(b, now, size+5); taken != size {
					t.Errorf("a bucket of %d lets out %d at %d", size, taken, now)
				}
				checkLeft(t, b, now, 0)
			}
		}
	}
}

func TestATokenEachTime(t *testing.T) {
	for _, every := range []uint64{1, 3, 10, 1000} {
		b := ticks.NewBucket(3, every)
		takenBy(b, 0, 3)
		for i := uint64(1); i <= 50; i++ { // slowly: one by one, as they come
			if b.Take(i*every - 1) {
				t.Fatalf("a token ahead of %d times %d", i, every)
			}
			if !b.Take(i*every) || b.Take(i*every) {
				t.Fatalf("not one token at %d times %d", i, every)
			}
		}
	}
}

func TestTokensOfALongPause(t *testing.T) {
	for _, every := range []uint64{1, 3, 10} {
		for _, size := range []uint64{1, 3, 16} {
			for pause := range uint64(40) {
				b := ticks.NewBucket(size, every)
				takenBy(b, 5, size)
				want := min(pause/every, size)
				checkLeft(t, b, 5+pause, want)
				if taken := takenBy(b, 5+pause, size+3); taken != want {
					t.Errorf("size %d, each %d: %d taken behind a pause of %d, want %d", size, every, taken, pause, want)
				}
			}
		}
	}
}

func TestTokensAreTakenAsTheyCome(t *testing.T) {
	checkTakes(t, ticks.NewBucket(3, 10), []take{
		{5, true, 2}, {5, true, 1}, {5, true, 0}, {5, false, 0}, {14, false, 0}, {15, true, 0}, {24, false, 0}, {25, true, 0},
		{44, true, 0}, {45, true, 0}, {46, false, 0}, {54, false, 0}, {55, true, 0},
		{1000, true, 2}, {1009, true, 1}, {1010, true, 1}, {1019, true, 0}, {1020, true, 0}, {1029, false, 0}, {1030, true, 0},
	})
	checkTakes(t, ticks.NewBucket(1, 1), []take{{0, true, 0}, {0, false, 0}, {1, true, 0}, {1, false, 0}, {2, true, 0}, {9, true, 0}, {9, false, 0}})
	checkTakes(t, ticks.NewBucket(1, 3), []take{{0, true, 0}, {2, false, 0}, {3, true, 0}, {5, false, 0}, {8, true, 0}, {10, false, 0}, {11, true, 0}})
}

func TestWhatIsLeftOfTheTimeIsNotLost(t *testing.T) {
	b := ticks.NewBucket(3, 10)
	takenBy(b, 0, 3)
	checkTakes(t, b, []take{{19, true, 0}, {20, true, 0}, {29, false, 0}, {39, true, 0}, {40, true, 0}, {49, false, 0}, {50, true, 0}})
	b = ticks.NewBucket(3, 10)
	takenBy(b, 0, 2) // with one left, two may come
	checkTakes(t, b, []take{{19, true, 1}, {20, true, 1}, {29, true, 0}, {30, true, 0}, {39, false, 0}})
}

func TestWhatIsLeftOfTheTimeIsNotLostByAsking(t *testing.T) {
	b := ticks.NewBucket(2, 10)
	takenBy(b, 0, 2)
	for now := range uint64(10) {
		if b.Take(now) {
			t.Fatalf("a token at %d", now)
		}
	}
	checkTakes(t, b, []take{{10, true, 0}, {10, false, 0}})
}

func TestWhatIsLeftOfTheTimeIsLostByAFullBucket(t *testing.T) {
	checkTakes(t, ticks.NewBucket(1, 10), []take{{19, true, 0}, {20, false, 0}, {28, false, 0}, {29, true, 0}}) // at first
	b := ticks.NewBucket(3, 10)
	takenBy(b, 0, 3)
	checkTakes(t, b, []take{{39, true, 2}, {40, true, 1}, {48, true, 0}, {49, true, 0}, {58, false, 0}, {59, true, 0}}) // just full
	b = ticks.NewBucket(3, 10)
	takenBy(b, 0, 3)
	checkTakes(t, b, []take{{77, true, 2}, {86, true, 1}, {87, true, 1}, {96, true, 0}, {97, true, 0}}) // with room for fewer than came
}

func TestATimeThatIsLessBringsNothing(t *testing.T) {
	b := ticks.NewBucket(3, 10)
	takenBy(b, 100, 3)
	for _, now := range []uint64{0, 1, 50, 99} {
		checkLeft(t, b, now, 0)
		if b.Take(now) {
			t.Errorf("a token at %d", now)
		}
	}
	checkTakes(t, b, []take{{110, true, 0}, {109, false, 0}, {119, false, 0}, {120, true, 0}, {0, false, 0}, {130, true, 0}})
}

func TestATimeThatIsLessTakesWhatThereIs(t *testing.T) {
	checkTakes(t, ticks.NewBucket(3, 10), []take{{100, true, 2}, {0, true, 1}, {99, true, 0}, {0, false, 0}, {109, false, 0}, {110, true, 0}})
}

func TestATimeThatIsLessThanTheOneThatWasToldButNotThanTheOneUpToWhichTokensCame(t *testing.T) {
	b := ticks.NewBucket(3, 10)
	takenBy(b, 0, 3)
	checkTakes(t, b, []take{{29, true, 1}, {21, true, 0}, {20, false, 0}, {30, true, 0}})
}

func TestLeftTakesNothing(t *testing.T) {
	b := ticks.NewBucket(3, 10)
	for _, now := range append(someTimes(), 0, never, 5) {
		checkLeft(t, b, now, 3)
	}
	takenBy(b, 7, 2)
	for range 3 {
		for _, x := range [][2]uint64{{never, 3}, {0, 1}, {16, 1}, {17, 2}, {26, 2}, {27, 3}, {1000, 3}, {7, 1}} {
			checkLeft(t, b, x[0], x[1])
		}
	}
	checkTakes(t, b, []take{{16, true, 0}, {16, false, 0}, {17, true, 0}, {26, false, 0}, {27, true, 0}})
}

func TestWithoutLeftItIsTheSame(t *testing.T) {
	asked, other := ticks.NewBucket(4, 7), ticks.NewBucket(4, 7)
	for i := range uint64(300) {
		now := i * i * 13 % 500 // forth and back
		asked.Left(now)
		asked.Left(now + 1000)
		if asked.Take(now) != other.Take(now) || asked.Left(now) != other.Left(now) {
			t.Fatalf("step %d: it hangs on whether Left was called", i)
		}
	}
}

func TestBucketsAreApart(t *testing.T) {
	one, other := ticks.NewBucket(3, 10), ticks.NewBucket(3, 10)
	takenBy(one, 50, 3)
	if one == other || other.Left(0) != 3 || one.Left(50) != 0 {
		t.Error("what is taken of one bucket goes from another one")
	}
	kept := *other // a bucket is a value
	takenBy(other, 50, 2)
	if kept.Left(50) != 3 || other.Left(50) != 1 {
		t.Error("what is taken of a bucket goes from a copy")
	}
}

func TestABucketAboutNever(t *testing.T) {
	b := ticks.NewBucket(3, 10)
	takenBy(b, never-25, 3)
	checkTakes(t, b, []take{{never - 16, false, 0}, {never - 15, true, 0}, {never - 6, false, 0}, {never - 5, true, 0}, {never - 1, false, 0}, {never, false, 0}})
	b = ticks.NewBucket(3, 10)
	takenBy(b, never-10, 3)
	checkTakes(t, b, []take{{never - 1, false, 0}, {never, true, 0}, {never, false, 0}, {0, false, 0}})
	checkTakes(t, ticks.NewBucket(2, 10), []take{{never, true, 1}, {0, true, 0}, {never - 1, false, 0}, {never, false, 0}}) // no tokens come behind Never
}

func TestTokensEachNever(t *testing.T) {
	b := ticks.NewBucket(2, never)
	checkTakes(t, b, []take{{0, true, 1}, {0, true, 0}, {1, false, 0}, {1 << 63, false, 0}, {never - 1, false, 0}, {never, true, 0}, {never, false, 0}})
	b = ticks.NewBucket(1, never)
	checkTakes(t, b, []take{{1, true, 0}, {never - 1, false, 0}, {never, false, 0}})
	b = ticks.NewBucket(3, never-1)
	checkTakes(t, b, []take{{1, true, 2}, {1, true, 1}, {1, true, 0}, {never - 1, false, 0}, {never, true, 0}})
	b = ticks.NewBucket(3, 1<<63)
	checkTakes(t, b, []take{{0, true, 2}, {0, true, 1}, {0, true, 0}, {1<<63 - 1, false, 0}, {1 << 63, true, 0}, {never, false, 0}})
}

func TestAGreatBucketNeverGoesRound(t *testing.T) {
	for _, size := range []uint64{1 << 63, never - 1, never} {
		b := ticks.NewBucket(size, 1)
		checkTakes(t, b, []take{{0, true, size - 1}, {0, true, size - 2}, {0, true, size - 3}})
		checkLeft(t, b, 1, size-2)
		checkLeft(t, b, 2, size-1)
		checkLeft(t, b, 3, size)
		checkLeft(t, b, 4, size)
		checkLeft(t, b, never, size) // as many tokens and those that are there would be more than Never
		checkTakes(t, b, []take{{2, true, size - 2}, {never, true, size - 1}, {never, true, size - 2}})
	}
}

// P11.3

// let is when tokens were let out.
func let(b *ticks.Bucket, times []uint64) []uint64 {
	var out []uint64
	for _, now := range times {
		if b.Take(now) {
			out = append(out, now)
		}
	}
	return out
}

// checkBound looks at all stretches of what was let out: there is no more of it than the size and one each such time.
func checkBound(t *testing.T, size, every uint64, out []uint64) {
	t.Helper()
	for i := range out {
		least, most := out[i], out[i]
		for j := i; j < len(out); j++ {
			least, most = min(least, out[j]), max(most, out[j])
			if n := uint64(j - i + 1); n > size && n-size > (most-least)/every {
				t.Fatalf("size %d, each %d: %d are let out from %d to %d", size, every, n, least, most)
			}
		}
	}
}

func TestNoMoreAreLetOutThanTheSizeAndOneEachTime(t *testing.T) {
	for _, every := range []uint64{1, 2, 3, 10} {
		for _, size := range []uint64{0, 1, 2, 3, 16} {
			for step := range uint64(25) {
				var times []uint64
				for i := range uint64(120) {
					times = append(times, i*step/4+i%5*step/3) // slowly, and with short steps back
				}
				checkBound(t, size, every, let(ticks.NewBucket(size, every), times))
				for i := range times {
					times[i] += never - 120*25
				}
				checkBound(t, size, every, let(ticks.NewBucket(size, every), times))
			}
		}
	}
}

func TestNoMoreAreLetOutBehindAPauseThatLeavesTime(t *testing.T) {
	for pause := range uint64(60) {
		var times []uint64
		for range 4 { // all, then nothing, then all, just ahead of what comes next and behind it
			times = append(times, 0, 0, 0, pause, pause, pause, pause, pause+1, pause+1, pause+9, pause+10)
		}
		checkBound(t, 3, 10, let(ticks.NewBucket(3, 10), times))
	}
}

func TestWhoAsksAtAllTimesGetsAsManyAsThereMayBe(t *testing.T) {
	for _, every := range []uint64{1, 2, 3, 10} {
		for _, size := range []uint64{1, 2, 3, 16} {
			b := ticks.NewBucket(size, every)
			out := uint64(0)
			for now := range uint64(200) {
				out += takenBy(b, now, size+1)
				if want := size + now/every; out != want {
					t.Fatalf("size %d, each %d: %d are let out up to %d", size, every, out, now)
				}
			}
		}
	}
}
