package image_test

import (
	"hash/fnv"
	"math/big"
	"math/rand"
	"testing"

	"louver/image"
)

func wantSum(t *testing.T, want uint64, parts ...[]byte) {
	t.Helper()
	if got := image.Sum(parts...); got != want {
		t.Fatalf("Sum of %.300x = %d, want %d", parts, got, want)
	}
}

func TestSumOfTheChapter(t *testing.T) { // P12.3
	wantSum(t, 14695981039346656037)
	wantSum(t, 12638187200555641996, []byte{0x61})
}

func TestSumOfNoBytes(t *testing.T) { // P12.3
	wantSum(t, 14695981039346656037, nil)
	wantSum(t, 14695981039346656037, []byte{})
	wantSum(t, 14695981039346656037, nil, []byte{}, nil)
	wantSum(t, 12638187200555641996, nil, []byte{0x61}, nil)
}

// TestSumOfEachByte works with numbers that do not wrap.
func TestSumOfEachByte(t *testing.T) { // P12.3
	begin, _ := new(big.Int).SetString("14695981039346656037", 10)
	factor, two := big.NewInt(1099511628211), new(big.Int).Lsh(big.NewInt(1), 64)
	step := func(sum *big.Int, b int) *big.Int {
		n := new(big.Int).Xor(sum, big.NewInt(int64(b)))
		return n.Mod(n.Mul(n, factor), two)
	}
	for a := range 256 {
		one := step(begin, a)
		wantSum(t, one.Uint64(), []byte{byte(a)})
		for b := range 256 {
			two := step(one, b).Uint64()
			wantSum(t, two, []byte{byte(a), byte(b)})
			wantSum(t, two, []byte{byte(a)}, []byte{byte(b)})
		}
	}
}

// TestSumOfParts cuts rows into parts anywhere: the sum stays.
func TestSumOfParts(t *testing.T) { // P12.3
	r := rand.New(rand.NewSource(1207))
	for range 5000 {
		b := make([]byte, r.Intn(60))
		r.Read(b)
		h := fnv.New64a()
		h.Write(b)
		wantSum(t, h.Sum64(), b)
		var parts [][]byte
		for left := b; len(left) > 0; {
			n := r.Intn(len(left) + 1)
			parts = append(parts, left[:n])
			left = left[n:]
		}
		wantSum(t, h.Sum64(), parts...)
	}
}

func TestSumOfMany(t *testing.T) { // P12.3
	b := make([]byte, 1<<20)
	rand.New(rand.NewSource(1208)).Read(b)
	h := fnv.New64a()
	h.Write(b)
	wantSum(t, h.Sum64(), b)
	var parts [][]byte
	for k := range b[:1<<16] {
		parts = append(parts, b[k:k+1])
	}
	wantSum(t, h.Sum64(), append(parts, b[1<<16:])...)
}
