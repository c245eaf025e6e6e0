package raw_test

import (
	"strings"
	"testing"

	"bedrock/raw"
)

// bitwise is the sum as the document tells it, step by step.
func bitwise(b string) int {
	x := 1<<32 - 1
	for i := range len(b) {
		x ^= int(b[i])
		for range 8 {
			if x%2 == 1 {
				x = x/2 ^ 2197175160
			} else {
				x /= 2
			}
		}
	}
	return x ^ (1<<32 - 1)
}

// P103
func TestSum(t *testing.T) {
	for _, c := range []struct {
		b   string
		sum int
	}{
		{"", 0},
		{"123456789", 3808858755},
		{"a", 0xc1d04330},
		{"\x00", 0x527d5351},
		{strings.Repeat("\x00", 32), 0x8a9136aa},
		{strings.Repeat("\xff", 32), 0x62a8ab43},
	} {
		if sum := raw.Sum(c.b); sum != c.sum {
			t.Errorf("Sum(%x): %x, not %x", c.b, sum, c.sum)
		}
	}
}

// P103
func TestSumOfEachByte(t *testing.T) {
	long := ""
	for c := range 256 {
		b := string([]byte{byte(c)})
		long += b
		for _, s := range []string{b, b + "z", "z" + b, long} {
			if sum, want := raw.Sum(s), bitwise(s); sum != want {
				t.Errorf("Sum(%x): %x, not %x", s, sum, want)
			}
		}
	}
}

// P107
func TestAChangedByteChangesTheSum(t *testing.T) {
	for _, s := range []string{"\x00", "a", "bedrock", strings.Repeat("\x00\xff", 20)} {
		sum := raw.Sum(s)
		for i := range len(s) {
			for c := range 256 {
				b := []byte(s)
				b[i] = byte(c)
				if same := string(b) == s; same != (raw.Sum(string(b)) == sum) {
					t.Errorf("Sum(%x) against that of %x", b, s)
				}
			}
		}
	}
}
