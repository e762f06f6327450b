package key

import (
	"bytes"
	"crypto/hmac"
	"crypto/sha256"
	"encoding/hex"
	"math"
	"slices"
	"testing"

	"moneyer/api"
	"moneyer/plain"
)

// filled makes a digest of which all bytes are the same.
func filled(b byte) api.Digest {
	return api.Digest(bytes.Repeat([]byte{b}, 32))
}

// counted makes a digest of the bytes 0 to 31.
func counted() api.Digest {
	var d api.Digest
	for i := range d {
		d[i] = byte(i)
	}
	return d
}

// mixed makes digests of all kinds: the same one for the same number.
func mixed(n int) api.Digest {
	return sha256.Sum256([]byte{byte(n >> 8), byte(n)})
}

// kinds has the least and the greatest digest, those next to them, and some between.
func kinds() []api.Digest {
	last, below := api.Digest{31: 1}, filled(255)
	below[31] = 254
	return []api.Digest{{}, {1}, last, {18}, {128}, filled(255), below, filled(15), filled(240), filled(127), counted(), mixed(0), mixed(1)}
}

func unhex(t *testing.T, s string) api.Digest {
	t.Helper()
	b, err := hex.DecodeString(s)
	if err != nil || len(b) != 32 {
		t.Fatalf("no digest: %q", s)
	}
	return api.Digest(b)
}

// otherStep is what Step is to tell, by another program.
func otherStep(d api.Digest, n int) api.Digest {
	for ; n > 0; n-- {
		d = sha256.Sum256(append([]byte{8}, d[:]...))
	}
	return d
}

// otherDigits is what Digits is to tell, in other words: the digits of the text as hex has it, and of what they lack.
func otherDigits(m api.Digest) []int {
	var digits []int
	lack := 64 * 15
	for _, c := range []byte(hex.EncodeToString(m[:])) {
		digit := bytes.IndexByte([]byte("0123456789abcdef"), c)
		digits = append(digits, digit)
		lack -= digit
	}
	return append(digits, lack>>8, lack>>4&15, lack&15)
}

// otherSecret is a seed's secret of a place, by another program.
func otherSecret(seed api.Digest, place int) api.Digest {
	h := hmac.New(sha256.New, seed[:])
	h.Write([]byte{5, byte(place)})
	return api.Digest(h.Sum(nil))
}

func otherPublic(seed api.Digest) api.Digest {
	all := []byte{7}
	for place := range 67 {
		d := otherStep(otherSecret(seed, place), 15)
		all = append(all, d[:]...)
	}
	return sha256.Sum256(all)
}

func otherSign(seed, m api.Digest) []byte {
	var sig []byte
	for place, digit := range otherDigits(m) {
		d := otherStep(otherSecret(seed, place), digit)
		sig = append(sig, d[:]...)
	}
	return sig
}

func otherRecover(m api.Digest, sig []byte) api.Digest {
	all := []byte{7}
	for place, digit := range otherDigits(m) {
		d := otherStep(api.Digest(sig[32*place:32*place+32]), 15-digit)
		all = append(all, d[:]...)
	}
	return sha256.Sum256(all)
}

func holdsDigits(t *testing.T, m api.Digest) {
	t.Helper()
	got := Digits(m)
	if !slices.Equal(got, otherDigits(m)) {
		t.Errorf("Digits(%x): got %v, want %v", m, got, otherDigits(m))
	}
	for place, digit := range got {
		if digit < 0 || digit > 15 {
			t.Errorf("Digits(%x): %d at place %d", m, digit, place)
		}
	}
}

// holdsSigned: what is signed is as it must be, and recovered.
func holdsSigned(t *testing.T, seed, m api.Digest) {
	t.Helper()
	sig := Sign(seed, m)
	if !bytes.Equal(sig, otherSign(seed, m)) {
		t.Errorf("Sign(%x, %x): got %x", seed, m, sig)
	}
	public := Public(seed)
	if public != otherPublic(seed) {
		t.Errorf("Public(%x): got %x", seed, public)
	}
	if got, err := Recover(m, sig); err != nil || got != public {
		t.Errorf("seed %x, digest %x: recovered %x, %v, want %x", seed, m, got, err, public)
	}
}

// TestKE1KnownSteps: worked out apart, so that the tests do not hang on the other program alone.
func TestKE1KnownSteps(t *testing.T) {
	known := []struct {
		from api.Digest
		n    int
		to   string
	}{
		{filled(0), 1, "9cd222876c0b2b6032fa3f75641474ff2996772e37afc3b9dfd1d18b6ad0642e"},
		{filled(0), 2, "ef701b11c02d32df70f55d53b3e8459d2318fc04b3fb03be229a9754150cb7e2"},
		{filled(0), 15, "87a526e47a829f2f8e1e11b78f11104c1a5192e5babf9debe8ad1c9bd8969161"},
		{filled(255), 1, "28a3c3890f87c5054ee921bb6f8e649d987da4335f6d8ece2080bb7bd538d8a8"},
		{counted(), 1, "d3df6156934d6caf1c0ae89fc4a0c324e392bba502c596688402a91c953666f3"},
		{counted(), 100, "2b1acbdca6e99567388654cdeec6425386f05be69550ef4e0087911f5de9721a"},
	}
	for _, k := range known {
		if got := Step(k.from, k.n); got != unhex(t, k.to) {
			t.Errorf("Step(%x, %d): got %x, want %s", k.from, k.n, got, k.to)
		}
	}
}

// TestKE1NoStep: by 0, and by less, it is the digest itself.
func TestKE1NoStep(t *testing.T) {
	for _, d := range kinds() {
		for _, n := range []int{0, -1, -2, -15, -16, math.MinInt32, math.MinInt} {
			if got := Step(d, n); got != d {
				t.Errorf("Step(%x, %d): got %x", d, n, got)
			}
		}
		if Step(d, 1) == d {
			t.Errorf("Step(%x, 1) is the digest itself", d)
		}
	}
}

// TestKE1Steps: every count up to some hundreds, and a great one.
func TestKE1Steps(t *testing.T) {
	for _, d := range kinds() {
		for n := range 300 {
			if got, want := Step(d, n), otherStep(d, n); got != want {
				t.Fatalf("Step(%x, %d): got %x, want %x", d, n, got, want)
			}
		}
	}
	if got, want := Step(mixed(7), 70000), otherStep(mixed(7), 70000); got != want {
		t.Errorf("70000 steps: got %x, want %x", got, want)
	}
}

// TestKE1StepsBehindSteps: in two goes it is as in one.
func TestKE1StepsBehindSteps(t *testing.T) {
	d := mixed(3)
	for a := -1; a <= 16; a++ {
		for b := -1; b <= 16; b++ {
			if Step(Step(d, a), b) != Step(d, max(a, 0)+max(b, 0)) {
				t.Errorf("Step by %d, then by %d", a, b)
			}
		}
	}
}

// TestKE1KnownDigits: the least, the greatest, and some between, written out.
func TestKE1KnownDigits(t *testing.T) {
	known := []struct {
		m          api.Digest
		begin, end []int
	}{
		{filled(0), []int{0, 0, 0, 0}, []int{0, 0, 3, 12, 0}},
		{filled(255), []int{15, 15, 15, 15}, []int{15, 15, 0, 0, 0}},
		{api.Digest{1}, []int{0, 1, 0, 0}, []int{0, 0, 3, 11, 15}},
		{api.Digest{18}, []int{1, 2, 0, 0}, []int{0, 0, 3, 11, 13}},
		{api.Digest{31: 0xa7}, []int{0, 0, 0, 0}, []int{10, 7, 3, 10, 15}},
		{filled(15), []int{0, 15, 0, 15}, []int{0, 15, 1, 14, 0}},
		{filled(240), []int{15, 0, 15, 0}, []int{15, 0, 1, 14, 0}},
		{counted(), []int{0, 0, 0, 1, 0, 2}, []int{1, 14, 1, 15, 2, 12, 0}},
	}
	for _, k := range known {
		got := Digits(k.m)
		if len(got) != 67 {
			t.Errorf("Digits(%x): %d of them", k.m, len(got))
			continue
		}
		if !slices.Equal(got[:len(k.begin)], k.begin) || !slices.Equal(got[67-len(k.end):], k.end) {
			t.Errorf("Digits(%x): got %v", k.m, got)
		}
	}
}

// TestKE1DigitsOfBytes: each byte there is, at each place, in the midst of others.
func TestKE1DigitsOfBytes(t *testing.T) {
	for _, others := range []byte{0, 0x37, 255} {
		for at := range 32 {
			for b := range 256 {
				m := filled(others)
				m[at] = byte(b)
				holdsDigits(t, m)
			}
		}
	}
	for n := range 1000 {
		holdsDigits(t, mixed(n))
	}
}

// TestKE1EveryLack: each sum that the 64 can lack, from 0 to 960.
func TestKE1EveryLack(t *testing.T) {
	for lack := range 961 {
		m := filled(255)
		for left, i := lack, 0; left > 0; i++ {
			less := min(left, 15)
			m[i/2] -= byte(less << (4 * (1 - i%2)))
			left -= less
		}
		holdsDigits(t, m)
		if d := Digits(m); 256*d[64]+16*d[65]+d[66] != lack {
			t.Errorf("lack of %d: got %v", lack, d[64:])
		}
	}
}

// TestKE1NoDigitsAboveOthers: of two digests each has a smaller digit than the other somewhere, so a signature of one can't be stepped on to one of the other.
func TestKE1NoDigitsAboveOthers(t *testing.T) {
	all := kinds()
	for n := range 60 {
		all = append(all, mixed(n+2))
	}
	for _, m := range all {
		for _, other := range all {
			if m == other {
				continue
			}
			a, b := Digits(m), Digits(other)
			below := false
			for place := range a {
				below = below || a[place] < b[place]
			}
			if !below {
				t.Errorf("no digit of %x is below that of %x", m, other)
			}
		}
	}
}

// TestKE2KnownPublics: worked out apart.
func TestKE2KnownPublics(t *testing.T) {
	known := []struct {
		seed   api.Digest
		public string
	}{
		{filled(0), "c3dc45150a3dc469d61509f9e7927de35d13a381b3833f5cf5fe5b8d67942889"},
		{filled(255), "50e09b961ce1c93ec5cc21f25233657f5c0bae036ca4c0a67d7ce3c023e14375"},
		{api.Digest{1}, "0d4e5248442f4a83741cbc5c64c629181ed61bfac7fd0a12a38a992c4fc2decf"},
		{counted(), "568d6a194a7ff606a2ee2ecaf422e960b630d909b8c56255e2b85821fd3dfae3"},
	}
	for _, k := range known {
		if got := Public(k.seed); got != unhex(t, k.public) {
			t.Errorf("Public(%x): got %x, want %s", k.seed, got, k.public)
		}
	}
}

// TestKE2KnownSignatures: worked out apart, told by their digests.
func TestKE2KnownSignatures(t *testing.T) {
	known := []struct {
		seed, m api.Digest
		digest  string
	}{
		{filled(0), filled(0), "ecbacbfc7bc57cb4fda1c4bab5d3e2ad1b124d61049f10352b1e3a9bd8787f13"},
		{filled(0), filled(255), "22bc540b011f3a6bd3a2043999edcd2bcf7573a393be5b50b5ee558a95403bb0"},
		{filled(255), api.Digest{1}, "0e640f6d903e3e1445236b42610aa41ce2d5cc26b0850b32faa3e1e1b87405bd"},
		{api.Digest{1}, filled(0), "a40a2b353bf1aa73c8f61e9f2103be041bdb9d73495257026838f7a41028edef"},
		{counted(), counted(), "32043674055d1191cab40afc43ec197c7c27a0007c5ca80101c218b4a7c4a6f2"},
	}
	for _, k := range known {
		sig := Sign(k.seed, k.m)
		if got := sha256.Sum256(sig); len(sig) != 2144 || got != unhex(t, k.digest) {
			t.Errorf("Sign(%x, %x): got %d bytes of digest %x, want %s", k.seed, k.m, len(sig), got, k.digest)
		}
	}
}

// TestKE2KnownRecovers: worked out apart, of bytes that nobody signed.
func TestKE2KnownRecovers(t *testing.T) {
	some := make([]byte, 2144)
	for i := range some {
		some[i] = byte(i % 251)
	}
	known := []struct {
		m      api.Digest
		sig    []byte
		public string
	}{
		{filled(0), make([]byte, 2144), "a79a5a810ee7d786da9353c9825a6e661c633a8be3834d6e3a95c632625162d4"},
		{filled(255), make([]byte, 2144), "ef304cd3b59734ec623b7b4886b85e14aa8e47faea7fa80b017858ec85b2366c"},
		{counted(), some, "ab0167ff27c47b04befb063f3aadb5a89b00fd751829736b594f9732528a427e"},
	}
	for _, k := range known {
		if got, err := Recover(k.m, k.sig); err != nil || got != unhex(t, k.public) {
			t.Errorf("Recover(%x): got %x, %v, want %s", k.m, got, err, k.public)
		}
	}
}

// TestKE2Places: each place, 0 and 66 among them, has its own secret, stepped by its digit.
func TestKE2Places(t *testing.T) {
	for _, seed := range []api.Digest{{}, filled(255), mixed(9)} {
		for _, m := range kinds() {
			sig := Sign(seed, m)
			for place, digit := range otherDigits(m) {
				got := sig[32*place : 32*place+32]
				if want := otherStep(otherSecret(seed, place), digit); !bytes.Equal(got, want[:]) {
					t.Errorf("Sign(%x, %x), place %d: got %x, want %x", seed, m, place, got, want)
				}
			}
		}
	}
}

// TestKE2SecretsAreTold: where the digit is 0 the secret itself is told: at all 64 of bytes 0, at the last three of bytes 255.
func TestKE2SecretsAreTold(t *testing.T) {
	seed := mixed(4)
	low, high := Sign(seed, filled(0)), Sign(seed, filled(255))
	for place := range 67 {
		secret := otherSecret(seed, place)
		end := otherStep(secret, 15)
		at := 32 * place
		if place < 64 && !(bytes.Equal(low[at:at+32], secret[:]) && bytes.Equal(high[at:at+32], end[:])) {
			t.Errorf("place %d: not the secret, or not its end", place)
		}
		if place >= 64 && !bytes.Equal(high[at:at+32], secret[:]) {
			t.Errorf("place %d: not the secret", place)
		}
	}
}

// TestKE2SignedIsRecovered: seeds and digests of all kinds, a seed for itself too.
func TestKE2SignedIsRecovered(t *testing.T) {
	for _, seed := range kinds() {
		for _, m := range kinds() {
			holdsSigned(t, seed, m)
		}
	}
	for n := range 50 {
		holdsSigned(t, mixed(n), mixed(n+1000))
	}
}

// TestKE2AnotherDigest: a signature is for one digest: with any one bit of it changed another key is told, without an error.
func TestKE2AnotherDigest(t *testing.T) {
	for _, m := range []api.Digest{{}, filled(255), mixed(5)} {
		seed := mixed(6)
		sig, public := Sign(seed, m), Public(seed)
		for bit := range 256 {
			other := m
			other[bit/8] ^= 1 << (bit % 8)
			got, err := Recover(other, sig)
			if err != nil || got == public || got != otherRecover(other, sig) {
				t.Errorf("%x, bit %d: got %x, %v", m, bit, got, err)
			}
		}
	}
}

// TestKE2AnotherSignature: a bit changed at any place, or two places changed for each other, tell another key.
func TestKE2AnotherSignature(t *testing.T) {
	seed, m := mixed(8), mixed(9)
	public := Public(seed)
	holds := func(what string, place int, sig []byte) {
		got, err := Recover(m, sig)
		if err != nil || got == public || got != otherRecover(m, sig) {
			t.Errorf("%s, place %d: got %x, %v", what, place, got, err)
		}
	}
	for place := range 67 {
		for _, at := range []int{32 * place, 32*place + 31} {
			sig := Sign(seed, m)
			sig[at] ^= 128
			holds("a bit", place, sig)
		}
		sig := Sign(seed, m)
		next := (place + 1) % 67
		turned := slices.Concat(sig[32*next:32*next+32], sig[32*place:32*place+32])
		copy(sig[32*place:], turned[:32])
		copy(sig[32*next:], turned[32:])
		holds("two places", place, sig)
	}
}

// TestKE2AnotherSeed: each bit of a seed tells.
func TestKE2AnotherSeed(t *testing.T) {
	seed, m := mixed(1), mixed(2)
	seen := map[api.Digest]int{Public(seed): -1}
	for bit := range 256 {
		other := seed
		other[bit/8] ^= 1 << (bit % 8)
		public := Public(other)
		if before, ok := seen[public]; ok {
			t.Errorf("the seeds with bits %d and %d changed have one key", before, bit)
		}
		seen[public] = bit
	}
	if got, err := Recover(m, Sign(mixed(3), m)); err != nil || got == Public(seed) {
		t.Errorf("another seed's signature: got %x, %v", got, err)
	}
}

// TestKE2WrongLengths: every count of bytes up to more than one place above 2144, but that one, and twice as many.
func TestKE2WrongLengths(t *testing.T) {
	seed, m := mixed(1), mixed(2)
	long := bytes.Repeat(Sign(seed, m), 2)
	check := func(sig []byte) {
		got, err := Recover(m, sig)
		if got != (api.Digest{}) || plain.Told(err) != api.ErrLength {
			t.Errorf("%d bytes: got %x, %v", len(sig), got, err)
		}
	}
	check(nil)
	check([]byte{})
	check(long)
	for n := range 2144 + 40 {
		if n != 2144 {
			check(long[:n:n])
			check(long[1 : n+1])
		}
	}
}

// TestP2FreshMemory: a signature that is handed in stays as it is, and answers share nothing.
func TestP2FreshMemory(t *testing.T) {
	seed, m := mixed(1), mixed(2)
	sig := Sign(seed, m)
	before := bytes.Clone(sig)
	first, err := Recover(m, sig)
	if err != nil || !bytes.Equal(sig, before) {
		t.Errorf("what was handed in is written into, or %v", err)
	}
	clear(sig)
	if again := Sign(seed, m); !bytes.Equal(again, before) {
		t.Error("Sign tells something else behind a change of its first answer")
	}
	if second, err := Recover(m, before); err != nil || second != first {
		t.Errorf("Recover tells %x, %v behind a change of what was handed in first", second, err)
	}
	digits := Digits(m)
	clear(digits)
	holdsDigits(t, m)
	if slices.Max(digits) != 0 {
		t.Error("Digits writes into its first answer")
	}
}

// TestP4BehindTheLength: what lies behind a signature's length is neither read nor written.
func TestP4BehindTheLength(t *testing.T) {
	seed, m := mixed(1), mixed(2)
	whole := append(Sign(seed, m), bytes.Repeat([]byte{9}, 100)...)
	before := bytes.Clone(whole)
	if got, err := Recover(m, whole[:2144]); err != nil || got != Public(seed) {
		t.Errorf("2144 bytes of more: got %x, %v", got, err)
	}
	if got, err := Recover(m, whole[:2143]); got != (api.Digest{}) || plain.Told(err) != api.ErrLength {
		t.Errorf("2143 bytes of more: got %x, %v", got, err)
	}
	if !bytes.Equal(whole, before) {
		t.Error("what was handed in is written into")
	}
}

func FuzzSigned(f *testing.F) {
	f.Add([]byte(nil), []byte(nil), []byte(nil))
	f.Add([]byte("seed"), bytes.Repeat([]byte{255}, 32), make([]byte, 2144))
	f.Add(bytes.Repeat([]byte{255}, 32), []byte{18}, make([]byte, 2143))
	f.Fuzz(func(t *testing.T, seedBytes, text, sig []byte) {
		var seed, m api.Digest
		copy(seed[:], seedBytes)
		copy(m[:], text)
		holdsDigits(t, m)
		holdsSigned(t, seed, m)
		got, err := Recover(m, sig)
		if len(sig) == 2144 {
			if err != nil || got != otherRecover(m, sig) {
				t.Errorf("Recover(%x, %x): got %x, %v", m, sig, got, err)
			}
			return
		}
		if got != (api.Digest{}) || plain.Told(err) != api.ErrLength {
			t.Errorf("%d bytes: got %x, %v", len(sig), got, err)
		}
	})
}
