package sha_test

import (
	"bytes"
	"strings"
	"testing"

	"stemma/api"
	"stemma/sha"
)

// sample tells n bytes that repeat only after 256 of them, so that no block is like its neighbour.
func sample(n int) []byte {
	b := make([]byte, n)
	for i := range b {
		b[i] = byte(7*i + 3)
	}
	return b
}

// sums are SHA-256 of sample(length), worked out by another program.
var sums = []struct {
	length int
	hex    string
}{
	{0, "e3b0c44298fc1c149afbf4c8996fb92427ae41e4649b934ca495991b7852b855"},
	{1, "084fed08b978af4d7d196a7446a86b58009e636b611db16211b65a9aadff29c5"},
	{2, "323b730f87b4e7cc0948351a1c11b757b3026cda6784282576757bca21f12483"},
	{54, "160bbf14b458c877b7049e7cb5771dd653930f97d20bdd8ee795c16062906233"},
	{55, "e7313d333c272e639f790978283f9eb392e843d0f29b7016828bb1daa4aac70b"},
	{56, "4324d65f3c103567f5589c710bc08f8523f929a9272e3af36fc968e52abc6c27"},
	{57, "35df609437dcfea3279283ab79fd554e2bf78f8f7ae2de532d8ee300b09e8f73"},
	{62, "5b50d7a374c35bf46f501a178cceb2cfe649cd8f96c4a21d57377fcbb0eec4ab"},
	{63, "81c80242132f230c3bd41b3e63bbcff16107339549214a99614ff26664625055"},
	{64, "39e3d7b6b5d075d37d053ad89b24b41bef4f3c29760c84447cab3f3be1882241"},
	{65, "aacca6ff74fdbb296d165a45cecfa04e5127bc008770fbbdd48006f2d2fae95e"},
	{111, "67d9492e628fd376e0b2efec8ca2b99b123e202cf620deb270728df979b2f73e"},
	{118, "2c49b89c5aaaaaa69ae70251cc0803f14afaf1a2caa461fa6b083750bc07ce88"},
	{119, "9ce7368e4daf32341631b492e80359dc9f594b48453cd0dd5bf0b19279cc177e"},
	{120, "7836b787757e95e58b3ca5aec90b1b004e8deba1e50e9675af9cabf1a13a04b5"},
	{121, "1189a98a00c71bc1848ea8bdc9700b442bee0be7c3f45172303f1ab0b6f1617e"},
	{127, "a8d23e75d936f303d248888d9b165ee543f4cbafcad3c9dd2a79bd84faa11d07"},
	{128, "d2742f1f4ac6bb7ca2b239ee18402ba8b3f9f8e652d2a72973c2b9ba11c08cf6"},
	{129, "307f8fc2c1622b92762e818d39a185d4d667ad49a4b07ceae1f4afa008a93ec4"},
	{183, "80e7b84a99c797730865825b4614ead40b157674e54de7f6b07361f10317b866"},
	{184, "9104901c5fb45016420078acb248323481f2389bc96f790fe692f5a81ca358fe"},
	{191, "52be17f8f5d0b166f3b1917d2b6bb862083001967fd0aa39d2da9947eeba437d"},
	{192, "ec6732214091fa8455ee2251fb756475b04ec62610fbceaa64218a11faf571cd"},
	{193, "c2e8235fc1c184c4f889cc8e481540dd11356b65b7c3bf4a0443f6be2851dcd5"},
	{247, "47446187d9c5d3961b50b31e131abd3b3af031de4bd57283c6d09658f9fa8b15"},
	{248, "8d6c06ec502d129bf41b17a6de7287da1ebb1379387623ac8ec21b3ea25c6df8"},
	{255, "3c8af6e36699077166f180b277f93992e354c66a63a3541ef18d61524eac85e9"},
	{256, "d9c76fa34978cb9620dab8c3f46bbe075fddc145eb282b39009141f98d0cfe82"},
	{257, "b65c390e4482123ae81c3462cd2ce5bac55cd9dfde2fcf9295c7d320ee453fc5"},
	{1000, "1e9bc38cbf860b9ec31918b065f9b52476c549a782e0e7990bed8ce3868d2371"},
	{65536, "510b126e1d4ced49107fe4ab03ee54cb1c8e4caf6064e1dd29c48d4a3e74c38b"},
}

func expectHex(t *testing.T, what string, got api.Hash, want string) {
	t.Helper()
	if hex := sha.Hex(got); hex != want {
		t.Errorf("%s: %s, expected %s", what, hex, want)
	}
}

// P1.1
func TestSumOfKnownTexts(t *testing.T) {
	for _, c := range []struct{ text, hex string }{
		{"", "e3b0c44298fc1c149afbf4c8996fb92427ae41e4649b934ca495991b7852b855"},
		{"abc", "ba7816bf8f01cfea414140de5dae2223b00361a396177a9cb410ff61f20015ad"},
		{"abcdbcdecdefdefgefghfghighijhijkijkljklmklmnlmnomnopnopq", "248d6a61d20638b8e5c026930c3e6039a33ce45964ff2167f6ecedd419db06c1"},
		{"abcdefghbcdefghicdefghijdefghijkefghijklfghijklmghijklmnhijklmnoijklmnopjklmnopqklmnopqrlmnopqrsmnopqrstnopqrstu", "cf5b16a778af8380036ce59e7b0492370b249b11e8f07a51afac45037afee9d1"},
		{strings.Repeat("a", 1000000), "cdc76e5c9914fb9281a1c7e284d73e67f1809a48a497200e046d39ccc7112cd0"},
	} {
		expectHex(t, "a text", sha.Sum([]byte(c.text)), c.hex)
	}
	if sha.Sum(nil) != sha.Sum([]byte{}) {
		t.Error("nil and no bytes are the same")
	}
}

// P1.1
func TestSumAboutTheEndsOfBlocks(t *testing.T) {
	for _, c := range sums {
		if hex := sha.Hex(sha.Sum(sample(c.length))); hex != c.hex {
			t.Errorf("%d bytes: %s, expected %s", c.length, hex, c.hex)
		}
	}
}

// P1.1: the sum of the sums of all lengths up to 1024, worked out by another program.
func TestSumOfEveryLength(t *testing.T) {
	all := sha.New()
	for n := range 1025 {
		one := sha.Sum(sample(n))
		all.Write(one[:])
	}
	expectHex(t, "all lengths", all.Sum(), "66b93985351e0d35eb39e3c4698e513dae169491196dde1bcca4f2d58b5c84e7")
}

// Rules 3 and 4
func TestBytesAreNeitherChangedNorKept(t *testing.T) {
	given := sample(200)
	first := sha.Sum(given)
	h := sha.New()
	h.Write(given)
	if !bytes.Equal(given, sample(200)) {
		t.Error("the argument was changed")
	}
	clear(given)
	if h.Sum() != first {
		t.Error("the argument was kept")
	}
	if sha.Sum(sample(200)) != first {
		t.Error("the same bytes have another sum")
	}
}

// P1.2
func TestNewHasherHasNothing(t *testing.T) {
	h := sha.New()
	if h == nil || h.Len() != 0 || h.Sum() != sha.Sum(nil) {
		t.Error("something was written to a new hasher")
	}
	h.Write(nil)
	h.Write([]byte{})
	if h.Len() != 0 || h.Sum() != sha.Sum(nil) {
		t.Error("empty pieces wrote something")
	}
}

// P1.2, P1.5
func TestTwoPiecesHaveTheSumOfTheWhole(t *testing.T) {
	for _, n := range []int{0, 1, 55, 56, 63, 64, 65, 119, 120, 127, 128, 129, 200} {
		whole := sample(n)
		want := sha.Sum(whole)
		for cut := range n + 1 {
			h := sha.New()
			h.Write(whole[:cut])
			h.Write(whole[cut:])
			if h.Sum() != want || h.Len() != n {
				t.Errorf("%d bytes cut at %d: another sum, or the length %d", n, cut, h.Len())
			}
		}
	}
}

// P1.2, P1.5
func TestManyPiecesHaveTheSumOfTheWhole(t *testing.T) {
	whole := sample(1000)
	want := sha.Sum(whole)
	for size := 1; size <= 200; size++ {
		h := sha.New()
		for at := 0; at < len(whole); at += size {
			h.Write(whole[at:min(at+size, len(whole))])
			h.Write(nil)
		}
		if h.Sum() != want || h.Len() != len(whole) {
			t.Errorf("pieces of %d: another sum, or the length %d", size, h.Len())
		}
	}
}

// P1.2, P1.5
func TestPiecesOfUnlikeLengths(t *testing.T) {
	whole := sample(5000)
	h := sha.New()
	at := 0
	for size := 0; at < len(whole); size = (size*5 + 3) % 131 {
		piece := whole[at:min(at+size, len(whole))]
		h.Write(piece)
		at += len(piece)
		if h.Len() != at || h.Sum() != sha.Sum(whole[:at]) {
			t.Fatalf("%d bytes: another sum, or the length %d", at, h.Len())
		}
	}
}

// P1.2
func TestSumDoesNotDisturbWriting(t *testing.T) {
	h := sha.New()
	for _, c := range sums {
		h.Write(sample(c.length)[h.Len():])
		expectHex(t, "the first time", h.Sum(), c.hex)
		expectHex(t, "the second time", h.Sum(), c.hex)
		if h.Len() != c.length {
			t.Errorf("length %d, expected %d", h.Len(), c.length)
		}
	}
}

// P1.2: how many bits there were takes more than 32 of them.
func TestSumOfManyBytes(t *testing.T) {
	if testing.Short() {
		t.Skip("takes some seconds")
	}
	const piece, pieces = 1 << 16, 1 << 13
	noughts := make([]byte, piece)
	h := sha.New()
	for range pieces {
		h.Write(noughts)
	}
	expectHex(t, "2^29 noughts", h.Sum(), "9acca8e8c22201155389f65abbf6bc9723edc7384ead80503839f49dcc56d767")
	if h.Len() != piece*pieces {
		t.Errorf("length %d", h.Len())
	}
}

// Rule 4
func TestHashersHaveNothingInCommon(t *testing.T) {
	a, b := sha.New(), sha.New()
	a.Write([]byte("a"))
	b.Write([]byte("xyz"))
	a.Write([]byte("bc"))
	if a.Sum() != sha.Sum([]byte("abc")) || b.Sum() != sha.Sum([]byte("xyz")) {
		t.Error("one hasher has what was written to another one")
	}
}

// Rule 1
func TestNilHasher(t *testing.T) {
	var h *sha.Hasher
	h.Write([]byte("abc"))
	h.Write(nil)
	if h.Len() != 0 || h.Sum() != (api.Hash{}) {
		t.Error("a nil hasher answers zero values")
	}
}

// P1.4
func TestLess(t *testing.T) {
	for _, c := range []struct {
		a, b api.Hash
		less bool
	}{
		{api.Hash{}, api.Hash{}, false},
		{api.Hash{1}, api.Hash{1}, false},
		{api.Hash{1}, api.Hash{2}, true},
		{api.Hash{2}, api.Hash{1}, false},
		{api.Hash{1, 9}, api.Hash{2, 0}, true},
		{api.Hash{2, 0}, api.Hash{1, 9}, false},
		{api.Hash{0x7f}, api.Hash{0x80}, true},
		{api.Hash{0x80}, api.Hash{0x7f}, false},
		{api.Hash{31: 0}, api.Hash{31: 1}, true},
		{api.Hash{31: 255}, api.Hash{31: 254}, false},
		{api.Hash{30: 1}, api.Hash{31: 255}, false},
	} {
		if sha.Less(c.a, c.b) != c.less {
			t.Errorf("Less(%x, %x), expected %v", c.a, c.b, c.less)
		}
	}
}

// P1.4: at every byte, whatever stands behind it.
func TestLessGoesByTheFirstByteThatDiffers(t *testing.T) {
	for i := range 32 {
		low, high := sha.Sum([]byte("ahead")), sha.Sum([]byte("ahead"))
		low[i], high[i] = 100, 200
		for j := i + 1; j < 32; j++ {
			low[j], high[j] = 255, 0
		}
		if !sha.Less(low, high) || sha.Less(high, low) || sha.Less(low, low) {
			t.Errorf("byte %d", i)
		}
	}
}

// P1.5
func TestLessIsTheOrderOfHex(t *testing.T) {
	var all []api.Hash
	for n := range 60 {
		h := sha.Sum(sample(n))
		near := h
		near[n%32] ^= byte(1 << (n % 8))
		all = append(all, h, near)
	}
	for _, a := range all {
		for _, b := range all {
			if sha.Less(a, b) != (sha.Hex(a) < sha.Hex(b)) {
				t.Errorf("%s and %s", sha.Hex(a), sha.Hex(b))
			}
			if (sha.Less(a, b) != sha.Less(b, a)) != (sha.Hex(a) != sha.Hex(b)) {
				t.Errorf("one of two that are unlike: %s and %s", sha.Hex(a), sha.Hex(b))
			}
		}
	}
}
