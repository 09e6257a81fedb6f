package segment_test

import (
	"math"
	"strings"
	"testing"

	"stemma/segment"
)

// P18.1
func TestName(t *testing.T) {
	for n, want := range map[int]string{
		1:              "seg-000001",
		7:              "seg-000007",
		9:              "seg-000009",
		10:             "seg-000010",
		99:             "seg-000099",
		100:            "seg-000100",
		9999:           "seg-009999",
		10000:          "seg-010000",
		99999:          "seg-099999",
		100000:         "seg-100000",
		654321:         "seg-654321",
		999999:         "seg-999999",
		0:              "",
		-1:             "",
		-7:             "",
		-999999:        "",
		1000000:        "",
		1000007:        "",
		math.MaxInt:    "",
		math.MinInt:    "",
		math.MaxUint32: "",
		1 << 32:        "",
		1<<32 + 7:      "",
	} {
		if got := segment.Name(n); got != want {
			t.Errorf("Name(%d) = %q, want %q", n, got, want)
		}
	}
}

// P18.1
func TestNumber(t *testing.T) {
	for name, want := range map[string]int{
		"seg-000001": 1,
		"seg-000007": 7,
		"seg-000010": 10,
		"seg-010000": 10000,
		"seg-100000": 100000,
		"seg-123456": 123456,
		"seg-999999": 999999,
	} {
		if got := segment.Number(name); got != want {
			t.Errorf("Number(%q) = %d, want %d", name, got, want)
		}
	}
}

// P18.1: what is no Name is no number's.
func TestNumberOfNoName(t *testing.T) {
	for _, name := range []string{
		"", "0", "7", "s", "seg", "seg-", "-", "-000007",
		"seg-000000", "seg-0", "seg-7", "seg-07", "seg-00007", "seg-0000007", "seg-1000000", "seg-0999999", "seg-9999990",
		"seg-+00007", "seg--00007", "seg-+7", "seg--7", "seg-+000007", "seg--000007", "seg-000-07",
		"seg- 00007", "seg-00007 ", "seg-000007 ", " seg-000007", "seg-000007\n", "seg-000007\x00", "seg-\x0000007",
		"000007", "Seg-000007", "SEG-000007", "seg_000007", "seg000007", "segs000007", "xseg-000007", "seg-seg-000007", "sseg-000007", "eg-000007", "beg-000007",
		"seg-00000a", "seg-a00000", "seg-0x0007", "seg-0b0001", "seg-0o0007", "seg-00_007", "seg-0000.7", "seg-00007.", "seg-1e0005", "seg-00000:", "seg-00000/",
		"seg-٠٠٠٠٠٧", "seg-０００００７", "seg-00000\xb7",
		"seg-4294967303", "seg-18446744073709551623", "seg-9223372036854775808", "seg-" + strings.Repeat("0", 4096) + "7", "seg-" + strings.Repeat("9", 4096),
	} {
		if got := segment.Number(name); got != 0 {
			t.Errorf("Number(%q) = %d, want 0", name, got)
		}
	}
}

// P18.1: Number turns round each Name that there is, and no two have one.
func TestNumberOfAllNames(t *testing.T) {
	last := ""
	for n := 1; n <= 999999; n++ {
		name := segment.Name(n)
		if len(name) != 10 || name <= last || segment.Number(name) != n {
			t.Fatalf("Name(%d) = %q, behind %q, and Number tells %d", n, name, last, segment.Number(name))
		}
		last = name
	}
}

// plainNumber tells what Number is to answer, digit by digit.
func plainNumber(name string) int {
	if len(name) != 10 || name[:4] != "seg-" {
		return 0
	}
	n := 0
	for i := 4; i < 10; i++ {
		if name[i] < '0' || name[i] > '9' {
			return 0
		}
		n = 10*n + int(name[i]-'0')
	}
	return n
}

// P18.1: names with one byte changed, one put in, or one gone.
func TestNumberNearNames(t *testing.T) {
	for _, name := range []string{"seg-000001", "seg-000007", "seg-120000", "seg-999999"} {
		for i := range len(name) {
			near := []string{name[:i] + name[i+1:]}
			for b := range 256 {
				with := string([]byte{byte(b)})
				near = append(near, name[:i]+with+name[i+1:], name[:i]+with+name[i:], name+with)
			}
			for _, other := range near {
				if got, want := segment.Number(other), plainNumber(other); got != want {
					t.Errorf("Number(%q) = %d, want %d", other, got, want)
				}
			}
		}
	}
}
