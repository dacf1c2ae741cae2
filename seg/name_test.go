package seg

import (
	"fmt"
	"math"
	"math/rand/v2"
	"slices"
	"strings"
	"testing"

	"outrider/api"
)

func checkName(t *testing.T, first int64, want string) {
	t.Helper()
	if name, ok := Name(first); name != want || !ok {
		t.Errorf("P6.1: Name(%d): %q, %v; want %q", first, name, ok, want)
	}
	if got, ok := Parse(want); got != first || !ok {
		t.Errorf("P6.1: Parse(%q): %d, %v; want %d", want, got, ok, first)
	}
}

func checkNoName(t *testing.T, name string) {
	t.Helper()
	if first, ok := Parse(name); first != 0 || ok {
		t.Errorf("P6.1: Parse(%q): %d, %v; want 0, false", name, first, ok)
	}
}

// offsets are small ones, those around every power of two, and some of every width.
func offsets() []int64 {
	var all []int64
	for first := range int64(5000) {
		all = append(all, first)
	}
	mixed := rand.New(rand.NewPCG(6, 1))
	for bit := range 44 {
		p := int64(1) << bit
		all = append(all, p-1, p, p+1, api.MaxOff-p, api.MaxOff-p+1)
		for range 20 {
			all = append(all, mixed.Int64N(2*p))
		}
	}
	return all
}

func TestExampleOfChapter6(t *testing.T) {
	checkName(t, 18, "w-000000000012")
}

func TestKnownNames(t *testing.T) {
	for first, name := range map[int64]string{
		0: "w-000000000000", 1: "w-000000000001", 9: "w-000000000009", 10: "w-00000000000a", 15: "w-00000000000f",
		16: "w-000000000010", 0xb0000000012: "w-0b0000000012", 255: "w-0000000000ff", 0xabcdef: "w-000000abcdef", 0x123456789ab: "w-0123456789ab",
		0xfedcba98765: "w-0fedcba98765", 1 << 32: "w-000100000000", 1 << 43: "w-080000000000",
		api.MaxOff - 1: "w-0ffffffffffe", api.MaxOff: "w-0fffffffffff",
	} {
		checkName(t, first, name)
	}
}

func TestNamesOfAllOffsets(t *testing.T) {
	for _, first := range offsets() {
		checkName(t, first, fmt.Sprintf("w-%012x", first))
	}
}

func TestNameRejectsWhatIsNoOffset(t *testing.T) {
	outside := []int64{
		-1, -2, -16, -18, -api.MaxOff, math.MinInt64, math.MinInt64 + 1, math.MaxInt64, math.MaxInt64 - 1,
		api.MaxOff + 1, api.MaxOff + 2, 1 << 45, 1<<48 - 1, 1 << 48, 1<<48 + 18, 1 << 52, 1<<62 + 18,
	}
	for _, first := range outside {
		if name, ok := Name(first); name != "" || ok {
			t.Errorf("P6.1, R2: Name(%d): %q, %v; want nothing", first, name, ok)
		}
	}
}

func TestParseRejectsOtherTexts(t *testing.T) {
	for _, name := range []string{
		"", "w", "-", "w-", "snap", "w-12", "w-00000000012", "w-0000000000012", "w-0000000000000000012", "000000000012",
		"-000000000012", "w000000000012", "0000000000000012", "W-000000000012", "v-000000000012", "w_000000000012",
		"w--00000000012", "w-+00000000012", "w- 00000000012", "w-00000000012 ", " w-000000000012", "w-000000000012 ",
		"w-000000000012\n", "w-000000000012\x00", "w-w-000000000012", "ww-000000000012", "w-w-0000000012", "-w000000000012",
		"w-0x0000000012", "w-0X0000000012", "w-0o0000000012", "w-0000_0000_12", "w-00000000_012",
		"w-00000000001g", "w-g00000000012", "w-00000000000A", "w-0000000000fF", "w-00000000000.", "w-0000000000.2",
		"w-000000000\xc3\xa91", "w-00000000001\xff", "w-\uff10\uff10\uff10\uff10", "\xff-000000000012",
		"w-100000000000", "w-0fffffffffff0", "w-00fffffffffff", "w-ffffffffffff", "w-800000000000", "w-fffffffffffff",
		"w-7fffffffffffffff", "w-8000000000000000", "w-ffffffffffffffff", "w-10000000000000012", "w--7fffffffffff",
		"w-1000000000000000000000000012", "w-" + strings.Repeat("0", 100000) + "12", "w-" + strings.Repeat("f", 100000),
		strings.Repeat("w-", 50000) + "000000000012",
	} {
		checkNoName(t, name)
	}
}

// Every text that differs in one byte from a name is the name of another offset or none.
func TestParseOfTurnedNames(t *testing.T) {
	for _, name := range []string{"w-000000000000", "w-000000000012", "w-0fedcba98765", "w-0fffffffffff"} {
		for at := range len(name) {
			for c := range 256 {
				turned := []byte(name)
				turned[at] = byte(c)
				isDigit := at > 2 && strings.Contains("0123456789abcdef", string(rune(c)))
				if text := string(turned); isDigit {
					var want int64
					fmt.Sscanf(text[2:], "%x", &want)
					checkName(t, want, text)
				} else if text != name {
					checkNoName(t, text)
				}
			}
			checkNoName(t, name[:at])
			checkNoName(t, name[:at]+name[at+1:])
			checkNoName(t, name[:at]+"0"+name[at:])
		}
		checkNoName(t, name+"0")
	}
}

func checkPick(t *testing.T, names []string, want ...int64) {
	t.Helper()
	if got := Pick(names); !slices.Equal(got, want) {
		t.Errorf("P6.1: Pick(%.20q): %v; want %v", names, got, want)
	}
}

func TestPick(t *testing.T) {
	checkPick(t, nil)
	checkPick(t, []string{})
	checkPick(t, []string{"", "snap", "w-", "w-12", "w-00000000000A", "w-100000000000"})
	checkPick(t, []string{"w-000000000000"}, 0)
	checkPick(t, []string{"w-0fffffffffff"}, api.MaxOff)
	checkPick(t, []string{"w-000000000012", "snap", "w-000000000003", "w-000000000012", "", "w-000000000000"}, 0, 3, 18)
	checkPick(t, []string{"w-000000000009", "w-00000000000a", "w-000000000010", "w-00000000000f"}, 9, 10, 15, 16)
	checkPick(t, []string{"w-000000000001", "w-000000000001", "w-000000000001"}, 1)
	checkPick(t, []string{"x-000000000000", "w-000000000005", "w-0000000000005"}, 5)
	checkPick(t, []string{"w-0fffffffffff", "w-000000000000", "w-100000000000", "w-080000000000"}, 0, 1<<43, api.MaxOff)
}

func TestPickOfManyNames(t *testing.T) {
	mixed := rand.New(rand.NewPCG(6, 2))
	for range 300 {
		distinct := map[int64]bool{}
		var names []string
		for range mixed.IntN(60) {
			first := mixed.Int64N(1 << (1 + mixed.IntN(44)))
			name := fmt.Sprintf("w-%012x", first)
			switch mixed.IntN(4) {
			case 0:
				name = name[:mixed.IntN(len(name))]
			case 1:
				names = append(names, name)
				fallthrough
			default:
				distinct[first] = true
			}
			names = append(names, name)
		}
		mixed.Shuffle(len(names), func(i, j int) { names[i], names[j] = names[j], names[i] })
		var want []int64
		for first := range distinct {
			want = append(want, first)
		}
		slices.Sort(want)
		checkPick(t, names, want...)
	}
}

// R4: Pick does not change what it is given, and returns new memory.
func TestPickSharesNoMemory(t *testing.T) {
	whole := []string{"w-000000000012", "snap", "w-000000000003", "w-000000000001", "spare"}
	before := slices.Clone(whole)
	first := Pick(whole[:3])
	if !slices.Equal(whole, before) {
		t.Errorf("R4: Pick turned its argument to %q", whole)
	}
	second := Pick(whole[:3])
	clear(second[:cap(second)])
	if !slices.Equal(first, []int64{3, 18}) {
		t.Errorf("R4: two results of Pick share memory: %v", first)
	}
}
