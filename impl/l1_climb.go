package impl

import (
	"slices"
	"strconv"
	"strings"
)

const MaxSteps = 60
const MaxStride = 9
const MaxStrides = 5
const MaxClimbs = 1000000000000000

type Stairs struct {
	Steps   int
	Strides []int
	Broken  []int
}

// AreStairs reports whether s, whose numbers may be any, are stairs.
func AreStairs(s Stairs) bool {
	if s.Steps < 1 || s.Steps > MaxSteps {
		return false
	}
	if len(s.Strides) < 1 || len(s.Strides) > MaxStrides {
		return false
	}
	return increasesWithin(s.Strides, MaxStride) && increasesWithin(s.Broken, s.Steps-1)
}

// increasesWithin reports whether the numbers are strictly increasing and in 1..most.
func increasesWithin(numbers []int, most int) bool {
	last := 0
	for _, n := range numbers {
		if n <= last || n > most {
			return false
		}
		last = n
	}
	return true
}

// IsClimb reports whether a list of any numbers is a climb.
func IsClimb(s Stairs, climb []int) (bool, bool) {
	if !AreStairs(s) {
		return false, false
	}
	_, ok := walk(s, climb)
	return ok, true
}

// StepsOfClimb returns the steps on which one stands, the top with them, in their order.
func StepsOfClimb(s Stairs, climb []int) ([]int, bool) {
	if !AreStairs(s) {
		return nil, false
	}
	return walk(s, climb)
}

// walk returns the steps on which one stands, and false if the numbers are no climb.
func walk(s Stairs, climb []int) ([]int, bool) {
	broken := brokenSet(s)
	var steps []int
	at := 0
	for _, stride := range climb {
		// A number is added only once it is known as a stride, so that no sum overflows.
		if !slices.Contains(s.Strides, stride) || at+stride > s.Steps || broken[at+stride] {
			return nil, false
		}
		at += stride
		steps = append(steps, at)
	}
	if at != s.Steps {
		return nil, false
	}
	return steps, true
}

// CountClimbs returns how many climbs there are.
func CountClimbs(s Stairs) (int, bool) {
	on, ok := waysToRank(s)
	if !ok {
		return 0, false
	}
	return on[0], true
}

// waysOn returns for the ground and each step how many ways lead on from it to the top.
// Behind the top there are as many zeros as the longest stride may overshoot it, so that
// nobody who looks a stride ahead has to check for the top.
// The steps can be gone in fewer than 2^MaxSteps ways, so that no count overflows.
func waysOn(s Stairs) []int {
	on := make([]int, s.Steps+MaxStride+1)
	on[s.Steps] = 1
	broken := brokenSet(s)
	for at := s.Steps - 1; at >= 0; at-- {
		if broken[at] {
			continue
		}
		for _, stride := range s.Strides {
			on[at] += on[at+stride]
		}
	}
	return on
}

// waysTo returns for the ground and each step how many ways lead to it from the ground.
// Seen from the top, these are the ways on.
func waysTo(s Stairs) []int {
	to := waysOn(turned(s))[:s.Steps+1]
	slices.Reverse(to)
	return to
}

// waysToRank returns waysOn, and false if s are no stairs or have too many climbs to be told by ranks.
func waysToRank(s Stairs) ([]int, bool) {
	if !AreStairs(s) {
		return nil, false
	}
	on := waysOn(s)
	if on[0] > MaxClimbs {
		return nil, false
	}
	return on, true
}

// FirstClimb returns the first climb.
func FirstClimb(s Stairs) ([]int, bool) {
	if !AreStairs(s) {
		return nil, false
	}
	// Too many climbs for ranks are no hindrance here: the first one has the rank 0 at any rate.
	return climbAt(s, waysOn(s), 0)
}

// RankOfClimb returns how many climbs come before one.
func RankOfClimb(s Stairs, climb []int) (int, bool) {
	on, ok := waysToRank(s)
	if !ok {
		return 0, false
	}
	steps, ok := walk(s, climb)
	if !ok {
		return 0, false
	}
	rank := 0
	for i, stride := range climb {
		from := steps[i] - stride
		for _, lower := range s.Strides {
			if lower < stride {
				rank += on[from+lower]
			}
		}
	}
	return rank, true
}

// ClimbOfRank returns the climb before which just rank others come.
func ClimbOfRank(s Stairs, rank int) ([]int, bool) {
	on, ok := waysToRank(s)
	if !ok {
		return nil, false
	}
	return climbAt(s, on, rank)
}

// climbAt returns the climb with a rank, and false if there is none.
func climbAt(s Stairs, on []int, rank int) ([]int, bool) {
	if rank < 0 || rank >= on[0] {
		return nil, false
	}
	var climb []int
	for at := 0; at < s.Steps; {
		for _, stride := range s.Strides {
			if rank < on[at+stride] {
				climb = append(climb, stride)
				at += stride
				break
			}
			rank -= on[at+stride]
		}
	}
	return climb, true
}

// NextClimb returns the climb that comes next behind one.
func NextClimb(s Stairs, climb []int) ([]int, bool) {
	rank, ok := RankOfClimb(s, climb)
	if !ok {
		return nil, false
	}
	return ClimbOfRank(s, rank+1)
}

// CountByStrides returns how many climbs have just so many strides, at least 0.
func CountByStrides(s Stairs, many int) (int, bool) {
	if _, ok := waysToRank(s); !ok || many < 0 {
		return 0, false
	}
	if many > s.Steps {
		return 0, true
	}
	return waysByStrides(s)[many][0], true
}

// waysByStrides returns waysOn for each number of strides, 0 up to Steps, alone.
func waysByStrides(s Stairs) [][]int {
	by := make([][]int, s.Steps+1)
	for many := range by {
		by[many] = make([]int, s.Steps+MaxStride+1)
	}
	by[0][s.Steps] = 1
	broken := brokenSet(s)
	for many := 1; many <= s.Steps; many++ {
		for at := range s.Steps {
			if broken[at] {
				continue
			}
			for _, stride := range s.Strides {
				by[many][at] += by[many-1][at+stride]
			}
		}
	}
	return by
}

// FewestStrides returns the least number of strides of a climb.
func FewestStrides(s Stairs) (int, bool) {
	if !AreStairs(s) {
		return 0, false
	}
	for many, ways := range waysByStrides(s) {
		if ways[0] > 0 {
			return many, true
		}
	}
	return 0, false
}

// MostStrides returns the greatest number.
func MostStrides(s Stairs) (int, bool) {
	if !AreStairs(s) {
		return 0, false
	}
	for many, ways := range slices.Backward(waysByStrides(s)) {
		if ways[0] > 0 {
			return many, true
		}
	}
	return 0, false
}

// FirstFewest returns the first climb with FewestStrides.
func FirstFewest(s Stairs) ([]int, bool) {
	many, ok := FewestStrides(s)
	if !ok {
		return nil, false
	}
	by := waysByStrides(s)
	climb := make([]int, 0, many)
	at := 0
	for left := many - 1; left >= 0; left-- {
		for _, stride := range s.Strides {
			if by[left][at+stride] > 0 {
				climb = append(climb, stride)
				at += stride
				break
			}
		}
	}
	return climb, true
}

// ReachedSteps returns all steps on which one can come to stand from the ground, increasing.
func ReachedSteps(s Stairs) ([]int, bool) {
	if !AreStairs(s) {
		return nil, false
	}
	to := waysTo(s)
	var reached []int
	for step := 1; step <= s.Steps; step++ {
		if to[step] > 0 {
			reached = append(reached, step)
		}
	}
	return reached, true
}

// StuckSteps returns all of these from which nothing leads on to the top, increasing.
func StuckSteps(s Stairs) ([]int, bool) {
	reached, ok := ReachedSteps(s)
	if !ok {
		return nil, false
	}
	on := waysOn(s)
	var stuck []int
	for _, step := range reached {
		if on[step] == 0 {
			stuck = append(stuck, step)
		}
	}
	return stuck, true
}

// NeededSteps returns all steps on which one stands in each climb, increasing: the top at least.
func NeededSteps(s Stairs) ([]int, bool) {
	if !AreStairs(s) {
		return nil, false
	}
	through := waysThrough(s)
	all := through[s.Steps]
	if all == 0 {
		return nil, false
	}
	var needed []int
	for step := 1; step <= s.Steps; step++ {
		if through[step] == all {
			needed = append(needed, step)
		}
	}
	return needed, true
}

// waysThrough returns for the ground and each step in how many climbs one stands there.
// Each pair of a way to a step and a way on is a climb of its own, so that no product overflows.
func waysThrough(s Stairs) []int {
	through := waysTo(s)
	on := waysOn(s)
	for step := range through {
		through[step] *= on[step]
	}
	return through
}

// ClimbsThrough returns in how many climbs one stands on a step.
func ClimbsThrough(s Stairs, step int) (int, bool) {
	if _, ok := waysToRank(s); !ok || step < 1 || step > s.Steps {
		return 0, false
	}
	return waysThrough(s)[step], true
}

// BreakStep returns the stairs with a step broken that was not.
func BreakStep(s Stairs, step int) (Stairs, bool) {
	if !AreStairs(s) || step < 1 || step >= s.Steps {
		return Stairs{}, false
	}
	broken := brokenSet(s)
	if broken[step] {
		return Stairs{}, false
	}
	broken[step] = true
	return withBroken(s, broken), true
}

// MendStep returns the stairs with a broken step mended.
func MendStep(s Stairs, step int) (Stairs, bool) {
	if !AreStairs(s) {
		return Stairs{}, false
	}
	broken := brokenSet(s)
	if !broken[step] {
		return Stairs{}, false
	}
	delete(broken, step)
	return withBroken(s, broken), true
}

// TurnStairs returns the stairs with the broken steps told from the top:
// the step k from below becomes the step Steps less k.
func TurnStairs(s Stairs) (Stairs, bool) {
	if !AreStairs(s) {
		return Stairs{}, false
	}
	return turned(s), true
}

func turned(s Stairs) Stairs {
	broken := map[int]bool{}
	for _, step := range s.Broken {
		broken[s.Steps-step] = true
	}
	return withBroken(s, broken)
}

func brokenSet(s Stairs) map[int]bool {
	broken := map[int]bool{}
	for _, step := range s.Broken {
		broken[step] = true
	}
	return broken
}

// withBroken returns the stairs with other broken steps, in new memory. It empties the set.
func withBroken(s Stairs, broken map[int]bool) Stairs {
	return Stairs{Steps: s.Steps, Strides: append([]int(nil), s.Strides...), Broken: drained(broken)}
}

// drained empties a set of steps and returns them increasing.
// The least one is taken out each time, so that the order in which a map is ranged over never shows.
func drained(set map[int]bool) []int {
	var steps []int
next:
	least := MaxSteps + 1
	for step := range set {
		least = min(least, step)
	}
	if least <= MaxSteps {
		delete(set, least)
		steps = append(steps, least)
		goto next
	}
	return steps
}

// WorstToBreak returns the step below the top in most climbs, the first one of several, and in how many.
func WorstToBreak(s Stairs) (int, int, bool) {
	on, ok := waysToRank(s)
	if !ok || on[0] == 0 || s.Steps == 1 {
		return 0, 0, false
	}
	through := waysThrough(s)
	worst := 1
	for step := 2; step < s.Steps; step++ {
		if through[step] > through[worst] {
			worst = step
		}
	}
	return worst, through[worst], true
}

// StairsText returns Steps, s, the Strides with , between them, and, if some are broken, x and the Broken steps with , between them.
func StairsText(s Stairs) (string, bool) {
	if !AreStairs(s) {
		return "", false
	}
	text := strconv.Itoa(s.Steps) + "s" + numbersText(s.Strides, ",")
	if len(s.Broken) > 0 {
		text += "x" + numbersText(s.Broken, ",")
	}
	return text, true
}

// ParseStairs returns the stairs with a StairsText.
func ParseStairs(t string) (Stairs, bool) {
	first, rest, _ := strings.Cut(t, "s")
	strides, broken, _ := strings.Cut(rest, "x")
	steps, _ := strconv.Atoi(first)
	s := Stairs{Steps: steps, Strides: numbersIn(strides, ","), Broken: numbersIn(broken, ",")}
	// What was no number, or was written in another way, is found by writing the text again.
	if text, ok := StairsText(s); !ok || text != t {
		return Stairs{}, false
	}
	return s, true
}

func numbersText(numbers []int, between string) string {
	words := make([]string, len(numbers))
	for i, n := range numbers {
		words[i] = strconv.Itoa(n)
	}
	return strings.Join(words, between)
}

// numbersIn returns the numbers of a text, and nil if a word of it is none.
func numbersIn(text string, between string) []int {
	var numbers []int
	for word := range strings.SplitSeq(text, between) {
		n, err := strconv.Atoi(word)
		if err != nil {
			return nil
		}
		numbers = append(numbers, n)
	}
	return numbers
}
