package tests

import (
	"math"
	"slices"
	"testing"

	"loop.example/g01374/impl"
)

// houseCalls returns the functions of chapter 4 that a house is given to.
func houseCalls() []named {
	return []named{
		{"IsHouse", impl.IsHouse},
		{"StepsTo", impl.StepsTo},
		{"StepsBetween", impl.StepsBetween},
		{"FloorOfStep", impl.FloorOfStep},
		{"LandingsNeeded", impl.LandingsNeeded},
		{"LandingsAt", impl.LandingsAt},
		{"LongestStairs", impl.LongestStairs},
		{"DoorsInHouse", impl.DoorsInHouse},
		{"FloorOfDoor", impl.FloorOfDoor},
		{"DoorsOfFloor", impl.DoorsOfFloor},
		{"WalkToDoors", impl.WalkToDoors},
		{"LeastWalk", impl.LeastWalk},
		{"FirstLeastWalk", impl.FirstLeastWalk},
		{"MeetFloor", impl.MeetFloor},
		{"MiddleFloor", impl.MiddleFloor},
		{"StairsAbove", impl.StairsAbove},
		{"DropFloor", impl.DropFloor},
		{"AddFloor", impl.AddFloor},
		{"HouseText", impl.HouseText},
	}
}

func houseNumbers() []int {
	return []int{math.MinInt, math.MinInt + 1, -1, 0, 1, 2, 3, 11, 12, 13, 20, 21, 40, 41, 240, 241, 440, 441, math.MaxInt - 1, math.MaxInt}
}

func doorLists() [][]int {
	return [][]int{
		nil, {}, {0}, {1}, {-1}, {6, 1, 3}, {6, 6}, {7, 1}, {1, 0, 2}, {240, 1}, {241}, {math.MinInt, math.MaxInt}, {math.MaxInt},
		upTo(20), upTo(21), slices.Repeat([]int{2, 1}, 10), slices.Repeat([]int{1}, 21), make([]int, 1000),
	}
}

func TestNothingWorksWithoutHouse(t *testing.T) {
	wantAllFail(t, houseCalls(), oddHouses(), houseNumbers(), doorLists())
	wantAllFail(t, []named{{"ParseHouse", impl.ParseHouse}}, oddHouseTexts())
}

func TestHouseCallsAreTotal(t *testing.T) {
	houses := append(variedHouses(), built([]int{1}, []int{0, 0}), built([]int{40}, []int{20, 20}), built([]int{3, 4}, []int{1, 0, 5}))
	// The longest of the odd houses is held above: to copy it for each choice takes too long.
	odd := oddHouses()
	holdTotal(t, houseCalls(), append(houses, odd[:len(odd)-1]...), houseNumbers(), doorLists())
	holdTotal(t, []named{{"ParseHouse", impl.ParseHouse}}, append(oddHouseTexts(), "2^10:3^8:1", "0^1:0", "20^40:20"))
}
