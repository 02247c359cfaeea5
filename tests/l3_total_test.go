package tests

import (
	"math"
	"testing"

	"loop.example/g01374/impl"
)

// movingCalls returns the functions of chapter 3 that a moving stair is given to.
func movingCalls() []named {
	return []named{
		{"IsMoving", impl.IsMoving},
		{"TimeWith", impl.TimeWith},
		{"StepsWith", impl.StepsWith},
		{"TimeAgainst", impl.TimeAgainst},
		{"StepsAgainst", impl.StepsAgainst},
		{"PaceForSteps", impl.PaceForSteps},
		{"MeetTime", impl.MeetTime},
		{"MeetStep", impl.MeetStep},
		{"CatchUp", impl.CatchUp},
		{"RoundTrip", impl.RoundTrip},
		{"RailLead", impl.RailLead},
		{"WholeTimes", impl.WholeTimes},
		{"FullHouse", impl.FullHouse},
		{"PlaceAt", impl.PlaceAt},
		{"MovingText", impl.MovingText},
	}
}

// countCalls returns those that only counts are given to.
func countCalls() []named {
	return []named{
		{"VisibleFromTwo", impl.VisibleFromTwo},
		{"SpeedFromTwo", impl.SpeedFromTwo},
		{"VisibleFromBoth", impl.VisibleFromBoth},
	}
}

func paceNumbers() []int {
	return []int{math.MinInt, math.MinInt + 1, -1, 0, 1, 2, 3, 5, 19, 20, 21, 60, 1000, 1001, 10000, 10001, math.MaxInt - 1, math.MaxInt}
}

func TestNothingWorksWithoutMoving(t *testing.T) {
	wantAllFail(t, movingCalls(), oddMoving(), paceNumbers())
	wantAllFail(t, []named{{"ParseMoving", impl.ParseMoving}}, oddMovingTexts())
}

func TestMovingCallsAreTotal(t *testing.T) {
	all := append(oddMoving(), stair(1, 0), stair(1, 20), stair(60, 0), stair(60, 2), stair(500, 0), stair(500, 20))
	holdTotal(t, movingCalls(), all, paceNumbers())
	holdTotal(t, countCalls(), paceNumbers())
	holdTotal(t, []named{{"ParseMoving", impl.ParseMoving}}, append(oddMovingTexts(), "1v0", "60v2", "500v20"))
}
