/- Contracts: StepsTo and StepsBetween, on both sides. -/
import Derived.Test.YtmamcjnehnknmaaHoBtw
namespace Go.Proofs.Ytmamcjnehnknmaa
open Go.RowKit


theorem stepsBetween_new (A A' : Option Addr) (c c' : Nat) (ss bs : List Int) (a b : Nat) (B : Nat) (w : World) (h : Ho w B A A' c c' ss bs) (hB : B ≤ w.heap.size) (G : GoodH ss bs) (ha : a ≤ ss.length) (hb : b ≤ ss.length) :
    Calls Try.prog 49 #[.agg #[.slice A ss.length c, .slice A' bs.length c'], .int .i64 a, .int .i64 b] w (Plain (.int .i64 (btw ss a b)) w) :=
  (stepsBetween_any A A' c c' ss bs a b B w h hB G ha hb).mono fun _ _ ⟨he, hw⟩ => ⟨he, by rw [← hw]; exact below_alloc _ _⟩



theorem floor0 (ss bs : List Int) (x : Int) : (floorB ss bs 0 && floorB ss bs x) = floorB ss bs x := by
  cases g : floorB ss bs x
  · simp
  · have := (floorB_good g).1
    simp [floorB, this, inB]
theorem orTo0 (ss bs : List Int) (x : Int) : orI (floorB ss bs 0 && floorB ss bs x) (btw ss (0 : Int).toNat x.toNat) = orI (floorB ss bs 0 && floorB ss bs x) (upTo ss x.toNat) := by
  rw [show (0 : Int).toNat = 0 from rfl, btw_le (Nat.zero_le _), show upTo ss 0 = 0 by simp [upTo, sumH], Int.sub_zero]


end Go.Proofs.Ytmamcjnehnknmaa
