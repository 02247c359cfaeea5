/- Contracts: floors, and steps between them, on both sides. -/
import Derived.Test.YtmamcjnehnknmaaHoSum
import Derived.Test.YtmamcjnehnknmaaWK
import Derived.Deep.RegionHeld3
namespace Go.Proofs.Ytmamcjnehnknmaa
open Go.RowKit

def orI (v : Bool) (a : Int) : Int := if v then a else 0
theorem orI_no (a : Int) : orI false a = 0 := rfl
theorem orI_yes (a : Int) : orI true a = a := rfl
def floorB (ss bs : List Int) (x : Int) : Bool := goodH ss bs && inB x 0 ss.length
theorem floorB_1 {ss bs : List Int} {x : Int} (h : goodH ss bs = false) : floorB ss bs x = false := by simp [floorB, h]
theorem floorB_2 {ss bs : List Int} {x : Int} (h : goodH ss bs = true) : floorB ss bs x = inB x 0 ss.length := by simp [floorB, h]
theorem floorB_good {ss bs : List Int} {x : Int} (h : floorB ss bs x = true) : goodH ss bs = true ∧ ∃ k : Nat, x = k ∧ k ≤ ss.length := by
  simp only [floorB, Bool.and_eq_true] at h
  have := inB_le h.2
  exact ⟨h.1, x.toNat, by omega, by omega⟩
/-- steps between floors -/
def btw (ss : List Int) (a b : Nat) : Int := if a ≤ b then upTo ss b - upTo ss a else upTo ss a - upTo ss b
theorem btw_le {ss : List Int} {a b : Nat} (h : a ≤ b) : btw ss a b = upTo ss b - upTo ss a := if_pos h
theorem btw_ge {ss : List Int} {a b : Nat} (h : ¬ a ≤ b) : btw ss a b = upTo ss a - upTo ss b := if_neg h
theorem up_mono {ss bs : List Int} (G : GoodH ss bs) {a : Nat} : ∀ (b : Nat), a ≤ b → b ≤ ss.length → upTo ss a ≤ upTo ss b
  | b, h, hb => by
    have e := sumH_part ss h
    have := sumH_bd (m := 1000) (xs := (ss.take b).drop a) (by omega) (part_bd G.s b a) ((ss.take b).drop a).length (Nat.le_refl _)
    rw [List.take_length] at this
    unfold upTo
    omega
theorem btw_bd {ss bs : List Int} (G : GoodH ss bs) {a b : Nat} (ha : a ≤ ss.length) (hb : b ≤ ss.length) : 0 ≤ btw ss a b ∧ btw ss a b ≤ 440 := by
  have h1 := G.up ha
  have h2 := G.up hb
  by_cases h : a ≤ b
  · rw [btw_le h]; have := up_mono G b h hb; omega
  · rw [btw_ge h]; have := up_mono G (a := b) a (by omega) ha; omega



def bigI (a b : Int) : Int := if b < a then a else b
theorem bigI_1 {a b : Int} (h : b < a) : bigI a b = a := if_pos h
theorem bigI_2 {a b : Int} (h : ¬ b < a) : bigI a b = b := if_neg h
set_option maxHeartbeats 400000 in
theorem l1Most_any (a b : Int) (w : World) :
    Calls Try.prog 92 #[.int .i64 a, .int .i64 b] w fun e w' => e = .returned (.int .i64 (bigI a b)) ∧ w = w' := by
  by_cases h : b < a
  · rw [bigI_1 h]
    go_enter Try.func92, Try.ntmps92
    go_wp2
    go_ret
    exact ⟨rfl, rfl⟩
  · rw [bigI_2 h]
    go_enter Try.func92, Try.ntmps92
    go_wp2
    go_ret
    exact ⟨rfl, rfl⟩

set_option maxHeartbeats 400000 in
theorem l1Abs_any (x : Int) (w : World) (h0 : -1000000 ≤ x) (h1 : x ≤ 1000000) :
    Calls Try.prog 77 #[.int .i64 x] w fun e w' => e = .returned (.int .i64 (bigI x (-x))) ∧ w = w' := by
  go_enter Try.func77, Try.ntmps77
  go_wp2_with fail
  refine (l1Most_any _ _ _).mono ?_
  rintro e w' ⟨rfl, rfl⟩
  go_wp2_with fail
  go_ret
  exact ⟨rfl, rfl⟩

theorem abs_btw {ss bs : List Int} (G : GoodH ss bs) {a b : Nat} (ha : a ≤ ss.length) (hb : b ≤ ss.length) : bigI (upTo ss a - upTo ss b) (-(upTo ss a - upTo ss b)) = btw ss a b := by
  by_cases h : a ≤ b
  · rw [btw_le h]; have := up_mono G b h hb; unfold bigI; split <;> omega
  · rw [btw_ge h]; have := up_mono G (a := b) a (by omega) ha; unfold bigI; split <;> omega

set_option maxHeartbeats 400000 in
theorem ldTo_lit (A A' : Option Addr) (c c' : Nat) (ss bs : List Int) (k : Nat) (B : Nat) (w : World) (h : Ho w B A A' c c' ss bs) (hB : B ≤ w.heap.size) (G : GoodH ss bs) (hk : k ≤ ss.length) :
    Calls Try.prog 65 #[.agg #[.slice A ss.length c, .slice A' bs.length c'], .int .i64 k] w fun e w' => e = .returned (.int .i64 (upTo ss k)) ∧ w.alloc (.cells #[.slice A ss.length c, .slice A' bs.length c'] 26) = w' := by
  have h1 := h.alloc hB (.cells #[.slice A ss.length c, .slice A' bs.length c'] 26)
  have hc := h.rs.1
  have hns := h.ns
  have hn1 := G.n1
  go_enter Try.func65, Try.ntmps65
  go_wp2_with fail
  refine (ldSum_any _ _ _ (ss.take k) B _ (by simp; omega) (h1.rs.take hk) (by simp; omega) (take_bd G.s k)).mono ?_
  rintro e w' ⟨rfl, rfl⟩
  go_wp2_with fail
  go_ret
  exact ⟨rfl, rfl⟩

theorem Ho.alloc' {w : World} {B : Nat} {A A' : Option Addr} {c c' : Nat} {ss bs : List Int} (h : Ho w B A A' c c' ss bs) {o : Obj} (hB : B ≤ w.heap.size) : Ho (w.alloc o) B A A' c c' ss bs := h.alloc hB o

set_option maxHeartbeats 1000000 in
theorem ldBetween_any (A A' : Option Addr) (c c' : Nat) (ss bs : List Int) (a b : Nat) (B : Nat) (w : World) (h : Ho w B A A' c c' ss bs) (hB : B ≤ w.heap.size) (G : GoodH ss bs) (ha : a ≤ ss.length) (hb : b ≤ ss.length) :
    Calls Try.prog 64 #[.agg #[.slice A ss.length c, .slice A' bs.length c'], .int .i64 a, .int .i64 b] w (Plain (.int .i64 (btw ss a b)) w) := by
  have h1 := h.alloc hB (.cells #[.slice A ss.length c, .slice A' bs.length c'] 26)
  have X0 : Blk (w.alloc (.cells #[.slice A ss.length c, .slice A' bs.length c'] 26)) w.heap.size 26 #[.slice A ss.length c, .slice A' bs.length c'] := Blk.new _ _ _
  have Bt := below_alloc w (.cells #[.slice A ss.length c, .slice A' bs.length c'] 26)
  have ua := G.up ha
  have ub := G.up hb
  have hs : w.heap.size < (w.alloc (.cells #[.slice A ss.length c, .slice A' bs.length c'] 26)).heap.size := by simp
  have E := Lib.hid (abs_btw G ha hb)
  have E1 : IntKind.i64.wrap (upTo ss a - upTo ss b) = upTo ss a - upTo ss b := IntWalk.i64_in _ (by omega)
  obtain ⟨p0, p1⟩ := X0.two
  go_enter Try.func64, Try.ntmps64
  go_wp2_with fail
  generalize hW : w.alloc (.cells #[.slice A ss.length c, .slice A' bs.length c'] 26) = w1 at *
  replace hW := trivial
  go_region_held3 (fun w' => w'.cell? ⟨w.heap.size, 0, none⟩ = some (.slice A ss.length c) ∧ w'.cell? ⟨w.heap.size, 1, none⟩ = some (.slice A' bs.length c')) (refine ⟨?_, ?_⟩ <;> (repeat (first | assumption | refine keepA ?_ | refine keepD ?_)))
    (first | (go_at_call 65; refine (ldTo_lit _ _ _ _ _ _ _ B _ (by repeat (first | exact h1 | refine Ho.drew ?_ | refine Ho.alloc' ?_ (by first | omega | (simp; omega)))) (by first | omega | (simp; omega)) G (by first | exact ha | exact hb)).mono ?_; rintro e wq ⟨rfl, rfl⟩) | (go_at_call 77; (try rw [E1]); refine (l1Abs_any _ _ (by omega) (by omega)).mono ?_; rintro e wq ⟨rfl, rfl⟩))
  all_goals (go_wp2_with fail; go_ret; refine ⟨ret_int E.out, ?_⟩; repeat (first | exact Bt | refine keepB ?_ | refine Below.drew ?_))

theorem sliceRd {w : World} {B c k : Nat} {A : Option Addr} {xs : List Int} (h : Rd w B (if c = k then A else A.map (·.add k)) (c - k) xs) (hk : k < c) : Rd w B (A.map fun x => x.add k) (c - k) xs := by
  rwa [if_neg (by omega)] at h
set_option maxHeartbeats 800000 in
theorem stepsBetween_any (A A' : Option Addr) (c c' : Nat) (ss bs : List Int) (a b : Nat) (B : Nat) (w : World) (h : Ho w B A A' c c' ss bs) (hB : B ≤ w.heap.size) (G : GoodH ss bs) (ha : a ≤ ss.length) (hb : b ≤ ss.length) :
    Calls Try.prog 49 #[.agg #[.slice A ss.length c, .slice A' bs.length c'], .int .i64 a, .int .i64 b] w fun e w' => e = .returned (.int .i64 (btw ss a b)) ∧ w.alloc (.cells #[.slice A ss.length c, .slice A' bs.length c'] 26) = w' := by
  have h1 := h.alloc hB (.cells #[.slice A ss.length c, .slice A' bs.length c'] 26)
  have hc := h.rs.1
  have hn1 := G.n1
  by_cases hab : (a : Int) < (b : Int)
  · have hab1 : (a : Int) ≤ (b : Int) := by omega
    rw [btw_le (by omega), show upTo ss b - upTo ss a = sumH ((ss.take b).drop a) from (sumH_part ss (by omega)).symm]
    go_enter Try.func49, Try.ntmps49
    go_wp2_with fail
    refine (sum_any _ _ _ ((ss.take b).drop a) B _ (by simp; omega) (sliceRd ((h1.rs.take hb).drop (by simp; omega)) (by omega)) (by simp; omega) (part_bd G.s b a)).mono ?_
    rintro e w' ⟨rfl, rfl⟩
    go_wp2_with fail
    go_ret
    exact ⟨rfl, rfl⟩
  by_cases hba : (b : Int) < (a : Int)
  · have hab1 : ¬ (a : Int) ≤ (b : Int) := by omega
    rw [btw_ge (by omega), show upTo ss a - upTo ss b = sumH ((ss.take a).drop b) from (sumH_part ss (by omega)).symm]
    go_enter Try.func49, Try.ntmps49
    go_wp2_with fail
    refine (sum_any _ _ _ ((ss.take a).drop b) B _ (by simp; omega) (sliceRd ((h1.rs.take ha).drop (by simp; omega)) (by omega)) (by simp; omega) (part_bd G.s a b)).mono ?_
    rintro e w' ⟨rfl, rfl⟩
    go_wp2_with fail
    go_ret
    exact ⟨rfl, rfl⟩
  obtain rfl : a = b := by omega
  rw [btw_le (by omega), show upTo ss a - upTo ss a = sumH [] by simp [sumH]]
  by_cases hca : c = a
  · subst hca
    go_enter Try.func49, Try.ntmps49
    go_wp2_with fail
    refine (sum_any _ _ _ [] B _ rfl Rd.nil (by simp) (fun k hk => absurd hk (by simp))).mono ?_
    rintro e w' ⟨rfl, rfl⟩
    go_wp2_with fail
    go_ret
    exact ⟨rfl, rfl⟩
  · go_enter Try.func49, Try.ntmps49
    go_wp2_with fail
    refine (sum_any _ _ _ [] B _ rfl Rd.nil (by simp) (fun k hk => absurd hk (by simp))).mono ?_
    rintro e w' ⟨rfl, rfl⟩
    go_wp2_with fail
    go_ret
    exact ⟨rfl, rfl⟩

end Go.Proofs.Ytmamcjnehnknmaa
